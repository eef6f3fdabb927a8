/- The program's endpoint: one comes and waits. -/
import Derived.Test.YthnpkojfkhndoaaKEpL5
import Derived.Test.YthnpkojfkhndoaaKEpL3
namespace Go.Proofs.Ythnpkojfkhndoaa
open Go.RowKit
set_option linter.unusedVariables false
set_option linter.unusedSimpArgs false
set_option maxRecDepth 8000 in
set_option maxHeartbeats 4000000 in
theorem esend_no {w wr : World} {t : Nat} {S : List Ms} {F : List Nat} (h : EIn w t S [] F wr) (hS0 : S.length < 65536) {q1 q2 : Int} (hi : IdW q1 q2) (wd bd : Int) (cl : Bool) :
    Calls Try.prog 8 #[.pointer (some ⟨t, 0, none⟩), .agg #[.int .i64 q1, .int .i64 q2, .int .u32 wd, .int .i64 bd, .bool cl]] wr (EC w t (S ++ [(q1, q2, wd, bd, cl)]) [] F wr (.tuple #[.agg #[.int .i64 0, .int .i64 0, .int .i64 0], .bool false])) := by
  obtain ⟨kp, ⟨va, ka, vb, kb, rfl, hB, hS, hR, hbt⟩, hs1, hs2, _⟩ := h
  have hbw := kp.size
  have hG0 := hR
  obtain ⟨D, hg, hgd, hgh⟩ := hG0
  obtain rfl := ln_nil hgd hgh
  have K0 := ((Kp.refl [] wr).alloc (.cells #[.int .i64 q1, .int .i64 q2, .int .u32 wd, .int .i64 bd, .bool cl] 47)).alloc (.cells #[.int .i64 0, .int .i64 0, .int .i64 0] 42)
  have HP := hide (rpop_no (hB.kept K0 (by simp)) (hg.grew K0))
  have B0 := hide ((Bk.new wr 47 [.int .i64 q1, .int .i64 q2, .int .u32 wd, .int .i64 bd, .bool cl]).alloc (.cells #[.int .i64 0, .int .i64 0, .int .i64 0] 42))
  have C0 := hide (Gr.bk_next (wr.alloc (.cells #[.int .i64 q1, .int .i64 q2, .int .u32 wd, .int .i64 bd, .bool cl] 47)) 42 [.int .i64 0, .int .i64 0, .int .i64 0] (p := wr.heap.size + 1) (by simp))
  have hs0 : Hid (wr.heap.size + 2 = ((wr.alloc (.cells #[.int .i64 q1, .int .i64 q2, .int .u32 wd, .int .i64 bd, .bool cl] 47)).alloc (.cells #[.int .i64 0, .int .i64 0, .int .i64 0] 42)).heap.size) := by unfold Hid; simp
  replace K0 := hide K0
  replace hB := hide hB
  replace hg := hide hg
  replace kp := hide kp
  replace hS := hide hS
  replace hR := hide hR
  go_enter Try.func8, Try.ntmps8
  go_wp2_with fail
  refine (unhide HP).mono ?_
  rintro e W1 ⟨rfl, K1⟩
  have K1a := K1.alloc (.cells #[.int .i64 0, .int .i64 0, .int .i64 0] 42)
  have K2 := hide ((unhide K0).then K1a)
  have B2 := hide ((unhide B0).kept K1a (by simp))
  have C2 := hide ((unhide C0).kept K1a (by simp))
  have D2 := hide (Bk.new W1 42 [.int .i64 0, .int .i64 0, .int .i64 0])
  have hs1W : Hid (wr.heap.size + 2 ≤ W1.heap.size) := by unfold Hid; have := unhide hs0; have := K1.size; omega
  have hs2W : Hid (W1.heap.size < (W1.alloc (.cells #[.int .i64 0, .int .i64 0, .int .i64 0] 42)).heap.size) := by unfold Hid; simp
  clear HP K1 K1a B0 C0 K0
  go_upto_region 3 with fail
  generalize W1.alloc (.cells #[.int .i64 0, .int .i64 0, .int .i64 0] 42) = W2 at *
  have m0 := (unhide B2).cell (i := 0) rfl
  have m1 := (unhide B2).cell (i := 1) rfl
  have m2 := (unhide B2).cell (i := 2) rfl
  have m3 := (unhide B2).cell (i := 3) rfl
  have m4 := (unhide B2).cell (i := 4) rfl
  have hC0 := unhide hS
  obtain ⟨C, hr, hd, hh⟩ := hC0
  obtain ⟨hl1, hl2⟩ := ln_small hd hh (n := 65536) (by omega)
  have kd := ((Kp.refl [] W2).drew)
  have hP := hide (mpush (((unhide hB).kept ((unhide K2).then kd) (by simp))) (hr.grew ((unhide K2).then kd)) (by have := (unhide K2).size; have := kd.size; omega) (by omega) q1 q2 wd bd cl)
  replace hr := hide hr
  have hQ : Hid (Calls Try.prog 18 #[.pointer (some ⟨t, 0, none⟩), .agg #[.int .i64 q1, .int .i64 q2, .int .u32 wd, .int .i64 bd, .bool cl]] W2.drew (fun e W3 => e = .returned (.tuple #[]) ∧ Bk W3 W1.heap.size 42 [.int .i64 0, .int .i64 0, .int .i64 0] ∧ Bk W3 (wr.heap.size + 1) 42 [.int .i64 0, .int .i64 0, .int .i64 0] ∧ ∃ v', Bk W3 t 31 [v', .int .i64 (ka : Int), vb, .int .i64 (kb : Int)] ∧ Gr.Rw (msE 47) w.heap.size W3 v' (C ++ [(q1, q2, wd, bd, cl)]) ∧ Kp (t :: va.ownBlock.toList) W2.drew W3 ∧ ∀ q, v'.ownBlock = some q → va.ownBlock = some q ∨ W2.drew.heap.size ≤ q)) := by
    refine (unhide hP).mono ?_
    rintro e W3 ⟨rfl, v', hB3, hr3, K3, hv3⟩
    have hlt := (unhide hB).lt
    have hsz := unhide hs1W
    have hlr := fun m hm => ((unhide hr).lt (g := m) hm).2
    refine ⟨rfl, (show Bk W2.drew _ _ _ from unhide D2).kept K3 (by simp; exact ⟨by omega, fun m => by have := hlr _ m; omega⟩), (show Bk W2.drew _ _ _ from unhide C2).kept K3 (by simp; exact ⟨by omega, fun m => by have := hlr _ m; omega⟩), v', hB3, hr3, K3, hv3⟩
  clear hP
  go_region_with ((go_at_call 18; go_loud (refine (unhide hQ).mono ?_; rintro e W3 ⟨rfl, D3, C3, v', hB3, hr3, K3, hv3⟩; have c3 := C3.frozen; have d0 := D3.cell (i := 0) rfl; have d1 := D3.cell (i := 1) rfl; have d2 := D3.cell (i := 2) rfl; have f0 := C3.cell (i := 0) rfl; have f1 := C3.cell (i := 1) rfl; have f2 := C3.cell (i := 2) rfl; replace D3 := hide D3; replace C3 := hide C3; replace hB3 := hide hB3; replace hr3 := hide hr3; replace K3 := hide K3; replace hv3 := hide hv3)))
  all_goals
    have k5 : Kp [wr.heap.size + 1] W3 ((((W3).setCell ⟨wr.heap.size + 1, 0, none⟩ (.int .i64 0)).setCell ⟨wr.heap.size + 1, 1, none⟩ (.int .i64 0)).setCell ⟨wr.heap.size + 1, 2, none⟩ (.int .i64 0)) := ((((Kp.refl [wr.heap.size + 1] W3).setCell (p := ⟨wr.heap.size + 1, 0, none⟩) (.inl (by simp)) (.int .i64 0)).setCell (p := ⟨wr.heap.size + 1, 1, none⟩) (.inl (by simp)) (.int .i64 0)).setCell (p := ⟨wr.heap.size + 1, 2, none⟩) (.inl (by simp)) (.int .i64 0))
    have hfin : Hid (EC w t (S ++ [(q1, q2, wd, bd, cl)]) [] (va.ownBlock.toList ++ vb.ownBlock.toList) wr (.tuple #[.agg #[.int .i64 0, .int .i64 0, .int .i64 0], .bool false]) (.returned (.tuple #[.agg #[.int .i64 0, .int .i64 0, .int .i64 0], .bool false])) ((((W3).setCell ⟨wr.heap.size + 1, 0, none⟩ (.int .i64 0)).setCell ⟨wr.heap.size + 1, 1, none⟩ (.int .i64 0)).setCell ⟨wr.heap.size + 1, 2, none⟩ (.int .i64 0))) := by
      have hlt := (unhide hB).lt
      have hrlt := fun q hq => ((unhide hr).lt (g := q) hq).2
      have hsz2 := unhide hs1W
      have hsz3 := unhide hs2W
      have KA := (((unhide K2).then kd).trans (unhide K3) (T := t :: va.ownBlock.toList) (by simp) (fun i m => .inl m)).trans k5 (T := t :: va.ownBlock.toList) (fun i m => m) (fun i m => .inr (by rw [List.mem_singleton.1 m]; omega))
      have hv5 : ∀ q, v'.ownBlock = some q → va.ownBlock = some q ∨ wr.heap.size + 1 < q := fun q hq => (unhide hv3 q hq).imp id (fun e => by have := kd.size; omega)
      have hn5 : ∀ q, v'.ownBlock = some q → q ∉ [wr.heap.size + 1] := fun q hq m => by
        rw [List.mem_singleton.1 m] at hq
        rcases hv5 _ hq with e | e
        · have := hrlt _ e; omega
        · omega
      obtain ⟨F', hF, kF, hFn⟩ := PE.putS (unhide hB) (unhide hR) hbt KA (fun g m => by rcases List.mem_cons.1 m with e | e; exact .inl e; exact .inr (Option.mem_toList.1 e)) (unhide hr) ((unhide hB3).kept k5 (by simp; omega)) ((Ln.more (unhide hr3) hd hh).kept k5 hn5) (fun q hq => (hv5 q hq).imp id (fun e => by omega))
      exact ⟨rfl, F', ⟨(unhide kp).trans kF (by simp) (fun i m => .inr (by rcases List.mem_cons.1 m with e | e; rw [e]; exact hbt; rcases List.mem_append.1 e with e | e; exact ((unhide hr).lt (Option.mem_toList.1 e)).1; exact ((unhide hg).lt (Option.mem_toList.1 e)).1)), hF, by simp; omega, by simp, .inr rfl⟩, kF, hFn⟩
    replace hfin := hide hfin
    clear hB3 hr3 K3 hv3 k5 D3 C3
    go_wp2
    exact bodyPost_ret (v := .tuple #[.agg #[.int .i64 0, .int .i64 0, .int .i64 0], .bool false]) (by simp [results, Try.results8, go_sem, *]) rfl (unhide (unhide hfin))
set_option maxRecDepth 8000 in
set_option maxHeartbeats 4000000 in
theorem erecv_no {w wr : World} {t : Nat} {R : List Rc} {F : List Nat} (h : EIn w t [] R F wr) (hR0 : R.length < 65536) {q1 q2 : Int} (hi : IdW q1 q2) (rp : Int) :
    Calls Try.prog 12 #[.pointer (some ⟨t, 0, none⟩), .agg #[.int .i64 q1, .int .i64 q2, .int .i64 rp]] wr (EC w t [] (R ++ [(q1, q2, rp)]) F wr (.tuple #[.agg #[.int .i64 0, .int .i64 0, .int .u32 0, .int .i64 0, .bool false], .bool false])) := by
  obtain ⟨kp, ⟨va, ka, vb, kb, rfl, hB, hS, hR, hbt⟩, hs1, hs2, _⟩ := h
  have hbw := kp.size
  have hG0 := hS
  obtain ⟨C, hg, hgd, hgh⟩ := hG0
  obtain rfl := ln_nil hgd hgh
  have K0 := ((Kp.refl [] wr).alloc (.cells #[.int .i64 q1, .int .i64 q2, .int .i64 rp] 42)).alloc (.cells #[.int .i64 0, .int .i64 0, .int .u32 0, .int .i64 0, .bool false] 47)
  have HP := hide (mpop_no (hB.kept K0 (by simp)) (hg.grew K0))
  have B0 := hide ((Bk.new wr 42 [.int .i64 q1, .int .i64 q2, .int .i64 rp]).alloc (.cells #[.int .i64 0, .int .i64 0, .int .u32 0, .int .i64 0, .bool false] 47))
  have C0 := hide (Gr.bk_next (wr.alloc (.cells #[.int .i64 q1, .int .i64 q2, .int .i64 rp] 42)) 47 [.int .i64 0, .int .i64 0, .int .u32 0, .int .i64 0, .bool false] (p := wr.heap.size + 1) (by simp))
  have hs0 : Hid (wr.heap.size + 2 = ((wr.alloc (.cells #[.int .i64 q1, .int .i64 q2, .int .i64 rp] 42)).alloc (.cells #[.int .i64 0, .int .i64 0, .int .u32 0, .int .i64 0, .bool false] 47)).heap.size) := by unfold Hid; simp
  replace K0 := hide K0
  replace hB := hide hB
  replace hg := hide hg
  replace kp := hide kp
  replace hS := hide hS
  replace hR := hide hR
  go_enter Try.func12, Try.ntmps12
  go_wp2_with fail
  refine (unhide HP).mono ?_
  rintro e W1 ⟨rfl, K1⟩
  have K1a := K1.alloc (.cells #[.int .i64 0, .int .i64 0, .int .u32 0, .int .i64 0, .bool false] 47)
  have K2 := hide ((unhide K0).then K1a)
  have B2 := hide ((unhide B0).kept K1a (by simp))
  have C2 := hide ((unhide C0).kept K1a (by simp))
  have D2 := hide (Bk.new W1 47 [.int .i64 0, .int .i64 0, .int .u32 0, .int .i64 0, .bool false])
  have hs1W : Hid (wr.heap.size + 2 ≤ W1.heap.size) := by unfold Hid; have := unhide hs0; have := K1.size; omega
  have hs2W : Hid (W1.heap.size < (W1.alloc (.cells #[.int .i64 0, .int .i64 0, .int .u32 0, .int .i64 0, .bool false] 47)).heap.size) := by unfold Hid; simp
  clear HP K1 K1a B0 C0 K0
  go_upto_region 3 with fail
  generalize W1.alloc (.cells #[.int .i64 0, .int .i64 0, .int .u32 0, .int .i64 0, .bool false] 47) = W2 at *
  have m0 := (unhide B2).cell (i := 0) rfl
  have m1 := (unhide B2).cell (i := 1) rfl
  have m2 := (unhide B2).cell (i := 2) rfl
  have hC0 := unhide hR
  obtain ⟨D, hr, hd, hh⟩ := hC0
  obtain ⟨hl1, hl2⟩ := ln_small hd hh (n := 65536) (by omega)
  have kd := ((Kp.refl [] W2).drew)
  have hP := hide (rpush (((unhide hB).kept ((unhide K2).then kd) (by simp))) (hr.grew ((unhide K2).then kd)) (by have := (unhide K2).size; have := kd.size; omega) (by omega) q1 q2 rp)
  replace hr := hide hr
  have hQ : Hid (Calls Try.prog 24 #[.pointer (some ⟨t, 2, none⟩), .agg #[.int .i64 q1, .int .i64 q2, .int .i64 rp]] W2.drew (fun e W3 => e = .returned (.tuple #[]) ∧ Bk W3 W1.heap.size 47 [.int .i64 0, .int .i64 0, .int .u32 0, .int .i64 0, .bool false] ∧ Bk W3 (wr.heap.size + 1) 47 [.int .i64 0, .int .i64 0, .int .u32 0, .int .i64 0, .bool false] ∧ ∃ v', Bk W3 t 31 [va, .int .i64 (ka : Int), v', .int .i64 (kb : Int)] ∧ Gr.Rw (rcE 42) w.heap.size W3 v' (D ++ [(q1, q2, rp)]) ∧ Kp (t :: vb.ownBlock.toList) W2.drew W3 ∧ ∀ q, v'.ownBlock = some q → vb.ownBlock = some q ∨ W2.drew.heap.size ≤ q)) := by
    refine (unhide hP).mono ?_
    rintro e W3 ⟨rfl, v', hB3, hr3, K3, hv3⟩
    have hlt := (unhide hB).lt
    have hsz := unhide hs1W
    have hlr := fun m hm => ((unhide hr).lt (g := m) hm).2
    refine ⟨rfl, (show Bk W2.drew _ _ _ from unhide D2).kept K3 (by simp; exact ⟨by omega, fun m => by have := hlr _ m; omega⟩), (show Bk W2.drew _ _ _ from unhide C2).kept K3 (by simp; exact ⟨by omega, fun m => by have := hlr _ m; omega⟩), v', hB3, hr3, K3, hv3⟩
  clear hP
  go_region_with ((go_at_call 24; go_loud (refine (unhide hQ).mono ?_; rintro e W3 ⟨rfl, D3, C3, v', hB3, hr3, K3, hv3⟩; have c3 := C3.frozen; have d0 := D3.cell (i := 0) rfl; have d1 := D3.cell (i := 1) rfl; have d2 := D3.cell (i := 2) rfl; have d3 := D3.cell (i := 3) rfl; have d4 := D3.cell (i := 4) rfl; have f0 := C3.cell (i := 0) rfl; have f1 := C3.cell (i := 1) rfl; have f2 := C3.cell (i := 2) rfl; have f3 := C3.cell (i := 3) rfl; have f4 := C3.cell (i := 4) rfl; replace D3 := hide D3; replace C3 := hide C3; replace hB3 := hide hB3; replace hr3 := hide hr3; replace K3 := hide K3; replace hv3 := hide hv3)))
  all_goals
    have k5 : Kp [wr.heap.size + 1] W3 ((((((W3).setCell ⟨wr.heap.size + 1, 0, none⟩ (.int .i64 0)).setCell ⟨wr.heap.size + 1, 1, none⟩ (.int .i64 0)).setCell ⟨wr.heap.size + 1, 2, none⟩ (.int .u32 0)).setCell ⟨wr.heap.size + 1, 3, none⟩ (.int .i64 0)).setCell ⟨wr.heap.size + 1, 4, none⟩ (.bool false)) := ((((((Kp.refl [wr.heap.size + 1] W3).setCell (p := ⟨wr.heap.size + 1, 0, none⟩) (.inl (by simp)) (.int .i64 0)).setCell (p := ⟨wr.heap.size + 1, 1, none⟩) (.inl (by simp)) (.int .i64 0)).setCell (p := ⟨wr.heap.size + 1, 2, none⟩) (.inl (by simp)) (.int .u32 0)).setCell (p := ⟨wr.heap.size + 1, 3, none⟩) (.inl (by simp)) (.int .i64 0)).setCell (p := ⟨wr.heap.size + 1, 4, none⟩) (.inl (by simp)) (.bool false))
    have hfin : Hid (EC w t [] (R ++ [(q1, q2, rp)]) (va.ownBlock.toList ++ vb.ownBlock.toList) wr (.tuple #[.agg #[.int .i64 0, .int .i64 0, .int .u32 0, .int .i64 0, .bool false], .bool false]) (.returned (.tuple #[.agg #[.int .i64 0, .int .i64 0, .int .u32 0, .int .i64 0, .bool false], .bool false])) ((((((W3).setCell ⟨wr.heap.size + 1, 0, none⟩ (.int .i64 0)).setCell ⟨wr.heap.size + 1, 1, none⟩ (.int .i64 0)).setCell ⟨wr.heap.size + 1, 2, none⟩ (.int .u32 0)).setCell ⟨wr.heap.size + 1, 3, none⟩ (.int .i64 0)).setCell ⟨wr.heap.size + 1, 4, none⟩ (.bool false))) := by
      have hlt := (unhide hB).lt
      have hrlt := fun q hq => ((unhide hr).lt (g := q) hq).2
      have hsz2 := unhide hs1W
      have hsz3 := unhide hs2W
      have KA := (((unhide K2).then kd).trans (unhide K3) (T := t :: vb.ownBlock.toList) (by simp) (fun i m => .inl m)).trans k5 (T := t :: vb.ownBlock.toList) (fun i m => m) (fun i m => .inr (by rw [List.mem_singleton.1 m]; omega))
      have hv5 : ∀ q, v'.ownBlock = some q → vb.ownBlock = some q ∨ wr.heap.size + 1 < q := fun q hq => (unhide hv3 q hq).imp id (fun e => by have := kd.size; omega)
      have hn5 : ∀ q, v'.ownBlock = some q → q ∉ [wr.heap.size + 1] := fun q hq m => by
        rw [List.mem_singleton.1 m] at hq
        rcases hv5 _ hq with e | e
        · have := hrlt _ e; omega
        · omega
      obtain ⟨F', hF, kF, hFn⟩ := PE.putR (unhide hB) (unhide hS) hbt KA (fun g m => by rcases List.mem_cons.1 m with e | e; exact .inl e; exact .inr (Option.mem_toList.1 e)) (unhide hr) ((unhide hB3).kept k5 (by simp; omega)) ((Ln.more (unhide hr3) hd hh).kept k5 hn5) (fun q hq => (hv5 q hq).imp id (fun e => by omega))
      exact ⟨rfl, F', ⟨(unhide kp).trans kF (by simp) (fun i m => .inr (by rcases List.mem_cons.1 m with e | e; rw [e]; exact hbt; rcases List.mem_append.1 e with e | e; exact ((unhide hg).lt (Option.mem_toList.1 e)).1; exact ((unhide hr).lt (Option.mem_toList.1 e)).1)), hF, by simp, by simp; omega, .inl rfl⟩, kF, hFn⟩
    replace hfin := hide hfin
    clear hB3 hr3 K3 hv3 k5 D3 C3
    go_wp2
    exact bodyPost_ret (v := .tuple #[.agg #[.int .i64 0, .int .i64 0, .int .u32 0, .int .i64 0, .bool false], .bool false]) (by simp [results, Try.results12, go_sem, *]) rfl (unhide (unhide hfin))
end Go.Proofs.Ythnpkojfkhndoaa
