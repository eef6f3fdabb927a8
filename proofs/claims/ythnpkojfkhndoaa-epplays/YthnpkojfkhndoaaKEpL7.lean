/- The program's endpoint: one comes and meets another. -/
import Derived.Test.YthnpkojfkhndoaaKEpL5
import Derived.Test.YthnpkojfkhndoaaKEpL3
namespace Go.Proofs.Ythnpkojfkhndoaa
open Go.RowKit
set_option linter.unusedVariables false
set_option linter.unusedSimpArgs false
theorem Ln.lt {α : Type} {T : TypeId} {sz : Nat} {E : Gr.Enc α T sz} {base : Nat} {w : World} {v : Value} {k : Nat} {L : List α} (h : Ln E base w v k L) {g : Nat} (hg : v.ownBlock = some g) : base ≤ g ∧ g < w.heap.size := by
  obtain ⟨C, hr, _⟩ := h
  exact hr.lt hg
set_option maxRecDepth 8000 in
set_option maxHeartbeats 4000000 in
theorem esend_yes {w wr : World} {t : Nat} {S : List Ms} {f1 f2 fr : Int} {R : List Rc} {F : List Nat} (h : EIn w t S ((f1, f2, fr) :: R) F wr) {q1 q2 : Int} (hi : IdW q1 q2) (wd bd : Int) (cl : Bool) :
    Calls Try.prog 8 #[.pointer (some ⟨t, 0, none⟩), .agg #[.int .i64 q1, .int .i64 q2, .int .u32 wd, .int .i64 bd, .bool cl]] wr (EC w t S R F wr (.tuple #[.agg #[.int .i64 f1, .int .i64 f2, .int .i64 fr], .bool true])) := by
  obtain ⟨kp, ⟨va, ka, vb, kb, rfl, hB, hS, hR, hbt⟩, hs1, hs2, hone⟩ := h
  have hbw := kp.size
  have hG0 := hR
  obtain ⟨D, hg, hgd, hgh⟩ := hG0
  obtain ⟨hl1, hl2⟩ := ln_small hgd hgh (n := 65536) (by omega)
  have K0 := ((Kp.refl [] wr).alloc (.cells #[.int .i64 q1, .int .i64 q2, .int .u32 wd, .int .i64 bd, .bool cl] 47)).alloc (.cells #[.int .i64 0, .int .i64 0, .int .i64 0] 42)
  have HP := rpop_yes (hB.kept K0 (by simp)) (hg.grew K0) (by have := K0.size; omega) hgd (by omega)
  have C0 := hide (Gr.bk_next (wr.alloc (.cells #[.int .i64 q1, .int .i64 q2, .int .u32 wd, .int .i64 bd, .bool cl] 47)) 42 [.int .i64 0, .int .i64 0, .int .i64 0] (p := wr.heap.size + 1) (by simp))
  have hs0 : Hid (wr.heap.size + 2 = ((wr.alloc (.cells #[.int .i64 q1, .int .i64 q2, .int .u32 wd, .int .i64 bd, .bool cl] 47)).alloc (.cells #[.int .i64 0, .int .i64 0, .int .i64 0] 42)).heap.size) := by unfold Hid; simp
  have hQ : Hid (Calls Try.prog 17 #[.pointer (some ⟨t, 2, none⟩)] ((wr.alloc (.cells #[.int .i64 q1, .int .i64 q2, .int .u32 wd, .int .i64 bd, .bool cl] 47)).alloc (.cells #[.int .i64 0, .int .i64 0, .int .i64 0] 42)) (fun e W1 => e = .returned (.tuple #[.agg #[.int .i64 f1, .int .i64 f2, .int .i64 fr], .bool true]) ∧ Bk W1 (wr.heap.size + 1) 42 [.int .i64 0, .int .i64 0, .int .i64 0] ∧ wr.heap.size + 2 ≤ W1.heap.size ∧ ∃ v' k', Bk W1 t 31 [va, .int .i64 (ka : Int), v', .int .i64 ((k' : Nat) : Int)] ∧ Ln (rcE 42) w.heap.size W1 v' k' R ∧ Kp [t] wr W1 ∧ ∀ q, v'.ownBlock = some q → vb.ownBlock = some q ∨ wr.heap.size + 2 ≤ q)) := by
    refine HP.mono ?_
    rintro e W1 ⟨rfl, v', k', hB1, hL1, K1, hv1⟩
    have hlt := hB.lt
    have hs := unhide hs0
    exact ⟨rfl, (unhide C0).kept K1 (by simp; omega), by have := K1.size; omega, v', k', hB1, hL1, (K0.mono (by simp)).then K1, fun q hq => (hv1 q hq).imp id (fun e => by omega)⟩
  replace hB := hide hB
  replace hg := hide hg
  replace kp := hide kp
  replace hS := hide hS
  replace hR := hide hR
  clear HP K0 C0 hs0
  go_enter Try.func8, Try.ntmps8
  go_wp2_with fail
  refine (unhide hQ).mono ?_
  rintro e W1 ⟨rfl, C1, hs1W, v', k', hB1, hL1, K1, hv1⟩
  have K2 := (Kp.refl [] W1).alloc (.cells #[.int .i64 f1, .int .i64 f2, .int .i64 fr] 42)
  have C2 := C1.kept K2 (by simp)
  have D2 := Bk.new W1 42 [.int .i64 f1, .int .i64 f2, .int .i64 fr]
  have KA := K1.trans K2 (T := [t]) (by simp) (by simp)
  have hB2 := hB1.kept K2 (by simp)
  have hL2 := hL1.grew K2
  have hn2 : wr.heap.size + 1 < W1.heap.size := by omega
  replace C2 := hide C2
  replace D2 := hide D2
  replace KA := hide KA
  replace hB2 := hide hB2
  replace hL2 := hide hL2
  replace hv1 := hide hv1
  replace hs1W := hide hs1W
  clear C1 K1 hB1 hL1 K2 hQ
  go_upto_region 4 with fail
  generalize W1.alloc (.cells #[.int .i64 f1, .int .i64 f2, .int .i64 fr] 42) = W3 at *
  have c3 := (unhide C2).frozen
  have d0 := (unhide D2).cell (i := 0) rfl
  have ff0 := (unhide C2).cell (i := 0) rfl
  have d1 := (unhide D2).cell (i := 1) rfl
  have ff1 := (unhide C2).cell (i := 1) rfl
  have d2 := (unhide D2).cell (i := 2) rfl
  have ff2 := (unhide C2).cell (i := 2) rfl
  have k5 : Kp [wr.heap.size + 1] W3 ((((W3).setCell ⟨wr.heap.size + 1, 0, none⟩ (.int .i64 f1)).setCell ⟨wr.heap.size + 1, 1, none⟩ (.int .i64 f2)).setCell ⟨wr.heap.size + 1, 2, none⟩ (.int .i64 fr)) := ((((Kp.refl [wr.heap.size + 1] W3).setCell (p := ⟨wr.heap.size + 1, 0, none⟩) (.inl (by simp)) (.int .i64 f1)).setCell (p := ⟨wr.heap.size + 1, 1, none⟩) (.inl (by simp)) (.int .i64 f2)).setCell (p := ⟨wr.heap.size + 1, 2, none⟩) (.inl (by simp)) (.int .i64 fr))
  have hfin : Hid (EC w t S R (va.ownBlock.toList ++ vb.ownBlock.toList) wr (.tuple #[.agg #[.int .i64 f1, .int .i64 f2, .int .i64 fr], .bool true]) (.returned (.tuple #[.agg #[.int .i64 f1, .int .i64 f2, .int .i64 fr], .bool true])) ((((W3).setCell ⟨wr.heap.size + 1, 0, none⟩ (.int .i64 f1)).setCell ⟨wr.heap.size + 1, 1, none⟩ (.int .i64 f2)).setCell ⟨wr.heap.size + 1, 2, none⟩ (.int .i64 fr))) := by
    have hlt := (unhide hB).lt
    have hglt := fun q hq => ((unhide hg).lt (g := q) hq).2
    have hn5 : ∀ q, v'.ownBlock = some q → q ∉ [wr.heap.size + 1] := fun q hq m => by
      rw [List.mem_singleton.1 m] at hq
      rcases unhide hv1 _ hq with e | e
      · have := hglt _ e; omega
      · omega
    have KB := (unhide KA).trans k5 (T := [t]) (fun i m => m) (fun i m => .inr (by rw [List.mem_singleton.1 m]; omega))
    obtain ⟨F', hF, kF, hFn⟩ := PE.putR (unhide hB) (unhide hS) hbt KB (fun g m => .inl (List.mem_singleton.1 m)) (unhide hg) ((unhide hB2).kept k5 (by simp; omega)) ((unhide hL2).kept k5 hn5) (fun q hq => (unhide hv1 q hq).imp id (fun e => by omega))
    exact ⟨rfl, F', ⟨(unhide kp).trans kF (by simp) (fun i m => .inr (by rcases List.mem_cons.1 m with e | e; rw [e]; exact hbt; rcases List.mem_append.1 e with e | e; exact ((unhide hS).lt (Option.mem_toList.1 e)).1; exact ((unhide hg).lt (Option.mem_toList.1 e)).1)), hF, by omega, by simp at hs2; omega, .inl (by rcases hone with e | e; exact e; cases e)⟩, kF, hFn⟩
  replace hfin := hide hfin
  clear k5 D2 C2 hB2 hL2 KA
  go_wp2
  exact bodyPost_ret (v := .tuple #[.agg #[.int .i64 f1, .int .i64 f2, .int .i64 fr], .bool true]) (by simp [results, Try.results8, go_sem, *]) rfl (unhide (unhide hfin))
set_option maxRecDepth 8000 in
set_option maxHeartbeats 4000000 in
theorem erecv_yes {w wr : World} {t : Nat} {S : List Ms} {f1 f2 fw fb : Int} {fc : Bool} {R : List Rc} {F : List Nat} (h : EIn w t ((f1, f2, fw, fb, fc) :: S) R F wr) {q1 q2 : Int} (hi : IdW q1 q2) (rp : Int) :
    Calls Try.prog 12 #[.pointer (some ⟨t, 0, none⟩), .agg #[.int .i64 q1, .int .i64 q2, .int .i64 rp]] wr (EC w t S R F wr (.tuple #[.agg #[.int .i64 f1, .int .i64 f2, .int .u32 fw, .int .i64 fb, .bool fc], .bool true])) := by
  obtain ⟨kp, ⟨va, ka, vb, kb, rfl, hB, hS, hR, hbt⟩, hs1, hs2, hone⟩ := h
  have hbw := kp.size
  have hG0 := hS
  obtain ⟨C, hg, hgd, hgh⟩ := hG0
  obtain ⟨hl1, hl2⟩ := ln_small hgd hgh (n := 65536) (by omega)
  have K0 := ((Kp.refl [] wr).alloc (.cells #[.int .i64 q1, .int .i64 q2, .int .i64 rp] 42)).alloc (.cells #[.int .i64 0, .int .i64 0, .int .u32 0, .int .i64 0, .bool false] 47)
  have HP := mpop_yes (hB.kept K0 (by simp)) (hg.grew K0) (by have := K0.size; omega) hgd (by omega)
  have C0 := hide (Gr.bk_next (wr.alloc (.cells #[.int .i64 q1, .int .i64 q2, .int .i64 rp] 42)) 47 [.int .i64 0, .int .i64 0, .int .u32 0, .int .i64 0, .bool false] (p := wr.heap.size + 1) (by simp))
  have hs0 : Hid (wr.heap.size + 2 = ((wr.alloc (.cells #[.int .i64 q1, .int .i64 q2, .int .i64 rp] 42)).alloc (.cells #[.int .i64 0, .int .i64 0, .int .u32 0, .int .i64 0, .bool false] 47)).heap.size) := by unfold Hid; simp
  have hQ : Hid (Calls Try.prog 23 #[.pointer (some ⟨t, 0, none⟩)] ((wr.alloc (.cells #[.int .i64 q1, .int .i64 q2, .int .i64 rp] 42)).alloc (.cells #[.int .i64 0, .int .i64 0, .int .u32 0, .int .i64 0, .bool false] 47)) (fun e W1 => e = .returned (.tuple #[.agg #[.int .i64 f1, .int .i64 f2, .int .u32 fw, .int .i64 fb, .bool fc], .bool true]) ∧ Bk W1 (wr.heap.size + 1) 47 [.int .i64 0, .int .i64 0, .int .u32 0, .int .i64 0, .bool false] ∧ wr.heap.size + 2 ≤ W1.heap.size ∧ ∃ v' k', Bk W1 t 31 [v', .int .i64 ((k' : Nat) : Int), vb, .int .i64 (kb : Int)] ∧ Ln (msE 47) w.heap.size W1 v' k' S ∧ Kp [t] wr W1 ∧ ∀ q, v'.ownBlock = some q → va.ownBlock = some q ∨ wr.heap.size + 2 ≤ q)) := by
    refine HP.mono ?_
    rintro e W1 ⟨rfl, v', k', hB1, hL1, K1, hv1⟩
    have hlt := hB.lt
    have hs := unhide hs0
    exact ⟨rfl, (unhide C0).kept K1 (by simp; omega), by have := K1.size; omega, v', k', hB1, hL1, (K0.mono (by simp)).then K1, fun q hq => (hv1 q hq).imp id (fun e => by omega)⟩
  replace hB := hide hB
  replace hg := hide hg
  replace kp := hide kp
  replace hS := hide hS
  replace hR := hide hR
  clear HP K0 C0 hs0
  go_enter Try.func12, Try.ntmps12
  go_wp2_with fail
  refine (unhide hQ).mono ?_
  rintro e W1 ⟨rfl, C1, hs1W, v', k', hB1, hL1, K1, hv1⟩
  have K2 := (Kp.refl [] W1).alloc (.cells #[.int .i64 f1, .int .i64 f2, .int .u32 fw, .int .i64 fb, .bool fc] 47)
  have C2 := C1.kept K2 (by simp)
  have D2 := Bk.new W1 47 [.int .i64 f1, .int .i64 f2, .int .u32 fw, .int .i64 fb, .bool fc]
  have KA := K1.trans K2 (T := [t]) (by simp) (by simp)
  have hB2 := hB1.kept K2 (by simp)
  have hL2 := hL1.grew K2
  have hn2 : wr.heap.size + 1 < W1.heap.size := by omega
  replace C2 := hide C2
  replace D2 := hide D2
  replace KA := hide KA
  replace hB2 := hide hB2
  replace hL2 := hide hL2
  replace hv1 := hide hv1
  replace hs1W := hide hs1W
  clear C1 K1 hB1 hL1 K2 hQ
  go_upto_region 4 with fail
  generalize W1.alloc (.cells #[.int .i64 f1, .int .i64 f2, .int .u32 fw, .int .i64 fb, .bool fc] 47) = W3 at *
  have c3 := (unhide C2).frozen
  have d0 := (unhide D2).cell (i := 0) rfl
  have ff0 := (unhide C2).cell (i := 0) rfl
  have d1 := (unhide D2).cell (i := 1) rfl
  have ff1 := (unhide C2).cell (i := 1) rfl
  have d2 := (unhide D2).cell (i := 2) rfl
  have ff2 := (unhide C2).cell (i := 2) rfl
  have d3 := (unhide D2).cell (i := 3) rfl
  have ff3 := (unhide C2).cell (i := 3) rfl
  have d4 := (unhide D2).cell (i := 4) rfl
  have ff4 := (unhide C2).cell (i := 4) rfl
  have k5 : Kp [wr.heap.size + 1] W3 ((((((W3).setCell ⟨wr.heap.size + 1, 0, none⟩ (.int .i64 f1)).setCell ⟨wr.heap.size + 1, 1, none⟩ (.int .i64 f2)).setCell ⟨wr.heap.size + 1, 2, none⟩ (.int .u32 fw)).setCell ⟨wr.heap.size + 1, 3, none⟩ (.int .i64 fb)).setCell ⟨wr.heap.size + 1, 4, none⟩ (.bool fc)) := ((((((Kp.refl [wr.heap.size + 1] W3).setCell (p := ⟨wr.heap.size + 1, 0, none⟩) (.inl (by simp)) (.int .i64 f1)).setCell (p := ⟨wr.heap.size + 1, 1, none⟩) (.inl (by simp)) (.int .i64 f2)).setCell (p := ⟨wr.heap.size + 1, 2, none⟩) (.inl (by simp)) (.int .u32 fw)).setCell (p := ⟨wr.heap.size + 1, 3, none⟩) (.inl (by simp)) (.int .i64 fb)).setCell (p := ⟨wr.heap.size + 1, 4, none⟩) (.inl (by simp)) (.bool fc))
  have hfin : Hid (EC w t S R (va.ownBlock.toList ++ vb.ownBlock.toList) wr (.tuple #[.agg #[.int .i64 f1, .int .i64 f2, .int .u32 fw, .int .i64 fb, .bool fc], .bool true]) (.returned (.tuple #[.agg #[.int .i64 f1, .int .i64 f2, .int .u32 fw, .int .i64 fb, .bool fc], .bool true])) ((((((W3).setCell ⟨wr.heap.size + 1, 0, none⟩ (.int .i64 f1)).setCell ⟨wr.heap.size + 1, 1, none⟩ (.int .i64 f2)).setCell ⟨wr.heap.size + 1, 2, none⟩ (.int .u32 fw)).setCell ⟨wr.heap.size + 1, 3, none⟩ (.int .i64 fb)).setCell ⟨wr.heap.size + 1, 4, none⟩ (.bool fc))) := by
    have hlt := (unhide hB).lt
    have hglt := fun q hq => ((unhide hg).lt (g := q) hq).2
    have hn5 : ∀ q, v'.ownBlock = some q → q ∉ [wr.heap.size + 1] := fun q hq m => by
      rw [List.mem_singleton.1 m] at hq
      rcases unhide hv1 _ hq with e | e
      · have := hglt _ e; omega
      · omega
    have KB := (unhide KA).trans k5 (T := [t]) (fun i m => m) (fun i m => .inr (by rw [List.mem_singleton.1 m]; omega))
    obtain ⟨F', hF, kF, hFn⟩ := PE.putS (unhide hB) (unhide hR) hbt KB (fun g m => .inl (List.mem_singleton.1 m)) (unhide hg) ((unhide hB2).kept k5 (by simp; omega)) ((unhide hL2).kept k5 hn5) (fun q hq => (unhide hv1 q hq).imp id (fun e => by omega))
    exact ⟨rfl, F', ⟨(unhide kp).trans kF (by simp) (fun i m => .inr (by rcases List.mem_cons.1 m with e | e; rw [e]; exact hbt; rcases List.mem_append.1 e with e | e; exact ((unhide hg).lt (Option.mem_toList.1 e)).1; exact ((unhide hR).lt (Option.mem_toList.1 e)).1)), hF, by simp at hs1; omega, by omega, .inr (by rcases hone with e | e; cases e; exact e)⟩, kF, hFn⟩
  replace hfin := hide hfin
  clear k5 D2 C2 hB2 hL2 KA
  go_wp2
  exact bodyPost_ret (v := .tuple #[.agg #[.int .i64 f1, .int .i64 f2, .int .u32 fw, .int .i64 fb, .bool fc], .bool true]) (by simp [results, Try.results12, go_sem, *]) rfl (unhide (unhide hfin))
end Go.Proofs.Ythnpkojfkhndoaa
