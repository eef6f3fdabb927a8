/- The program's endpoint: the first one goes. -/
import Derived.Test.YthnpkojfkhndoaaKEpL2
import Derived.Test.YthnpkojfkhndoaaKEpL1
import Derived.BigQuiet
namespace Go.Proofs.Ythnpkojfkhndoaa
open Go.RowKit
set_option linter.unusedVariables false
set_option linter.unusedSimpArgs false
/-- What pop leaves where one waits. -/
def MPopP (base : Nat) (w : World) (t : Nat) (v u2 u3 : Value) (x : Ms) (L : List Ms) (e : Ending) (w' : World) : Prop :=
  e = .returned (.tuple #[.agg ((msE 47).vals x).toArray, .bool true]) ∧ ∃ v' k', Bk w' t 31 [v', .int .i64 ((k' : Nat) : Int), u2, u3] ∧ Ln (msE 47) base w' v' k' L ∧ Kp [t] w w' ∧ ∀ q, v'.ownBlock = some q → v.ownBlock = some q ∨ w.heap.size ≤ q
set_option maxRecDepth 8000 in
set_option maxHeartbeats 2000000 in
theorem mpop_no {base : Nat} {w : World} {t : Nat} {v u2 u3 k : Value} (h : Bk w t 31 [v, k, u2, u3]) (hr : Gr.Rw (msE 47) base w v []) :
    Calls Try.prog 23 #[.pointer (some ⟨t, 0, none⟩)] w (fun e w' => e = .returned (.tuple #[.agg #[.int .i64 0, .int .i64 0, .int .u32 0, .int .i64 0, .bool false], .bool false]) ∧ Kp [] w w') := by
  obtain ⟨a, c, rfl⟩ := hr.form
  have K1 := (Kp.refl [] w).alloc (.cells #[.int .i64 0, .int .i64 0, .int .u32 0, .int .i64 0, .bool false] 47)
  have c0 := (h.kept K1 (by simp)).cell (i := 0) rfl
  have K2 := hide (K1.alloc (.cells #[.int .i64 0, .int .i64 0, .int .u32 0, .int .i64 0, .bool false] 47))
  clear h hr K1
  go_enter Try.func23, Try.ntmps23
  go_wp2
  exact bodyPost_ret (v := .tuple #[.agg #[.int .i64 0, .int .i64 0, .int .u32 0, .int .i64 0, .bool false], .bool false]) (by simp [results, Try.results23, go_sem, *]) rfl ⟨rfl, unhide K2⟩
set_option maxRecDepth 8000 in
set_option maxHeartbeats 4000000 in
theorem mpop_yes {base : Nat} {w : World} {t : Nat} {v u2 u3 : Value} {k : Nat} {C L : List Ms} {q1 q2 wd bd : Int} {cl : Bool} (h : Bk w t 31 [v, .int .i64 (k : Int), u2, u3]) (hr : Gr.Rw (msE 47) base w v C) (hb : base ≤ w.heap.size) (hd : C.drop k = (q1, q2, wd, bd, cl) :: L) (hl : C.length ≤ 262144) :
    Calls Try.prog 23 #[.pointer (some ⟨t, 0, none⟩)] w (MPopP base w t v u2 u3 (q1, q2, wd, bd, cl) L) := by
  have hk : k < C.length := by
    have := congrArg List.length hd
    rw [List.length_drop, List.length_cons] at this
    omega
  have hx : C[k]? = some (q1, q2, wd, bd, cl) := by
    have := List.getElem?_drop (xs := C) (i := k) (j := 0)
    rw [hd] at this
    exact this.symm
  have hd1 : Hid (C.drop (k + 1) = L) := by
    unfold Hid
    rw [← List.drop_drop, hd]
    rfl
  obtain ⟨k1, hk1⟩ : ∃ k1, k + 1 = k1 := ⟨_, rfl⟩
  rw [hk1] at hd1
  rcases hr.addr with ⟨_, e⟩ | ⟨g, cap, rfl, hbg, hgl, h1, h2⟩
  · rw [e] at hk; simp at hk
  have b0 : (0 : Int) ≤ (k : Int) := by omega
  have b1 : (k : Int) < (C.length : Int) := by omega
  have b2 : ((k : Int)).toNat = k := Int.toNat_natCast k
  have b3 : IntKind.i64.wrap ((k : Int) + 1) = (k1 : Int) := by rw [IntKind.wrap_i64]; omega
  have b4 : IntKind.i64.wrap (2 * (k1 : Int)) = 2 * (k1 : Int) := by rw [IntKind.wrap_i64]; omega
  have b5 : ((C.length : Int) == 0) = false := beq_eq_false_iff_ne.2 (by omega)
  have b6 : decide ((k : Int) < 0) = false := decide_eq_false (by omega)
  have htl := hide h.lt
  have htg : Hid (∀ g', (Value.slice (some ⟨g, 0, none⟩) C.length cap).ownBlock = some g' → g' ∉ [t]) := fun g' e m => ne_of_row hr h (by decide) (by rw [e, List.mem_singleton.1 m])
  have K1 := (Kp.refl [] w).alloc (.cells #[.int .i64 0, .int .i64 0, .int .u32 0, .int .i64 0, .bool false] 47)
  have P1 := hide (Bk.new w 47 [.int .i64 0, .int .i64 0, .int .u32 0, .int .i64 0, .bool false])
  have H1 := hide (h.kept K1 (by simp))
  have R1 := hide (hr.grew K1)
  replace K1 := hide K1
  have hs1 : Hid (w.heap.size + 1 = (w.alloc (.cells #[.int .i64 0, .int .i64 0, .int .u32 0, .int .i64 0, .bool false] 47)).heap.size) := by unfold Hid; simp
  have c0 := (unhide H1).cell (i := 0) rfl
  clear h hr
  go_enter Try.func23, Try.ntmps23
  go_upto_region 4 with fail
  clear c0
  generalize w.alloc (.cells #[.int .i64 0, .int .i64 0, .int .u32 0, .int .i64 0, .bool false] 47) = W1 at *
  have hS0 : Hid (∀ w', Kp [] W1 w' → w'.cell? ⟨t, 0, none⟩ = some (.slice (some ⟨g, 0, none⟩) C.length cap) ∧ w'.cell? ⟨t, 1, none⟩ = some (.int .i64 (k : Int)) ∧ w'.cell? ⟨g, k * 5, none⟩ = some (.int .i64 q1) ∧ w'.cell? ⟨g, k * 5 + 1, none⟩ = some (.int .i64 q2) ∧ w'.cell? ⟨g, k * 5 + 2, none⟩ = some (.int .u32 wd) ∧ w'.cell? ⟨g, k * 5 + 3, none⟩ = some (.int .i64 bd) ∧ w'.cell? ⟨g, k * 5 + 4, none⟩ = some (.bool cl)) := fun w' kk => ⟨((unhide H1).kept kk (by simp)).cell (i := 0) rfl, ((unhide H1).kept kk (by simp)).cell (i := 1) rfl, by have := ((unhide R1).grew kk).cell (i := k) (j := 0) hx rfl; simpa using this, by have := ((unhide R1).grew kk).cell (i := k) (j := 1) hx rfl; simpa using this, by have := ((unhide R1).grew kk).cell (i := k) (j := 2) hx rfl; simpa using this, by have := ((unhide R1).grew kk).cell (i := k) (j := 3) hx rfl; simpa using this, by have := ((unhide R1).grew kk).cell (i := k) (j := 4) hx rfl; simpa using this⟩
  have hA := unhide hS0 _ (Kp.refl [] W1)
  have hB := unhide hS0 _ ((Kp.refl [] W1).alloc (.cells #[.int .i64 0, .int .i64 0, .int .u32 0, .int .i64 0, .bool false] 47))
  go_cut [5] (fun p wx => p = .pointer (some ⟨W1.heap.size, 0, none⟩) ∧ Bk wx W1.heap.size 47 [.int .i64 q1, .int .i64 q2, .int .u32 wd, .int .i64 bd, .bool cl] ∧ Kp [] W1 wx)
  case first =>
    go_region_law (fail)
    all_goals
      have hX := hide (Bk.new W1 47 [.int .i64 q1, .int .i64 q2, .int .u32 wd, .int .i64 bd, .bool cl])
      have kX := hide ((Kp.refl [] W1).alloc (.cells #[.int .i64 q1, .int .i64 q2, .int .u32 wd, .int .i64 bd, .bool cl] 47))
      clear hA hB
      go_wp2
      go_meet
      case rel => exact ⟨rfl, unhide hX, ⟨(unhide kX).os, (unhide kX).tape, (unhide kX).output, (unhide kX).size, (unhide kX).block⟩⟩
  case rest =>
    obtain ⟨rfl, X2, K2⟩ := hcut
    have H2 := (unhide H1).kept K2 (by simp)
    have R2 := (unhide R1).grew K2
    have P2 := (unhide P1).kept K2 (by simp)
    have K02 := (unhide K1).then K2
    have hs2 : w.heap.size < wc.heap.size := by have := K2.size; have := unhide hs1; omega
    clear hA hB hS0 H1 R1 P1 K2
    have f2 := H2.frozen
    have c2 := H2.cell (i := 1) rfl
    have k3 := (Kp.refl [t] wc).setCell (p := ⟨t, 1, none⟩) (.inl (by simp)) (.int .i64 (k1 : Int))
    have H3 := hide (H2.set 1 (.int .i64 (k1 : Int)))
    have R3 := hide (R2.kept k3 (unhide htg))
    have P3 := hide (P2.kept k3 (by have := unhide htl; simp; omega))
    have X3 := hide (X2.kept k3 (by have := unhide htl; have := unhide hs1; simp; omega))
    have K3 : Hid (Kp [t] w _) := (K02.mono (S' := [t]) (by simp)).then k3
    clear H2 R2 P2 X2 K02 k3
    go_upto_region 6 with fail
    clear f2 c2
    have hsz3 : Hid (w.heap.size < (wc.setCell ⟨t, 1, none⟩ (.int .i64 (k1 : Int))).heap.size) := by unfold Hid; have := hs2; simp; omega
    generalize wc.setCell ⟨t, 1, none⟩ (.int .i64 (k1 : Int)) = w3 at *
    have c0 := (unhide H3).cell (i := 0) rfl
    have c1 := (unhide H3).cell (i := 1) rfl
    have hfin : ∀ (W4 : World) (v' : Value) (k' : Nat), Bk W4 t 31 [v', .int .i64 ((k' : Nat) : Int), u2, u3] → Ln (msE 47) base W4 v' k' L → Kp [t] w W4 → (∀ q, v'.ownBlock = some q → g = q ∨ w.heap.size < q) → Bk W4 w.heap.size 47 [.int .i64 0, .int .i64 0, .int .u32 0, .int .i64 0, .bool false] → Hid (MPopP base w t (.slice (some ⟨g, 0, none⟩) C.length cap) u2 u3 (q1, q2, wd, bd, cl) L (.returned (.tuple #[.agg #[.int .i64 q1, .int .i64 q2, .int .u32 wd, .int .i64 bd, .bool cl], .bool true])) ((((((W4).setCell ⟨w.heap.size, 0, none⟩ (.int .i64 q1)).setCell ⟨w.heap.size, 1, none⟩ (.int .i64 q2)).setCell ⟨w.heap.size, 2, none⟩ (.int .u32 wd)).setCell ⟨w.heap.size, 3, none⟩ (.int .i64 bd)).setCell ⟨w.heap.size, 4, none⟩ (.bool cl))) := by
      intro W4 v' k' hB hL hK hv hP
      have k5 : Kp [w.heap.size] W4 ((((((W4).setCell ⟨w.heap.size, 0, none⟩ (.int .i64 q1)).setCell ⟨w.heap.size, 1, none⟩ (.int .i64 q2)).setCell ⟨w.heap.size, 2, none⟩ (.int .u32 wd)).setCell ⟨w.heap.size, 3, none⟩ (.int .i64 bd)).setCell ⟨w.heap.size, 4, none⟩ (.bool cl)) := ((((((Kp.refl [w.heap.size] W4).setCell (p := ⟨w.heap.size, 0, none⟩) (.inl (by simp)) (.int .i64 q1)).setCell (p := ⟨w.heap.size, 1, none⟩) (.inl (by simp)) (.int .i64 q2)).setCell (p := ⟨w.heap.size, 2, none⟩) (.inl (by simp)) (.int .u32 wd)).setCell (p := ⟨w.heap.size, 3, none⟩) (.inl (by simp)) (.int .i64 bd)).setCell (p := ⟨w.heap.size, 4, none⟩) (.inl (by simp)) (.bool cl))
      refine ⟨rfl, v', k', hB.kept k5 (by have := unhide htl; simp; omega), ?_, hK.trans k5 (fun _ m => m) (by simp), fun q hq => (hv q hq).imp (congrArg some) Nat.le_of_lt⟩
      obtain ⟨C', hr', hd', hh'⟩ := hL
      refine ⟨C', hr'.kept k5 (fun q hq m => ?_), hd', hh'⟩
      rw [List.mem_singleton.1 m] at hq
      rcases hv _ hq with e | e
      · omega
      · omega
    replace hfin := hide hfin
    by_cases hlt : 2 * k1 < C.length
    · have b7 : decide ((C.length : Int) ≤ 2 * (k1 : Int)) = false := decide_eq_false (by omega)
      go_quiet (fail)
      have k4 := (Kp.refl [] w3).drewN nq
      have H4 := (unhide H3).kept k4 (by simp)
      have R4 := (unhide R3).grew k4
      have P4 := (unhide P3).kept k4 (by simp)
      have X4 := (unhide X3).kept k4 (by simp)
      have F4 := hide ((unhide hfin) _ _ _ H4 ⟨C, R4, unhide hd1, .inl hlt⟩ ((unhide K3).trans k4 (fun _ m => m) (by simp)) (fun q hq => .inl (Option.some.inj hq)) P4)
      clear hfin c0 c1 H3 R3 P3 X3 K3 k4 H4 R4
      have fP := P4.frozen
      have x0 := X4.cell (i := 0) rfl
      have x1 := X4.cell (i := 1) rfl
      have x2 := X4.cell (i := 2) rfl
      have x3 := X4.cell (i := 3) rfl
      have x4 := X4.cell (i := 4) rfl
      have p0 := P4.cell (i := 0) rfl
      have p1 := P4.cell (i := 1) rfl
      have p2 := P4.cell (i := 2) rfl
      have p3 := P4.cell (i := 3) rfl
      have p4 := P4.cell (i := 4) rfl
      clear P4 X4
      go_wp2
      exact bodyPost_ret (v := .tuple #[.agg #[.int .i64 q1, .int .i64 q2, .int .u32 wd, .int .i64 bd, .bool cl], .bool true]) (by simp [results, Try.results23, go_sem, *]) rfl (unhide F4)
    · have b7 : (C.length : Int) ≤ 2 * (k1 : Int) := by omega
      have hW := fun (W : World) (kk : Kp [] w3 W) => mwaits ((unhide H3).kept kk (by simp)) ((unhide R3).grew kk) (by omega) hl
      rw [unhide hd1] at hW
      replace hW := hide hW
      go_quiet (fail)
      clear c0 c1
      go_wp2_with fail
      refine (unhide hW _ ((Kp.refl [] w3).drewN nq)).mono ?_
      rintro e W4 ⟨v', rfl, R4, k4'⟩
      have k4 := ((Kp.refl [] w3).drewN nq).then k4'
      have H4 := (unhide H3).kept k4 (by simp)
      have P4 := (unhide P3).kept k4 (by simp)
      have X4 := (unhide X3).kept k4 (by simp)
      obtain ⟨a4, n4, c4, rfl⟩ := any_row R4
      have f4 := H4.frozen
      have c0 := H4.cell (i := 0) rfl
      have c1 := H4.cell (i := 1) rfl
      have k5 := ((Kp.refl [t] W4).setCell (p := ⟨t, 0, none⟩) (.inl (by simp)) (.slice a4 n4 c4)).setCell (p := ⟨t, 1, none⟩) (.inl (by simp)) (.int .i64 0)
      have H5 := (H4.set 0 (.slice a4 n4 c4)).set 1 (.int .i64 0)
      have P5 := P4.kept k5 (by have := unhide htl; simp; omega)
      have X5 := X4.kept k5 (by have := unhide htl; have := unhide hs1; simp; omega)
      have R5 := R4.kept k5 (fun q hq m => ne_of_row R4 H4 (by decide) (by rw [hq, List.mem_singleton.1 m]))
      have hnq : w.heap.size < (w3.drewN nq).heap.size := by have := ((Kp.refl [] w3).drewN nq).size; have := unhide hsz3; omega
      have F5 := hide ((unhide hfin) _ _ 0 H5 ⟨L, R5.mono (by omega), rfl, ?hz⟩ (((unhide K3).trans k4 (fun _ m => m) (by simp)).then k5) (fun q hq => .inr (Nat.lt_of_lt_of_le hnq (R4.lt hq).1)) P5)
      case hz =>
        cases L with
        | nil => exact .inr ⟨rfl, rfl⟩
        | cons x L => exact .inl (by simp)
      have fP := P5.frozen
      have x0 := X5.cell (i := 0) rfl
      have x1 := X5.cell (i := 1) rfl
      have x2 := X5.cell (i := 2) rfl
      have x3 := X5.cell (i := 3) rfl
      have x4 := X5.cell (i := 4) rfl
      have p0 := P5.cell (i := 0) rfl
      have p1 := P5.cell (i := 1) rfl
      have p2 := P5.cell (i := 2) rfl
      have p3 := P5.cell (i := 3) rfl
      have p4 := P5.cell (i := 4) rfl
      clear hfin H3 R3 P3 X3 K3 k4 k4' H4 H5 P4 X4 X5 R5 R4 k5 hW
      go_wp2
      exact bodyPost_ret (v := .tuple #[.agg #[.int .i64 q1, .int .i64 q2, .int .u32 wd, .int .i64 bd, .bool cl], .bool true]) (by simp [results, Try.results23, go_sem, *]) rfl (unhide F5)
/-- What pop leaves where one waits. -/
def RPopP (base : Nat) (w : World) (t : Nat) (v u0 u1 : Value) (x : Rc) (L : List Rc) (e : Ending) (w' : World) : Prop :=
  e = .returned (.tuple #[.agg ((rcE 42).vals x).toArray, .bool true]) ∧ ∃ v' k', Bk w' t 31 [u0, u1, v', .int .i64 ((k' : Nat) : Int)] ∧ Ln (rcE 42) base w' v' k' L ∧ Kp [t] w w' ∧ ∀ q, v'.ownBlock = some q → v.ownBlock = some q ∨ w.heap.size ≤ q
set_option maxRecDepth 8000 in
set_option maxHeartbeats 2000000 in
theorem rpop_no {base : Nat} {w : World} {t : Nat} {v u0 u1 k : Value} (h : Bk w t 31 [u0, u1, v, k]) (hr : Gr.Rw (rcE 42) base w v []) :
    Calls Try.prog 17 #[.pointer (some ⟨t, 2, none⟩)] w (fun e w' => e = .returned (.tuple #[.agg #[.int .i64 0, .int .i64 0, .int .i64 0], .bool false]) ∧ Kp [] w w') := by
  obtain ⟨a, c, rfl⟩ := hr.form
  have K1 := (Kp.refl [] w).alloc (.cells #[.int .i64 0, .int .i64 0, .int .i64 0] 42)
  have c0 := (h.kept K1 (by simp)).cell (i := 2) rfl
  have K2 := hide (K1.alloc (.cells #[.int .i64 0, .int .i64 0, .int .i64 0] 42))
  clear h hr K1
  go_enter Try.func17, Try.ntmps17
  go_wp2
  exact bodyPost_ret (v := .tuple #[.agg #[.int .i64 0, .int .i64 0, .int .i64 0], .bool false]) (by simp [results, Try.results17, go_sem, *]) rfl ⟨rfl, unhide K2⟩
set_option maxRecDepth 8000 in
set_option maxHeartbeats 4000000 in
theorem rpop_yes {base : Nat} {w : World} {t : Nat} {v u0 u1 : Value} {k : Nat} {C L : List Rc} {q1 q2 rp : Int} (h : Bk w t 31 [u0, u1, v, .int .i64 (k : Int)]) (hr : Gr.Rw (rcE 42) base w v C) (hb : base ≤ w.heap.size) (hd : C.drop k = (q1, q2, rp) :: L) (hl : C.length ≤ 262144) :
    Calls Try.prog 17 #[.pointer (some ⟨t, 2, none⟩)] w (RPopP base w t v u0 u1 (q1, q2, rp) L) := by
  have hk : k < C.length := by
    have := congrArg List.length hd
    rw [List.length_drop, List.length_cons] at this
    omega
  have hx : C[k]? = some (q1, q2, rp) := by
    have := List.getElem?_drop (xs := C) (i := k) (j := 0)
    rw [hd] at this
    exact this.symm
  have hd1 : Hid (C.drop (k + 1) = L) := by
    unfold Hid
    rw [← List.drop_drop, hd]
    rfl
  obtain ⟨k1, hk1⟩ : ∃ k1, k + 1 = k1 := ⟨_, rfl⟩
  rw [hk1] at hd1
  rcases hr.addr with ⟨_, e⟩ | ⟨g, cap, rfl, hbg, hgl, h1, h2⟩
  · rw [e] at hk; simp at hk
  have b0 : (0 : Int) ≤ (k : Int) := by omega
  have b1 : (k : Int) < (C.length : Int) := by omega
  have b2 : ((k : Int)).toNat = k := Int.toNat_natCast k
  have b3 : IntKind.i64.wrap ((k : Int) + 1) = (k1 : Int) := by rw [IntKind.wrap_i64]; omega
  have b4 : IntKind.i64.wrap (2 * (k1 : Int)) = 2 * (k1 : Int) := by rw [IntKind.wrap_i64]; omega
  have b5 : ((C.length : Int) == 0) = false := beq_eq_false_iff_ne.2 (by omega)
  have b6 : decide ((k : Int) < 0) = false := decide_eq_false (by omega)
  have htl := hide h.lt
  have htg : Hid (∀ g', (Value.slice (some ⟨g, 0, none⟩) C.length cap).ownBlock = some g' → g' ∉ [t]) := fun g' e m => ne_of_row hr h (by decide) (by rw [e, List.mem_singleton.1 m])
  have K1 := (Kp.refl [] w).alloc (.cells #[.int .i64 0, .int .i64 0, .int .i64 0] 42)
  have P1 := hide (Bk.new w 42 [.int .i64 0, .int .i64 0, .int .i64 0])
  have H1 := hide (h.kept K1 (by simp))
  have R1 := hide (hr.grew K1)
  replace K1 := hide K1
  have hs1 : Hid (w.heap.size + 1 = (w.alloc (.cells #[.int .i64 0, .int .i64 0, .int .i64 0] 42)).heap.size) := by unfold Hid; simp
  have c0 := (unhide H1).cell (i := 2) rfl
  clear h hr
  go_enter Try.func17, Try.ntmps17
  go_upto_region 4 with fail
  clear c0
  generalize w.alloc (.cells #[.int .i64 0, .int .i64 0, .int .i64 0] 42) = W1 at *
  have hS0 : Hid (∀ w', Kp [] W1 w' → w'.cell? ⟨t, 2, none⟩ = some (.slice (some ⟨g, 0, none⟩) C.length cap) ∧ w'.cell? ⟨t, 3, none⟩ = some (.int .i64 (k : Int)) ∧ w'.cell? ⟨g, k * 3, none⟩ = some (.int .i64 q1) ∧ w'.cell? ⟨g, k * 3 + 1, none⟩ = some (.int .i64 q2) ∧ w'.cell? ⟨g, k * 3 + 2, none⟩ = some (.int .i64 rp)) := fun w' kk => ⟨((unhide H1).kept kk (by simp)).cell (i := 2) rfl, ((unhide H1).kept kk (by simp)).cell (i := 3) rfl, by have := ((unhide R1).grew kk).cell (i := k) (j := 0) hx rfl; simpa using this, by have := ((unhide R1).grew kk).cell (i := k) (j := 1) hx rfl; simpa using this, by have := ((unhide R1).grew kk).cell (i := k) (j := 2) hx rfl; simpa using this⟩
  have hA := unhide hS0 _ (Kp.refl [] W1)
  have hB := unhide hS0 _ ((Kp.refl [] W1).alloc (.cells #[.int .i64 0, .int .i64 0, .int .i64 0] 42))
  go_cut [5] (fun p wx => p = .pointer (some ⟨W1.heap.size, 0, none⟩) ∧ Bk wx W1.heap.size 42 [.int .i64 q1, .int .i64 q2, .int .i64 rp] ∧ Kp [] W1 wx)
  case first =>
    go_region_law (fail)
    all_goals
      have hX := hide (Bk.new W1 42 [.int .i64 q1, .int .i64 q2, .int .i64 rp])
      have kX := hide ((Kp.refl [] W1).alloc (.cells #[.int .i64 q1, .int .i64 q2, .int .i64 rp] 42))
      clear hA hB
      go_wp2
      go_meet
      case rel => exact ⟨rfl, unhide hX, ⟨(unhide kX).os, (unhide kX).tape, (unhide kX).output, (unhide kX).size, (unhide kX).block⟩⟩
  case rest =>
    obtain ⟨rfl, X2, K2⟩ := hcut
    have H2 := (unhide H1).kept K2 (by simp)
    have R2 := (unhide R1).grew K2
    have P2 := (unhide P1).kept K2 (by simp)
    have K02 := (unhide K1).then K2
    have hs2 : w.heap.size < wc.heap.size := by have := K2.size; have := unhide hs1; omega
    clear hA hB hS0 H1 R1 P1 K2
    have f2 := H2.frozen
    have c2 := H2.cell (i := 3) rfl
    have k3 := (Kp.refl [t] wc).setCell (p := ⟨t, 3, none⟩) (.inl (by simp)) (.int .i64 (k1 : Int))
    have H3 := hide (H2.set 3 (.int .i64 (k1 : Int)))
    have R3 := hide (R2.kept k3 (unhide htg))
    have P3 := hide (P2.kept k3 (by have := unhide htl; simp; omega))
    have X3 := hide (X2.kept k3 (by have := unhide htl; have := unhide hs1; simp; omega))
    have K3 : Hid (Kp [t] w _) := (K02.mono (S' := [t]) (by simp)).then k3
    clear H2 R2 P2 X2 K02 k3
    go_upto_region 6 with fail
    clear f2 c2
    have hsz3 : Hid (w.heap.size < (wc.setCell ⟨t, 3, none⟩ (.int .i64 (k1 : Int))).heap.size) := by unfold Hid; have := hs2; simp; omega
    generalize wc.setCell ⟨t, 3, none⟩ (.int .i64 (k1 : Int)) = w3 at *
    have c0 := (unhide H3).cell (i := 2) rfl
    have c1 := (unhide H3).cell (i := 3) rfl
    have hfin : ∀ (W4 : World) (v' : Value) (k' : Nat), Bk W4 t 31 [u0, u1, v', .int .i64 ((k' : Nat) : Int)] → Ln (rcE 42) base W4 v' k' L → Kp [t] w W4 → (∀ q, v'.ownBlock = some q → g = q ∨ w.heap.size < q) → Bk W4 w.heap.size 42 [.int .i64 0, .int .i64 0, .int .i64 0] → Hid (RPopP base w t (.slice (some ⟨g, 0, none⟩) C.length cap) u0 u1 (q1, q2, rp) L (.returned (.tuple #[.agg #[.int .i64 q1, .int .i64 q2, .int .i64 rp], .bool true])) ((((W4).setCell ⟨w.heap.size, 0, none⟩ (.int .i64 q1)).setCell ⟨w.heap.size, 1, none⟩ (.int .i64 q2)).setCell ⟨w.heap.size, 2, none⟩ (.int .i64 rp))) := by
      intro W4 v' k' hB hL hK hv hP
      have k5 : Kp [w.heap.size] W4 ((((W4).setCell ⟨w.heap.size, 0, none⟩ (.int .i64 q1)).setCell ⟨w.heap.size, 1, none⟩ (.int .i64 q2)).setCell ⟨w.heap.size, 2, none⟩ (.int .i64 rp)) := ((((Kp.refl [w.heap.size] W4).setCell (p := ⟨w.heap.size, 0, none⟩) (.inl (by simp)) (.int .i64 q1)).setCell (p := ⟨w.heap.size, 1, none⟩) (.inl (by simp)) (.int .i64 q2)).setCell (p := ⟨w.heap.size, 2, none⟩) (.inl (by simp)) (.int .i64 rp))
      refine ⟨rfl, v', k', hB.kept k5 (by have := unhide htl; simp; omega), ?_, hK.trans k5 (fun _ m => m) (by simp), fun q hq => (hv q hq).imp (congrArg some) Nat.le_of_lt⟩
      obtain ⟨C', hr', hd', hh'⟩ := hL
      refine ⟨C', hr'.kept k5 (fun q hq m => ?_), hd', hh'⟩
      rw [List.mem_singleton.1 m] at hq
      rcases hv _ hq with e | e
      · omega
      · omega
    replace hfin := hide hfin
    by_cases hlt : 2 * k1 < C.length
    · have b7 : decide ((C.length : Int) ≤ 2 * (k1 : Int)) = false := decide_eq_false (by omega)
      go_quiet (fail)
      have k4 := (Kp.refl [] w3).drewN nq
      have H4 := (unhide H3).kept k4 (by simp)
      have R4 := (unhide R3).grew k4
      have P4 := (unhide P3).kept k4 (by simp)
      have X4 := (unhide X3).kept k4 (by simp)
      have F4 := hide ((unhide hfin) _ _ _ H4 ⟨C, R4, unhide hd1, .inl hlt⟩ ((unhide K3).trans k4 (fun _ m => m) (by simp)) (fun q hq => .inl (Option.some.inj hq)) P4)
      clear hfin c0 c1 H3 R3 P3 X3 K3 k4 H4 R4
      have fP := P4.frozen
      have x0 := X4.cell (i := 0) rfl
      have x1 := X4.cell (i := 1) rfl
      have x2 := X4.cell (i := 2) rfl
      have p0 := P4.cell (i := 0) rfl
      have p1 := P4.cell (i := 1) rfl
      have p2 := P4.cell (i := 2) rfl
      clear P4 X4
      go_wp2
      exact bodyPost_ret (v := .tuple #[.agg #[.int .i64 q1, .int .i64 q2, .int .i64 rp], .bool true]) (by simp [results, Try.results17, go_sem, *]) rfl (unhide F4)
    · have b7 : (C.length : Int) ≤ 2 * (k1 : Int) := by omega
      have hW := fun (W : World) (kk : Kp [] w3 W) => rwaits ((unhide H3).kept kk (by simp)) ((unhide R3).grew kk) (by omega) hl
      rw [unhide hd1] at hW
      replace hW := hide hW
      go_quiet (fail)
      clear c0 c1
      go_wp2_with fail
      refine (unhide hW _ ((Kp.refl [] w3).drewN nq)).mono ?_
      rintro e W4 ⟨v', rfl, R4, k4'⟩
      have k4 := ((Kp.refl [] w3).drewN nq).then k4'
      have H4 := (unhide H3).kept k4 (by simp)
      have P4 := (unhide P3).kept k4 (by simp)
      have X4 := (unhide X3).kept k4 (by simp)
      obtain ⟨a4, n4, c4, rfl⟩ := any_row R4
      have f4 := H4.frozen
      have c0 := H4.cell (i := 2) rfl
      have c1 := H4.cell (i := 3) rfl
      have k5 := ((Kp.refl [t] W4).setCell (p := ⟨t, 2, none⟩) (.inl (by simp)) (.slice a4 n4 c4)).setCell (p := ⟨t, 3, none⟩) (.inl (by simp)) (.int .i64 0)
      have H5 := (H4.set 2 (.slice a4 n4 c4)).set 3 (.int .i64 0)
      have P5 := P4.kept k5 (by have := unhide htl; simp; omega)
      have X5 := X4.kept k5 (by have := unhide htl; have := unhide hs1; simp; omega)
      have R5 := R4.kept k5 (fun q hq m => ne_of_row R4 H4 (by decide) (by rw [hq, List.mem_singleton.1 m]))
      have hnq : w.heap.size < (w3.drewN nq).heap.size := by have := ((Kp.refl [] w3).drewN nq).size; have := unhide hsz3; omega
      have F5 := hide ((unhide hfin) _ _ 0 H5 ⟨L, R5.mono (by omega), rfl, ?hz⟩ (((unhide K3).trans k4 (fun _ m => m) (by simp)).then k5) (fun q hq => .inr (Nat.lt_of_lt_of_le hnq (R4.lt hq).1)) P5)
      case hz =>
        cases L with
        | nil => exact .inr ⟨rfl, rfl⟩
        | cons x L => exact .inl (by simp)
      have fP := P5.frozen
      have x0 := X5.cell (i := 0) rfl
      have x1 := X5.cell (i := 1) rfl
      have x2 := X5.cell (i := 2) rfl
      have p0 := P5.cell (i := 0) rfl
      have p1 := P5.cell (i := 1) rfl
      have p2 := P5.cell (i := 2) rfl
      clear hfin H3 R3 P3 X3 K3 k4 k4' H4 H5 P4 X4 X5 R5 R4 k5 hW
      go_wp2
      exact bodyPost_ret (v := .tuple #[.agg #[.int .i64 q1, .int .i64 q2, .int .i64 rp], .bool true]) (by simp [results, Try.results17, go_sem, *]) rfl (unhide F5)
end Go.Proofs.Ythnpkojfkhndoaa
