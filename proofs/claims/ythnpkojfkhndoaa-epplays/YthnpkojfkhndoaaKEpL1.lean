/- The program's endpoint: who waits, in new memory. -/
import Derived.Test.YthnpkojfkhndoaaKEpL0
namespace Go.Proofs.Ythnpkojfkhndoaa
open Go.RowKit
set_option linter.unusedVariables false
set_option linter.unusedSimpArgs false
set_option maxRecDepth 8000 in
set_option maxHeartbeats 4000000 in
theorem mwaits {base : Nat} {w : World} {t : Nat} {v u2 u3 : Value} {k : Nat} {C : List Ms} (h : Bk w t 31 [v, .int .i64 (k : Int), u2, u3]) (hr : Gr.Rw (msE 47) base w v C) (hk : k ≤ C.length) (hl : C.length ≤ 262144) :
    Calls Try.prog 25 #[.pointer (some ⟨t, 0, none⟩)] w (RwOut (msE 47) w (C.drop k)) := by
  have c0 := h.cell (i := 0) rfl
  have c1 := h.cell (i := 1) rfl
  rcases hr.addr with ⟨rfl, rfl⟩ | ⟨g, cap, rfl, _, _, h1, h2⟩
  · obtain rfl : k = 0 := by simpa using hk
    clear h hr hk hl
    go_enter Try.func25, Try.ntmps25
    go_upto_region 1 with fail
    have k0 := Kp.refl [] w
    go_region_law (first
      | (refine Gr.step_app (E := (msE 47)) Try.underlying24 Try.infoMsgP rfl (by decide) (by decide) (by rfl) _ _ (by rfl) w.heap.size (.slice none 0 0) (.slice none 0 0) [] [] (by rfl) (by rfl) (Gr.Rw.nil _ _) (.inl ⟨rfl, rfl⟩) (by decide) k0.drew.size ?_; intro v1 w1 hrow hgrow hat; have R1 := hide hrow; have K1 := hide (Gr.kp_grown k0.drew hgrow (fun q hq => by cases hq)); clear hrow hgrow hat))
    all_goals
      go_wp2
      go_ret
      exact ⟨_, rfl, unhide R1, unhide K1⟩
  · have b0 : (0 : Int) ≤ (k : Int) := by omega
    have b1 : (k : Int) ≤ (C.length : Int) := by omega
    have b2 : (C.length : Int) ≤ (cap : Int) := by omega
    have b3 : ((k : Int)).toNat = k := Int.toNat_natCast k
    have K0 := hide ((Kp.refl [] w).drew)
    replace hl := hide hl
    by_cases hck : cap = k
    · have hS : Hid (Gr.Src (msE 47) w.drew (.slice (some ⟨g, 0, none⟩) (C.length - k) 0) (C.drop k)) := by
        rw [List.drop_eq_nil_of_le (by omega)]
        exact Gr.src_nil (by omega)
      clear h hr
      go_enter Try.func25, Try.ntmps25
      go_upto_region 1 with fail
      go_region_law (first
        | (refine Gr.step_app (E := (msE 47)) Try.underlying24 Try.infoMsgP rfl (by decide) (by decide) (by rfl) _ _ (by rfl) w.heap.size (.slice none 0 0) _ [] (C.drop k) (by rfl) (by rfl) (Gr.Rw.nil _ _) (unhide hS) (by have := unhide hl; simp; omega) (unhide K0).size ?_; intro v1 w1 hrow hgrow hat; have R1 := hide hrow; have K1 := hide (Gr.kp_grown (unhide K0) hgrow (fun q hq => by cases hq)); clear hrow hgrow hat))
      all_goals
        go_wp2
        go_ret
        exact ⟨_, rfl, unhide R1, unhide K1⟩
    · have hS := hide (((hr.grew (unhide K0)).back k (cap - k) hk))
      clear h hr
      go_enter Try.func25, Try.ntmps25
      go_upto_region 1 with fail
      go_region_law (first
        | (refine Gr.step_app (E := (msE 47)) Try.underlying24 Try.infoMsgP rfl (by decide) (by decide) (by rfl) _ _ (by rfl) w.heap.size (.slice none 0 0) _ [] (C.drop k) (by rfl) (by rfl) (Gr.Rw.nil _ _) (unhide hS) (by have := unhide hl; simp; omega) (unhide K0).size ?_; intro v1 w1 hrow hgrow hat; have R1 := hide hrow; have K1 := hide (Gr.kp_grown (unhide K0) hgrow (fun q hq => by cases hq)); clear hrow hgrow hat))
      all_goals
        go_wp2
        go_ret
        exact ⟨_, rfl, unhide R1, unhide K1⟩
set_option maxRecDepth 8000 in
set_option maxHeartbeats 4000000 in
theorem rwaits {base : Nat} {w : World} {t : Nat} {v u0 u1 : Value} {k : Nat} {C : List Rc} (h : Bk w t 31 [u0, u1, v, .int .i64 (k : Int)]) (hr : Gr.Rw (rcE 42) base w v C) (hk : k ≤ C.length) (hl : C.length ≤ 262144) :
    Calls Try.prog 26 #[.pointer (some ⟨t, 2, none⟩)] w (RwOut (rcE 42) w (C.drop k)) := by
  have c0 := h.cell (i := 2) rfl
  have c1 := h.cell (i := 3) rfl
  rcases hr.addr with ⟨rfl, rfl⟩ | ⟨g, cap, rfl, _, _, h1, h2⟩
  · obtain rfl : k = 0 := by simpa using hk
    clear h hr hk hl
    go_enter Try.func26, Try.ntmps26
    go_upto_region 1 with fail
    have k0 := Kp.refl [] w
    go_region_law (first
      | (refine Gr.step_app (E := (rcE 42)) Try.underlying27 Try.infoRcvP rfl (by decide) (by decide) (by rfl) _ _ (by rfl) w.heap.size (.slice none 0 0) (.slice none 0 0) [] [] (by rfl) (by rfl) (Gr.Rw.nil _ _) (.inl ⟨rfl, rfl⟩) (by decide) k0.drew.size ?_; intro v1 w1 hrow hgrow hat; have R1 := hide hrow; have K1 := hide (Gr.kp_grown k0.drew hgrow (fun q hq => by cases hq)); clear hrow hgrow hat))
    all_goals
      go_wp2
      go_ret
      exact ⟨_, rfl, unhide R1, unhide K1⟩
  · have b0 : (0 : Int) ≤ (k : Int) := by omega
    have b1 : (k : Int) ≤ (C.length : Int) := by omega
    have b2 : (C.length : Int) ≤ (cap : Int) := by omega
    have b3 : ((k : Int)).toNat = k := Int.toNat_natCast k
    have K0 := hide ((Kp.refl [] w).drew)
    replace hl := hide hl
    by_cases hck : cap = k
    · have hS : Hid (Gr.Src (rcE 42) w.drew (.slice (some ⟨g, 0, none⟩) (C.length - k) 0) (C.drop k)) := by
        rw [List.drop_eq_nil_of_le (by omega)]
        exact Gr.src_nil (by omega)
      clear h hr
      go_enter Try.func26, Try.ntmps26
      go_upto_region 1 with fail
      go_region_law (first
        | (refine Gr.step_app (E := (rcE 42)) Try.underlying27 Try.infoRcvP rfl (by decide) (by decide) (by rfl) _ _ (by rfl) w.heap.size (.slice none 0 0) _ [] (C.drop k) (by rfl) (by rfl) (Gr.Rw.nil _ _) (unhide hS) (by have := unhide hl; simp; omega) (unhide K0).size ?_; intro v1 w1 hrow hgrow hat; have R1 := hide hrow; have K1 := hide (Gr.kp_grown (unhide K0) hgrow (fun q hq => by cases hq)); clear hrow hgrow hat))
      all_goals
        go_wp2
        go_ret
        exact ⟨_, rfl, unhide R1, unhide K1⟩
    · have hS := hide (((hr.grew (unhide K0)).back k (cap - k) hk))
      clear h hr
      go_enter Try.func26, Try.ntmps26
      go_upto_region 1 with fail
      go_region_law (first
        | (refine Gr.step_app (E := (rcE 42)) Try.underlying27 Try.infoRcvP rfl (by decide) (by decide) (by rfl) _ _ (by rfl) w.heap.size (.slice none 0 0) _ [] (C.drop k) (by rfl) (by rfl) (Gr.Rw.nil _ _) (unhide hS) (by have := unhide hl; simp; omega) (unhide K0).size ?_; intro v1 w1 hrow hgrow hat; have R1 := hide hrow; have K1 := hide (Gr.kp_grown (unhide K0) hgrow (fun q hq => by cases hq)); clear hrow hgrow hat))
      all_goals
        go_wp2
        go_ret
        exact ⟨_, rfl, unhide R1, unhide K1⟩
end Go.Proofs.Ythnpkojfkhndoaa
