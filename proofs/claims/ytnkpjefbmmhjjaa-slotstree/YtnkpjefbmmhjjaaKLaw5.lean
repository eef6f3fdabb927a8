/- What layer 5's statements begin with. -/
import Derived.Test.YtnkpjefbmmhjjaaKSlots11
import Derived.Test.YtnkpjefbmmhjjaaKTree2
import Derived.Test.YtnkpjefbmmhjjaaKRef
namespace Go.Proofs.Ytnkpjefbmmhjjaa
open Go.RowKit
set_option linter.unusedVariables false
theorem PT.new (w : World) : PT (w.alloc (.cells #[.map none] 27)) w.heap.size none [] :=
  ⟨Bk.new w 27 [.map none], rfl, List.Pairwise.nil, by simp, by simp⟩
theorem PT.fresh {w : World} {t : Nat} (h : Bk w t 27 [.map none]) : PT w t none [] := ⟨h, rfl, List.Pairwise.nil, by simp, by simp⟩
theorem put_is {L : List Sl} {n s k o z b r u v : Int} (h1 : placeOk n s = true) (h2 : atL L n s = none) (h3 : chk k o z b r = true) (h4 : isN u v = true ∨ atL L u v ≠ none) : putP L n s k o z b r u v := ⟨h1, h2, h3, h4.imp (fun q => isN_iff.1 q) id⟩
theorem pin_zero : PIn (0, 0) := ⟨in64_of (by decide) (by decide), in64_of (by decide) (by decide)⟩
/-- As put_yes, with what comes of it given by name. -/
theorem put_to {w : World} {t : Nat} {m : Option Nat} {L L' : List Sl} (h : PT w t m L) {n s k o z b r u v : Int} (hi : PIn (n, s)) (hu : PIn (u, v)) (hp : putP L n s k o z b r u v) (hL : L.length < 65536) (e : insL L ⟨n, s, u, v, k, o, z, b, r⟩ = L') :
    Calls Try.prog 16 #[.pointer (some ⟨t, 0, none⟩), .agg #[.int .i64 n, .int .i64 s], .agg #[.int .i64 k, .int .i64 o, .int .i64 z, .int .i64 b, .int .i64 r], .agg #[.int .i64 u, .int .i64 v]] w (PPutP w t m L') := by subst e; exact put_yes h hi hu hp hL
set_option maxRecDepth 4000 in
set_option maxHeartbeats 1000000 in
theorem first_calls (w : World) : Calls Try.prog 8 #[] w fun e w' => e = .returned (.bool true) ∧ Kp [] w w' := by
  have h0 := hide ((PT.new w).grew ((Kp.refl [] _).alloc (.cells #[.int .i64 1, .int .i64 2] 35)))
  have K0 := hide (((Kp.refl [] w).alloc (.cells #[.map none] 27)).alloc (.cells #[.int .i64 1, .int .i64 2] 35))
  have B0 := hide (Bk.next (p := w.heap.size + 1) (w.alloc (.cells #[.map none] 27)) 35 [.int .i64 1, .int .i64 2] (by simp))
  go_enter Try.func8, Try.ntmps8
  go_wp2_with fail
  refine (all_calls (unhide h0)).mono ?_
  rintro e W1 ⟨v1, rfl, hP1, hK1⟩
  have h1 := hide ((unhide h0).grew hK1)
  have B1 := (unhide B0).kept hK1 (by simp)
  have c0 := B1.cell (i := 0) rfl
  have c1 := B1.cell (i := 1) rfl
  have K1 := hide ((unhide K0).then hK1)
  obtain ⟨a1, cp1, e1⟩ := hP1.form
  have e1' : v1 = .slice a1 0 cp1 := e1
  subst e1'
  clear hP1 hK1 B1 e1
  go_wp2_with fail
  refine (put_to (L' := [⟨1, 2, 0, 0, 3, 3, 0, 0, 0⟩]) (unhide h1) (pin_ok (by kernel_rfl)) pin_zero (put_is (by kernel_rfl) (by kernel_rfl) (by kernel_rfl) (.inl (by kernel_rfl))) (by simp) (by rfl)).mono ?_
  rintro e W2 ⟨rfl, m2, hT2, hK2, hm2⟩
  have h2 := hide hT2
  have K2 := hide ((unhide K1).trans hK2 (T := []) (by simp) (by simp))
  clear hT2 hK2
  go_wp2_with fail
  refine (all_calls (unhide h2)).mono ?_
  rintro e W3 ⟨v3, rfl, hP3, hK3⟩
  obtain ⟨a3, cp3, e3⟩ := hP3.form
  have e3' : v3 = .slice a3 1 cp3 := e3
  subst e3'
  have K3 := hide ((unhide K2).then hK3)
  clear hP3 hK3 e3
  go_wp2
  go_ret
  exact ⟨rfl, unhide K3⟩
end Go.Proofs.Ytnkpjefbmmhjjaa
