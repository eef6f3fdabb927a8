/- The chapter's examples (ringkernlaw9.first). -/
import Derived.Test.YthjhpcbhkcmghaaKMake2
import Derived.Test.YthjhpcbhkcmghaaKRef
namespace Go.Proofs.Ythjhpcbhkcmghaa
open Go.RowKit
set_option linter.unusedVariables false
theorem pin9 {n s : Int} (h1 : -1000000 ≤ n) (h2 : n ≤ 1000000) (h3 : -1000000 ≤ s) (h4 : s ≤ 1000000) : PIn (n, s) := ⟨in_small h1 h2, in_small h3 h4⟩
theorem f9_1 (F : Int × Int → Int) : mkR [] F 1 1 1 2 3 0 = ⟨4, 0, [], F⟩ := rfl
set_option maxRecDepth 4000 in
set_option maxHeartbeats 2000000 in
theorem first_calls (w : World) : Calls Try.prog 8 #[] w fun e w' => e = .returned (.bool true) ∧ Kp [] w w' := by
  have X0 := hide (TM.start (w := w) (y := w.heap.size + 1) (TabIn.of (T := []) (w := w) (W := w) (Kp.refl [] w) rfl (Kp.refl [] _)) (by simp) (Kp.refl [] _))
  obtain ⟨t, et⟩ : ∃ t, w.heap.size = t := ⟨_, rfl⟩
  rw [et] at X0
  have h11 : Hid (PIn (1, 1)) := pin9 (by decide) (by decide) (by decide) (by decide)
  have h12 : Hid (PIn (1, 2)) := pin9 (by decide) (by decide) (by decide) (by decide)
  have h53 : Hid (PIn (5, 3)) := pin9 (by decide) (by decide) (by decide) (by decide)
  go_enter Try.func8, Try.ntmps8
  go_wp2_with fail
  generalize (w.alloc (.cells #[.map none] 27)).alloc (.cells #[.map none] 33) = W1 at *
  clear et
  refine (kmake (unhide X0) FB.zero (unhide h11) (unhide h12) 3 0 (by decide) (f9_1 _)).mono ?_
  rintro e W2 ⟨he, X2, _⟩
  simp only [capR, show ¬ ((4:Int) = 0) from by decide, if_false] at he
  subst he
  have X3 := hide (X2.grew ((Kp.refl [] W2).alloc (.cells #[.int .i64 0, .int .i64 0, .int .i64 0, .int .i64 0, .int .i64 0] 38)))
  clear X0 X2
  go_wp2_with fail
  generalize W2.alloc (.cells #[.int .i64 0, .int .i64 0, .int .i64 0, .int .i64 0, .int .i64 0] 38) = W3 at *
  refine (mtake_yes (u := 0) (unhide X3).ma (unhide h53) rfl (by rfl) (by rfl) (by rfl) (by decide) (by decide)).mono ?_
  rintro e W4 ⟨rfl, M4, T4⟩
  have X4 := hide ((unhide X3).turnM T4 M4)
  clear X3 M4 T4
  go_wp2_with fail
  refine (mused (u := 2) (unhide X4).ma (unhide h53) rfl).mono ?_
  rintro e W5 ⟨rfl, K5⟩
  have X5 := hide ((unhide X4).grew K5)
  clear X4 K5
  go_wp2
  go_ret
  exact ⟨rfl, (unhide X5).tab.kp⟩
end Go.Proofs.Ythjhpcbhkcmghaa
