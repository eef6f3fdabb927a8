/- The chapter's examples (ringkernlaw8.first). -/
import Derived.Test.YtdlkaaiedfikoaaKKillI
namespace Go.Proofs.Ytdlkaaiedfikoaa
open Go.RowKit
set_option linter.unusedVariables false
theorem pin8 {n s : Int} (h1 : -1000000 ≤ n) (h2 : n ≤ 1000000) (h3 : -1000000 ≤ s) (h4 : s ≤ 1000000) : PIn (n, s) := ⟨in64_of (by show _ ≤ n; omega) (by show n ≤ _; omega), in64_of (by show _ ≤ s; omega) (by show s ≤ _; omega)⟩
def f8a : List Sl := [⟨1, 1, 0, 0, 3, 5, 0, 0, 0⟩]
theorem f8_1 : delF 0 [] 1 1 = ([], [], 4) := rfl
theorem f8_2 : putP [] 1 1 3 5 0 0 0 0 0 ∧ insL [] ⟨1, 1, 0, 0, 3, 5, 0, 0, 0⟩ = f8a := ⟨⟨by decide, rfl, by decide, .inl ⟨rfl, rfl⟩⟩, rfl⟩
theorem f8_3 : delF 1 f8a 1 1 = ([(3, 5)], [], 0) := rfl
/-- One object alone. -/
theorem Ol.one {base : Nat} {w : World} {v : Value} {a b : Int} (h : Ol base w v [(a, b)]) : ∃ g c, v = .slice (some ⟨g, 0, none⟩) 1 c ∧ w.cell? ⟨g, 0, none⟩ = some (.int .i64 a) ∧ w.cell? ⟨g, 1, none⟩ = some (.int .i64 b) := by
  rcases h.addr with ⟨_, e⟩ | ⟨g, c, e, _⟩
  · cases e
  · subst e
    obtain ⟨x0, x1⟩ := h.at (j := 0) rfl
    exact ⟨g, c, rfl, x0, x1⟩
theorem Ol.zero {base : Nat} {w : World} {v : Value} (h : Ol base w v []) : ∃ a c, v = .slice a 0 c := h.form
set_option maxRecDepth 4000 in
set_option maxHeartbeats 2000000 in
theorem first_calls (w : World) : Calls Try.prog 9 #[] w fun e w' => e = .returned (.bool true) ∧ Kp [] w w' := by
  have X0 := hide (TabIn.of (T := []) (w := w) (W := w) (Kp.refl [] w) rfl (Kp.refl [] _))
  obtain ⟨t, et⟩ : ∃ t, w.heap.size = t := ⟨_, rfl⟩
  rw [et] at X0
  have h11 : Hid (PIn (1, 1)) := pin8 (by decide) (by decide) (by decide) (by decide)
  go_enter Try.func9, Try.ntmps9
  go_wp2_with fail
  generalize w.alloc (.cells #[.map none] 26) = W1 at *
  clear et
  refine (kdelete (unhide X0) (m := 0) (by simp) (unhide h11) f8_1).mono ?_
  rintro e W2 ⟨v2, rfl, O2, X2, _⟩
  simp only at O2 X2 ⊢
  obtain ⟨a2, c2, e2⟩ := O2.zero
  subst e2
  replace X2 := hide X2
  clear O2 X0
  go_wp2_with fail
  refine (tput_yes (unhide X2) (unhide h11) pin_zero f8_2.1 (by decide) f8_2.2).mono ?_
  rintro e W3 ⟨rfl, X3, _⟩
  replace X3 := hide X3
  clear X2
  go_wp2_with fail
  refine (kdelete (unhide X3) (m := 1) (by decide) (unhide h11) f8_3).mono ?_
  rintro e W4 ⟨v4, rfl, O4, X4, _⟩
  simp only at O4 X4 ⊢
  obtain ⟨g, c4, e4, x0, x1⟩ := O4.one
  subst e4
  replace X4 := hide X4
  clear O4 X3
  go_wp2
  go_ret
  exact ⟨rfl, (unhide X4).kp⟩
end Go.Proofs.Ytdlkaaiedfikoaa
