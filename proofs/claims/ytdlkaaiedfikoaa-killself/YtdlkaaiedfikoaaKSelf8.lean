/- The walk of KillSelf. -/
import Derived.Test.YtdlkaaiedfikoaaKLaw8
import Derived.Test.YtdlkaaiedfikoaaKArgs
import Derived.Test.YtdlkaaiedfikoaaKRef
namespace Go.Proofs.Ytdlkaaiedfikoaa
open Go.RowKit
set_option linter.unusedVariables false
def sA : List Sl := [⟨5, 1, 0, 0, 2, 7, 0, 0, 0⟩]
def sB (i u v : Int) : List Sl := [⟨5, 1, 0, 0, 2, 7, 0, 0, 0⟩, ⟨7, i, u, v, 2, 7, 0, 0, 0⟩]
def sC (i : Int) : List Sl := [⟨7, i, 0, 0, 2, 7, 0, 0, 0⟩]
theorem sixteen8 {i : Nat} (h : i < 16) : i = 0 ∨ i = 1 ∨ i = 2 ∨ i = 3 ∨ i = 4 ∨ i = 5 ∨ i = 6 ∨ i = 7 ∨ i = 8 ∨ i = 9 ∨ i = 10 ∨ i = 11 ∨ i = 12 ∨ i = 13 ∨ i = 14 ∨ i = 15 := by omega
theorem s_1 : putP [] 5 1 2 7 0 0 0 0 0 ∧ insL [] ⟨5, 1, 0, 0, 2, 7, 0, 0, 0⟩ = sA := ⟨⟨by decide, rfl, by decide, .inl ⟨rfl, rfl⟩⟩, rfl⟩
theorem s_2 (i : Nat) (h : i < 16) : (placeOk 7 i = true ∧ atL sA 7 i = none) ∧ (insL sA ⟨7, i, 0, 0, 2, 7, 0, 0, 0⟩ = sB i 0 0 ∧ insL sA ⟨7, i, 5, 1, 2, 7, 0, 0, 0⟩ = sB i 5 1) := by
  rcases sixteen8 h with rfl | rfl | rfl | rfl | rfl | rfl | rfl | rfl | rfl | rfl | rfl | rfl | rfl | rfl | rfl | rfl <;> exact ⟨⟨rfl, rfl⟩, rfl, rfl⟩
theorem s_3 (i : Nat) (h : i < 16) : revR 2 (sB i 5 1) 5 1 = ([], sA, 0) ∧ delF 2 (sB i 0 0) 5 1 = ([], sC i, 0) ∧ delF 1 (sC i) 7 i = ([(2, 7)], [], 0) := by
  rcases sixteen8 h with rfl | rfl | rfl | rfl | rfl | rfl | rfl | rfl | rfl | rfl | rfl | rfl | rfl | rfl | rfl | rfl <;> exact ⟨rfl, rfl, rfl⟩
theorem s_put0 (i : Nat) (h : i < 16) : putP sA 7 i 2 7 0 0 0 0 0 := ⟨(s_2 i h).1.1, (s_2 i h).1.2, by decide, .inl ⟨rfl, rfl⟩⟩
theorem s_put1 (i : Nat) (h : i < 16) : putP sA 7 i 2 7 0 0 0 5 1 := ⟨(s_2 i h).1.1, (s_2 i h).1.2, by decide, .inr (by rw [show atL sA 5 1 = some 0 from rfl]; simp)⟩
/-- The table, three places' boxes. -/
structure Ds (w : World) (t : Nat) (L : List Sl) (i u v : Int) (wx : World) : Prop where
  tb : TabIn w t L wx
  p : Bk wx (t + 1) 28 [.int .i64 5, .int .i64 1]
  q : Bk wx (t + 1 + 1) 28 [.int .i64 7, .int .i64 i]
  u : Bk wx (t + 1 + 1 + 1) 28 [.int .i64 u, .int .i64 v]
theorem Ds.grew {w : World} {t : Nat} {L : List Sl} {i u v : Int} {wx wy : World} (h : Ds w t L i u v wx) (k : Kp [] wx wy) : Ds w t L i u v wy := ⟨h.tb.grew k, h.p.kept k (by simp), h.q.kept k (by simp), h.u.kept k (by simp)⟩
theorem Ds.turned {w : World} {t : Nat} {L L' : List Sl} {i u v : Int} {wx wy : World} (h : Ds w t L i u v wx) (X : TabIn w t L' wy) (T : Tch w t wx wy) : Ds w t L' i u v wy := ⟨X, T.bk h.p (by omega), T.bk h.q (by omega), T.bk h.u (by omega)⟩
theorem Ds.cells {w : World} {t : Nat} {L : List Sl} {i u v : Int} {wx : World} (h : Ds w t L i u v wx) : (wx.cell? ⟨t + 1, 0, none⟩ = some (.int .i64 5) ∧ wx.cell? ⟨t + 1, 1, none⟩ = some (.int .i64 1)) ∧ (wx.cell? ⟨t + 1 + 1, 0, none⟩ = some (.int .i64 7) ∧ wx.cell? ⟨t + 1 + 1, 1, none⟩ = some (.int .i64 i)) ∧ (wx.cell? ⟨t + 1 + 1 + 1, 0, none⟩ = some (.int .i64 u) ∧ wx.cell? ⟨t + 1 + 1 + 1, 1, none⟩ = some (.int .i64 v)) := ⟨⟨h.p.cell rfl, h.p.cell rfl⟩, ⟨h.q.cell rfl, h.q.cell rfl⟩, h.u.cell rfl, h.u.cell rfl⟩
set_option maxRecDepth 4000 in
set_option maxHeartbeats 4000000 in
theorem self_walk (slot : Int) (below : Bool) (w : World) (_ : (Lit.int .i64 slot).wf = true) :
    Calls Try.prog 8 #[.int .i64 slot, .bool below] w fun e w' => e = .returned (.bool true) ∧ Below w.heap.size w w' := by
  obtain ⟨i, hi⟩ : ∃ i : Nat, slot % 16 = (i : Int) := ⟨(slot % 16).toNat, by omega⟩
  have i1 : i < 16 := by omega
  obtain ⟨hrev, hd1, hd2⟩ := s_3 i i1
  obtain ⟨_, hin0, hin1⟩ := s_2 i i1
  have hp0 := s_put0 i i1
  have hp1 := s_put1 i i1
  have h51 : Hid (PIn (5, 1)) := pin8 (by decide) (by decide) (by decide) (by decide)
  have h7i : Hid (PIn (7, (i : Int))) := pin8 (by omega) (by omega) (by omega) (by omega)
  replace hi := hide hi
  replace hrev := hide hrev
  replace hd1 := hide hd1
  replace hd2 := hide hd2
  cases below
  case' false =>
    have hup : Hid (PIn (0, 0)) := pin_zero
    have hput := hide hp0
    have hins := hide hin0
  case' true =>
    have hup : Hid (PIn (5, 1)) := unhide h51
    have hput := hide hp1
    have hins := hide hin1
  all_goals
    clear hp0 hp1 hin0 hin1
    go_enter Try.func8, Try.ntmps8
    go_wp2_with fail
    refine (first_calls _).mono ?_
    rintro e W0 ⟨rfl, K0⟩
    replace K0 := hide K0
    go_wp2_with fail
    refine (number_to _ _ _ _ (by omega) (by omega) (unhide hi)).mono ?_
    rintro e w' ⟨rfl, rfl⟩
  focus
    obtain ⟨t, et⟩ : ∃ t, w'.heap.size = t := ⟨_, rfl⟩
    have X0 := hide (Ds.mk (t := w'.heap.size) (TabIn.of (T := []) (w := w) (unhide K0) rfl ((((Kp.refl [] _).alloc (.cells #[.int .i64 5, .int .i64 1] 28)).alloc (.cells #[.int .i64 7, .int .i64 (i : Int)] 28)).alloc (.cells #[.int .i64 5, .int .i64 1] 28))) (((Bk.next (p := w'.heap.size + 1) _ 28 [.int .i64 5, .int .i64 1] (by simp)).alloc _).alloc _) ((Bk.next (p := w'.heap.size + 1 + 1) _ 28 [.int .i64 7, .int .i64 (i : Int)] (by simp)).alloc _) (Bk.next (p := w'.heap.size + 1 + 1 + 1) _ 28 [.int .i64 5, .int .i64 1] (by simp)))
    rw [et] at X0
    go_wp2_with fail
    generalize (((w'.alloc (.cells #[.map none] 26)).alloc (.cells #[.int .i64 5, .int .i64 1] 28)).alloc (.cells #[.int .i64 7, .int .i64 (i : Int)] 28)).alloc (.cells #[.int .i64 5, .int .i64 1] 28) = W1 at *
    clear et K0
    refine (tput_yes (unhide X0).tb (unhide h51) pin_zero s_1.1 (by decide) s_1.2).mono ?_
    rintro e W2 ⟨rfl, X2, T2⟩
    have Z2 := hide ((unhide X0).turned X2 T2)
    clear X2 T2 X0
    obtain ⟨⟨p0, p1⟩, ⟨q0, q1⟩, u0, u1⟩ := (unhide Z2).cells
    go_wp2_with fail
    refine (tput_yes (unhide Z2).tb (unhide h7i) (unhide hup) (unhide hput) (by decide) (unhide hins)).mono ?_
    rintro e W3 ⟨rfl, X3, T3⟩
    have Z3 := hide ((unhide Z2).turned X3 T3)
    clear X3 T3 Z2 p0 p1 q0 q1 u0 u1
    obtain ⟨⟨p0, p1⟩, ⟨q0, q1⟩, u0, u1⟩ := (unhide Z3).cells
    go_wp2_with fail
    refine (krevoke (unhide Z3).tb (m := 2) (Nat.le_refl 2) (unhide h51) (unhide hrev)).mono ?_
    rintro e W4 ⟨v4, rfl, O4, X4, T4⟩
    simp only at O4 X4 ⊢
    obtain ⟨a4, c4, e4⟩ := O4.zero
    subst e4
    replace X4 := hide X4
    clear O4 T4 Z3 p0 p1 q0 q1 u0 u1
    go_wp2_with fail
    refine (tall (unhide X4)).mono ?_
    rintro e W5 ⟨v5, rfl, P5, K5⟩
    obtain ⟨a5, c5, e5⟩ := P5.form
    have e5' : v5 = .slice a5 1 c5 := e5
    subst e5'
    have X5 := hide ((unhide X4).grew K5)
    clear P5 K5 e5 X4
    go_wp2
    go_ret
    exact ⟨rfl, (unhide X5).kp.below (Nat.le_refl _) (by simp)⟩
  focus
    obtain ⟨t, et⟩ : ∃ t, w'.heap.size = t := ⟨_, rfl⟩
    have X0 := hide (Ds.mk (t := w'.heap.size) (TabIn.of (T := []) (w := w) (unhide K0) rfl ((((Kp.refl [] _).alloc (.cells #[.int .i64 5, .int .i64 1] 28)).alloc (.cells #[.int .i64 7, .int .i64 (i : Int)] 28)).alloc (.cells #[.int .i64 0, .int .i64 0] 28))) (((Bk.next (p := w'.heap.size + 1) _ 28 [.int .i64 5, .int .i64 1] (by simp)).alloc _).alloc _) ((Bk.next (p := w'.heap.size + 1 + 1) _ 28 [.int .i64 7, .int .i64 (i : Int)] (by simp)).alloc _) (Bk.next (p := w'.heap.size + 1 + 1 + 1) _ 28 [.int .i64 0, .int .i64 0] (by simp)))
    rw [et] at X0
    go_wp2_with fail
    generalize (((w'.alloc (.cells #[.map none] 26)).alloc (.cells #[.int .i64 5, .int .i64 1] 28)).alloc (.cells #[.int .i64 7, .int .i64 (i : Int)] 28)).alloc (.cells #[.int .i64 0, .int .i64 0] 28) = W1 at *
    clear et K0
    refine (tput_yes (unhide X0).tb (unhide h51) pin_zero s_1.1 (by decide) s_1.2).mono ?_
    rintro e W2 ⟨rfl, X2, T2⟩
    have Z2 := hide ((unhide X0).turned X2 T2)
    clear X2 T2 X0
    obtain ⟨⟨p0, p1⟩, ⟨q0, q1⟩, u0, u1⟩ := (unhide Z2).cells
    go_wp2_with fail
    refine (tput_yes (unhide Z2).tb (unhide h7i) (unhide hup) (unhide hput) (by decide) (unhide hins)).mono ?_
    rintro e W3 ⟨rfl, X3, T3⟩
    have Z3 := hide ((unhide Z2).turned X3 T3)
    clear X3 T3 Z2 p0 p1 q0 q1 u0 u1
    obtain ⟨⟨p0, p1⟩, ⟨q0, q1⟩, u0, u1⟩ := (unhide Z3).cells
    go_wp2_with fail
    refine (kdelete (unhide Z3).tb (m := 2) (Nat.le_refl 2) (unhide h51) (unhide hd1)).mono ?_
    rintro e W4 ⟨v4, rfl, O4, X4, T4⟩
    simp only at O4 X4 ⊢
    obtain ⟨a4, c4, e4⟩ := O4.zero
    subst e4
    have Z4 := hide ((unhide Z3).turned X4 T4)
    clear O4 X4 T4 Z3 p0 p1 q0 q1 u0 u1
    go_wp2_with fail
    refine (tall (unhide Z4).tb).mono ?_
    rintro e W5 ⟨v5, rfl, P5, K5⟩
    obtain ⟨a5, c5, e5⟩ := P5.form
    have e5' : v5 = .slice a5 1 c5 := e5
    subst e5'
    have Z5 := hide ((unhide Z4).grew K5)
    clear P5 K5 e5 Z4
    obtain ⟨⟨p0, p1⟩, ⟨q0, q1⟩, u0, u1⟩ := (unhide Z5).cells
    go_wp2_with fail
    refine (kdelete (unhide Z5).tb (m := 1) (Nat.le_refl 1) (unhide h7i) (unhide hd2)).mono ?_
    rintro e W6 ⟨v6, rfl, O6, X6, T6⟩
    simp only at O6 X6 ⊢
    have O7 := hide O6
    replace X6 := hide X6
    obtain ⟨g, c6, e6, x0, x1⟩ := O6.one
    subst e6
    clear O6 T6 Z5 p0 p1 q0 q1 u0 u1
    go_wp2_with fail
    refine (tall (unhide X6)).mono ?_
    rintro e W7 ⟨v7, rfl, P7, K7⟩
    obtain ⟨a7, c7, e7⟩ := P7.form
    have e7' : v7 = .slice a7 0 c7 := e7
    subst e7'
    have X7 := hide ((unhide X6).grew K7)
    clear P7 K7 e7 X6 x0 x1
    go_wp2
    go_ret
    exact ⟨rfl, (unhide X7).kp.below (Nat.le_refl _) (by simp)⟩
end Go.Proofs.Ytdlkaaiedfikoaa
