/- The walk of SpaceRefuses. -/
import Derived.Test.YtlallciikcmjmaaKSpIn
import Derived.Test.YtlallciikcmjmaaKRef
namespace Go.Proofs.Ytlallciikcmjmaa
open Go.RowKit
set_option linter.unusedVariables false
/-- The maps, a page's box, a frame's box. -/
structure R10 (w : World) (t : Nat) (L : List Pg) (s p f r : Int) (wx : World) : Prop where
  sp : SpIn w t L wx
  p : Bk wx (t + 1) 30 [.int .i64 s, .int .i64 p]
  f : Bk wx (t + 2) 34 [.int .i64 f, .int .i64 r]
theorem R10.grew {w : World} {t : Nat} {L : List Pg} {s p f r : Int} {wx wy : World} (h : R10 w t L s p f r wx) (k : Kp [] wx wy) : R10 w t L s p f r wy := ⟨h.sp.grew k, h.p.kept k (by simp), h.f.kept k (by simp)⟩
theorem R10.turned {w : World} {t : Nat} {L L' : List Pg} {s p f r : Int} {wx wy : World} (h : R10 w t L s p f r wx) (X : SpIn w t L' wy) (S : Sch w t wx wy) : R10 w t L' s p f r wy := ⟨X, S.bk h.p (by omega), S.bk h.f (by omega)⟩
theorem R10.cells {w : World} {t : Nat} {L : List Pg} {s p f r : Int} {wx : World} (h : R10 w t L s p f r wx) : wx.cell? ⟨t + 1, 0, none⟩ = some (.int .i64 s) ∧ wx.cell? ⟨t + 1, 1, none⟩ = some (.int .i64 p) ∧ wx.cell? ⟨t + 2, 0, none⟩ = some (.int .i64 f) ∧ wx.cell? ⟨t + 2, 1, none⟩ = some (.int .i64 r) := ⟨h.p.cell rfl, h.p.cell rfl, h.f.cell rfl, h.f.cell rfl⟩
theorem R10.start {w W : World} {t : Nat} (k : Kp [] w W) (ht : W.heap.size = t) (s p f r : Int) : R10 w t [] s p f r (((W.alloc (.cells #[.map none] 26)).alloc (.cells #[.int .i64 s, .int .i64 p] 30)).alloc (.cells #[.int .i64 f, .int .i64 r] 34)) :=
  ⟨SpIn.of k ht.symm (((Kp.refl [] _).alloc _).alloc _), (Gr.bk_next _ 30 [.int .i64 s, .int .i64 p] (by simp [ht])).alloc _, Gr.bk_next _ 34 [.int .i64 f, .int .i64 r] (by simp [ht])⟩
theorem R10.setp {w : World} {t : Nat} {L : List Pg} {s p f r : Int} {wx : World} (h : R10 w t L s p f r wx) (v : Int) : R10 w t L s v f r (wx.setCell ⟨t + 1, 1, none⟩ (.int .i64 v)) :=
  have k := (Kp.refl [t + 1] wx).setCell (p := ⟨t + 1, 1, none⟩) (.inl (by simp)) (.int .i64 v)
  ⟨h.sp.beside k h.p (by omega) (by have := h.sp.new; omega), h.p.set 1 (.int .i64 v), h.f.kept k (by simp)⟩
theorem R10.sets {w : World} {t : Nat} {L : List Pg} {s p f r : Int} {wx : World} (h : R10 w t L s p f r wx) (v : Int) : R10 w t L v p f r (wx.setCell ⟨t + 1, 0, none⟩ (.int .i64 v)) :=
  have k := (Kp.refl [t + 1] wx).setCell (p := ⟨t + 1, 0, none⟩) (.inl (by simp)) (.int .i64 v)
  ⟨h.sp.beside k h.p (by omega) (by have := h.sp.new; omega), h.p.set 0 (.int .i64 v), h.f.kept k (by simp)⟩
theorem R10.setr {w : World} {t : Nat} {L : List Pg} {s p f r : Int} {wx : World} (h : R10 w t L s p f r wx) (v : Int) : R10 w t L s p f v (wx.setCell ⟨t + 2, 1, none⟩ (.int .i64 v)) :=
  have k := (Kp.refl [t + 2] wx).setCell (p := ⟨t + 2, 1, none⟩) (.inl (by simp)) (.int .i64 v)
  ⟨h.sp.beside k h.f (by omega) (by have := h.sp.new; omega), h.p.kept k (by simp), h.f.set 1 (.int .i64 v)⟩
theorem R10.setf {w : World} {t : Nat} {L : List Pg} {s p f r : Int} {wx : World} (h : R10 w t L s p f r wx) (v : Int) : R10 w t L s p v r (wx.setCell ⟨t + 2, 0, none⟩ (.int .i64 v)) :=
  have k := (Kp.refl [t + 2] wx).setCell (p := ⟨t + 2, 0, none⟩) (.inl (by simp)) (.int .i64 v)
  ⟨h.sp.beside k h.f (by omega) (by have := h.sp.new; omega), h.p.kept k (by simp), h.f.set 0 (.int .i64 v)⟩
theorem ref_no {s p f r : Int} (h : ¬ (0 ≤ p ∧ p < 8) ∨ ¬ (1 ≤ s ∧ s ≤ 64) ∨ ¬ (1 ≤ f ∧ f ≤ 64) ∨ ¬ (1 ≤ r ∧ r ≤ 3)) : ¬ setP [] s p f r := by
  unfold setP unitP
  omega
theorem pgLook_empty (s a n r : Int) : pgLook [] s a n r = none := pgLook_none rfl
set_option maxRecDepth 4000 in
set_option maxHeartbeats 2000000 in
theorem ref_0 (which n0 n : Int) (w : World) (hn : n0 % 1000 = n) (na : 0 ≤ n) (nb : n < 1000) (hk : which % 8 = 0) :
    Calls Try.prog 7 #[.int .i64 which, .int .i64 n0] w fun e w' => e = .returned (.bool true) ∧ Kp [] w w' := by
  have hN := hide hn
  have hW := hide hk
  have hno : Hid (¬ setP [] (1) (8 + n) (1) (1)) := ref_no (by omega)
  have hi : Hid (PgIn (1, 8 + n)) := pgIn_of (by omega) (by omega)
  have hsb : Hid (-9223372036854775808 ≤ (1 : Int) ∧ (1 : Int) ≤ 9223372036854775807) := ⟨by omega, by omega⟩
  clear hn hk
  go_enter Try.func7, Try.ntmps7
  go_wp2_with fail
  refine (first_calls w).mono ?_
  rintro e W1 ⟨rfl, K1⟩
  replace K1 := hide K1
  go_wp2_with fail
  refine (number_to _ _ _ _ (by decide) (by decide) (unhide hN)).mono ?_
  rintro e W1 ⟨rfl, rfl⟩
  obtain ⟨t, ht⟩ : ∃ t, W1.heap.size = t := ⟨_, rfl⟩
  have X0 := hide (R10.start (unhide K1) ht 1 1 1 1)
  go_wp2_with fail
  refine (number_to _ _ _ _ (by decide) (by decide) (unhide hW)).mono ?_
  rintro e w' ⟨rfl, hw'⟩
  rw [← hw'] at X0
  clear hw' K1 ht
  have X1 := hide ((unhide X0).setp (8 + n))
  obtain ⟨c0, c1, c2, c3⟩ := (unhide X1).cells
  have pf := (unhide X0).p.frozen
  have ff := (unhide X0).f.frozen
  obtain ⟨d0, d1, d2, d3⟩ := (unhide X0).cells
  go_wp2_with fail
  refine (splook (o := none) (unhide X1).sp (unhide hsb) (by decide) (by decide) (by decide) (pgLook_empty _ _ _ _)).mono ?_
  rintro e W2 ⟨rfl, K2⟩
  rw [lookV_none]
  have X2 := hide ((unhide X1).grew K2)
  clear X0 X1 K2 c0 c1 c2 c3 d0 d1 d2 d3 pf ff
  obtain ⟨c0, c1, c2, c3⟩ := (unhide X2).cells
  go_wp2_with fail
  refine (spset_no (unhide X2).sp (unhide hi) (unhide hno)).mono ?_
  rintro e W3 ⟨rfl, K3⟩
  have X3 := hide ((unhide X2).grew K3)
  clear X2 K3 c0 c1 c2 c3
  obtain ⟨c0, c1, c2, c3⟩ := (unhide X3).cells
  go_wp2_with fail
  refine (spall (unhide X3).sp (ps := []) rfl).mono ?_
  rintro e W4 ⟨v, rfl, hR, K4⟩
  obtain ⟨a, c, rfl⟩ := hR.form
  have X4 := hide ((unhide X3).grew K4)
  clear X3 hR K4 c0 c1 c2 c3
  obtain ⟨c0, c1, c2, c3⟩ := (unhide X4).cells
  simp only [List.length_nil]
  go_wp2_with fail
  refine (spclear (unhide X4).sp (unhide hi) (is := false) rfl (L' := []) rfl).mono ?_
  rintro e W5 ⟨rfl, X5, _⟩
  replace X5 := hide X5
  go_wp2
  go_ret
  exact ⟨rfl, (unhide X5).kp⟩
set_option maxRecDepth 4000 in
set_option maxHeartbeats 2000000 in
theorem ref_1 (which n0 n : Int) (w : World) (hn : n0 % 1000 = n) (na : 0 ≤ n) (nb : n < 1000) (hk : which % 8 = 1) :
    Calls Try.prog 7 #[.int .i64 which, .int .i64 n0] w fun e w' => e = .returned (.bool true) ∧ Kp [] w w' := by
  have hN := hide hn
  have hW := hide hk
  have hno : Hid (¬ setP [] (1) (-1 - n) (1) (1)) := ref_no (by omega)
  have hi : Hid (PgIn (1, -1 - n)) := pgIn_of (by omega) (by omega)
  have hsb : Hid (-9223372036854775808 ≤ (1 : Int) ∧ (1 : Int) ≤ 9223372036854775807) := ⟨by omega, by omega⟩
  clear hn hk
  go_enter Try.func7, Try.ntmps7
  go_wp2_with fail
  refine (first_calls w).mono ?_
  rintro e W1 ⟨rfl, K1⟩
  replace K1 := hide K1
  go_wp2_with fail
  refine (number_to _ _ _ _ (by decide) (by decide) (unhide hN)).mono ?_
  rintro e W1 ⟨rfl, rfl⟩
  obtain ⟨t, ht⟩ : ∃ t, W1.heap.size = t := ⟨_, rfl⟩
  have X0 := hide (R10.start (unhide K1) ht 1 1 1 1)
  go_wp2_with fail
  refine (number_to _ _ _ _ (by decide) (by decide) (unhide hW)).mono ?_
  rintro e w' ⟨rfl, hw'⟩
  rw [← hw'] at X0
  clear hw' K1 ht
  have X1 := hide ((unhide X0).setp (-1 - n))
  obtain ⟨c0, c1, c2, c3⟩ := (unhide X1).cells
  have pf := (unhide X0).p.frozen
  have ff := (unhide X0).f.frozen
  obtain ⟨d0, d1, d2, d3⟩ := (unhide X0).cells
  go_wp2_with fail
  refine (splook (o := none) (unhide X1).sp (unhide hsb) (by decide) (by decide) (by decide) (pgLook_empty _ _ _ _)).mono ?_
  rintro e W2 ⟨rfl, K2⟩
  rw [lookV_none]
  have X2 := hide ((unhide X1).grew K2)
  clear X0 X1 K2 c0 c1 c2 c3 d0 d1 d2 d3 pf ff
  obtain ⟨c0, c1, c2, c3⟩ := (unhide X2).cells
  go_wp2_with fail
  refine (spset_no (unhide X2).sp (unhide hi) (unhide hno)).mono ?_
  rintro e W3 ⟨rfl, K3⟩
  have X3 := hide ((unhide X2).grew K3)
  clear X2 K3 c0 c1 c2 c3
  obtain ⟨c0, c1, c2, c3⟩ := (unhide X3).cells
  go_wp2_with fail
  refine (spall (unhide X3).sp (ps := []) rfl).mono ?_
  rintro e W4 ⟨v, rfl, hR, K4⟩
  obtain ⟨a, c, rfl⟩ := hR.form
  have X4 := hide ((unhide X3).grew K4)
  clear X3 hR K4 c0 c1 c2 c3
  obtain ⟨c0, c1, c2, c3⟩ := (unhide X4).cells
  simp only [List.length_nil]
  go_wp2_with fail
  refine (spclear (unhide X4).sp (unhide hi) (is := false) rfl (L' := []) rfl).mono ?_
  rintro e W5 ⟨rfl, X5, _⟩
  replace X5 := hide X5
  go_wp2
  go_ret
  exact ⟨rfl, (unhide X5).kp⟩
set_option maxRecDepth 4000 in
set_option maxHeartbeats 2000000 in
theorem ref_2 (which n0 n : Int) (w : World) (hn : n0 % 1000 = n) (na : 0 ≤ n) (nb : n < 1000) (hk : which % 8 = 2) :
    Calls Try.prog 7 #[.int .i64 which, .int .i64 n0] w fun e w' => e = .returned (.bool true) ∧ Kp [] w w' := by
  have hN := hide hn
  have hW := hide hk
  have hno : Hid (¬ setP [] (-n) (1) (1) (1)) := ref_no (by omega)
  have hi : Hid (PgIn (-n, 1)) := pgIn_of (by omega) (by omega)
  have hsb : Hid (-9223372036854775808 ≤ (-n : Int) ∧ (-n : Int) ≤ 9223372036854775807) := ⟨by omega, by omega⟩
  clear hn hk
  go_enter Try.func7, Try.ntmps7
  go_wp2_with fail
  refine (first_calls w).mono ?_
  rintro e W1 ⟨rfl, K1⟩
  replace K1 := hide K1
  go_wp2_with fail
  refine (number_to _ _ _ _ (by decide) (by decide) (unhide hN)).mono ?_
  rintro e W1 ⟨rfl, rfl⟩
  obtain ⟨t, ht⟩ : ∃ t, W1.heap.size = t := ⟨_, rfl⟩
  have X0 := hide (R10.start (unhide K1) ht 1 1 1 1)
  go_wp2_with fail
  refine (number_to _ _ _ _ (by decide) (by decide) (unhide hW)).mono ?_
  rintro e w' ⟨rfl, hw'⟩
  rw [← hw'] at X0
  clear hw' K1 ht
  have X1 := hide ((unhide X0).sets (-n))
  obtain ⟨c0, c1, c2, c3⟩ := (unhide X1).cells
  have pf := (unhide X0).p.frozen
  have ff := (unhide X0).f.frozen
  obtain ⟨d0, d1, d2, d3⟩ := (unhide X0).cells
  go_wp2_with fail
  refine (splook (o := none) (unhide X1).sp (unhide hsb) (by decide) (by decide) (by decide) (pgLook_empty _ _ _ _)).mono ?_
  rintro e W2 ⟨rfl, K2⟩
  rw [lookV_none]
  have X2 := hide ((unhide X1).grew K2)
  clear X0 X1 K2 c0 c1 c2 c3 d0 d1 d2 d3 pf ff
  obtain ⟨c0, c1, c2, c3⟩ := (unhide X2).cells
  go_wp2_with fail
  refine (spset_no (unhide X2).sp (unhide hi) (unhide hno)).mono ?_
  rintro e W3 ⟨rfl, K3⟩
  have X3 := hide ((unhide X2).grew K3)
  clear X2 K3 c0 c1 c2 c3
  obtain ⟨c0, c1, c2, c3⟩ := (unhide X3).cells
  go_wp2_with fail
  refine (spall (unhide X3).sp (ps := []) rfl).mono ?_
  rintro e W4 ⟨v, rfl, hR, K4⟩
  obtain ⟨a, c, rfl⟩ := hR.form
  have X4 := hide ((unhide X3).grew K4)
  clear X3 hR K4 c0 c1 c2 c3
  obtain ⟨c0, c1, c2, c3⟩ := (unhide X4).cells
  simp only [List.length_nil]
  go_wp2_with fail
  refine (spclear (unhide X4).sp (unhide hi) (is := false) rfl (L' := []) rfl).mono ?_
  rintro e W5 ⟨rfl, X5, _⟩
  replace X5 := hide X5
  go_wp2
  go_ret
  exact ⟨rfl, (unhide X5).kp⟩
set_option maxRecDepth 4000 in
set_option maxHeartbeats 2000000 in
theorem ref_3 (which n0 n : Int) (w : World) (hn : n0 % 1000 = n) (na : 0 ≤ n) (nb : n < 1000) (hk : which % 8 = 3) :
    Calls Try.prog 7 #[.int .i64 which, .int .i64 n0] w fun e w' => e = .returned (.bool true) ∧ Kp [] w w' := by
  have hN := hide hn
  have hW := hide hk
  have hno : Hid (¬ setP [] (65 + n) (1) (1) (1)) := ref_no (by omega)
  have hi : Hid (PgIn (65 + n, 1)) := pgIn_of (by omega) (by omega)
  have hsb : Hid (-9223372036854775808 ≤ (65 + n : Int) ∧ (65 + n : Int) ≤ 9223372036854775807) := ⟨by omega, by omega⟩
  clear hn hk
  go_enter Try.func7, Try.ntmps7
  go_wp2_with fail
  refine (first_calls w).mono ?_
  rintro e W1 ⟨rfl, K1⟩
  replace K1 := hide K1
  go_wp2_with fail
  refine (number_to _ _ _ _ (by decide) (by decide) (unhide hN)).mono ?_
  rintro e W1 ⟨rfl, rfl⟩
  obtain ⟨t, ht⟩ : ∃ t, W1.heap.size = t := ⟨_, rfl⟩
  have X0 := hide (R10.start (unhide K1) ht 1 1 1 1)
  go_wp2_with fail
  refine (number_to _ _ _ _ (by decide) (by decide) (unhide hW)).mono ?_
  rintro e w' ⟨rfl, hw'⟩
  rw [← hw'] at X0
  clear hw' K1 ht
  have X1 := hide ((unhide X0).sets (65 + n))
  obtain ⟨c0, c1, c2, c3⟩ := (unhide X1).cells
  have pf := (unhide X0).p.frozen
  have ff := (unhide X0).f.frozen
  obtain ⟨d0, d1, d2, d3⟩ := (unhide X0).cells
  go_wp2_with fail
  refine (splook (o := none) (unhide X1).sp (unhide hsb) (by decide) (by decide) (by decide) (pgLook_empty _ _ _ _)).mono ?_
  rintro e W2 ⟨rfl, K2⟩
  rw [lookV_none]
  have X2 := hide ((unhide X1).grew K2)
  clear X0 X1 K2 c0 c1 c2 c3 d0 d1 d2 d3 pf ff
  obtain ⟨c0, c1, c2, c3⟩ := (unhide X2).cells
  go_wp2_with fail
  refine (spset_no (unhide X2).sp (unhide hi) (unhide hno)).mono ?_
  rintro e W3 ⟨rfl, K3⟩
  have X3 := hide ((unhide X2).grew K3)
  clear X2 K3 c0 c1 c2 c3
  obtain ⟨c0, c1, c2, c3⟩ := (unhide X3).cells
  go_wp2_with fail
  refine (spall (unhide X3).sp (ps := []) rfl).mono ?_
  rintro e W4 ⟨v, rfl, hR, K4⟩
  obtain ⟨a, c, rfl⟩ := hR.form
  have X4 := hide ((unhide X3).grew K4)
  clear X3 hR K4 c0 c1 c2 c3
  obtain ⟨c0, c1, c2, c3⟩ := (unhide X4).cells
  simp only [List.length_nil]
  go_wp2_with fail
  refine (spclear (unhide X4).sp (unhide hi) (is := false) rfl (L' := []) rfl).mono ?_
  rintro e W5 ⟨rfl, X5, _⟩
  replace X5 := hide X5
  go_wp2
  go_ret
  exact ⟨rfl, (unhide X5).kp⟩
set_option maxRecDepth 4000 in
set_option maxHeartbeats 2000000 in
theorem ref_4 (which n0 n : Int) (w : World) (hn : n0 % 1000 = n) (na : 0 ≤ n) (nb : n < 1000) (hk : which % 8 = 4) :
    Calls Try.prog 7 #[.int .i64 which, .int .i64 n0] w fun e w' => e = .returned (.bool true) ∧ Kp [] w w' := by
  have hN := hide hn
  have hW := hide hk
  have hno : Hid (¬ setP [] (1) (1) (-n) (1)) := ref_no (by omega)
  have hi : Hid (PgIn (1, 1)) := pgIn_of (by omega) (by omega)
  have hsb : Hid (-9223372036854775808 ≤ (1 : Int) ∧ (1 : Int) ≤ 9223372036854775807) := ⟨by omega, by omega⟩
  clear hn hk
  go_enter Try.func7, Try.ntmps7
  go_wp2_with fail
  refine (first_calls w).mono ?_
  rintro e W1 ⟨rfl, K1⟩
  replace K1 := hide K1
  go_wp2_with fail
  refine (number_to _ _ _ _ (by decide) (by decide) (unhide hN)).mono ?_
  rintro e W1 ⟨rfl, rfl⟩
  obtain ⟨t, ht⟩ : ∃ t, W1.heap.size = t := ⟨_, rfl⟩
  have X0 := hide (R10.start (unhide K1) ht 1 1 1 1)
  go_wp2_with fail
  refine (number_to _ _ _ _ (by decide) (by decide) (unhide hW)).mono ?_
  rintro e w' ⟨rfl, hw'⟩
  rw [← hw'] at X0
  clear hw' K1 ht
  have X1 := hide ((unhide X0).setf (-n))
  obtain ⟨c0, c1, c2, c3⟩ := (unhide X1).cells
  have pf := (unhide X0).p.frozen
  have ff := (unhide X0).f.frozen
  obtain ⟨d0, d1, d2, d3⟩ := (unhide X0).cells
  go_wp2_with fail
  refine (splook (o := none) (unhide X1).sp (unhide hsb) (by decide) (by decide) (by decide) (pgLook_empty _ _ _ _)).mono ?_
  rintro e W2 ⟨rfl, K2⟩
  rw [lookV_none]
  have X2 := hide ((unhide X1).grew K2)
  clear X0 X1 K2 c0 c1 c2 c3 d0 d1 d2 d3 pf ff
  obtain ⟨c0, c1, c2, c3⟩ := (unhide X2).cells
  go_wp2_with fail
  refine (spset_no (unhide X2).sp (unhide hi) (unhide hno)).mono ?_
  rintro e W3 ⟨rfl, K3⟩
  have X3 := hide ((unhide X2).grew K3)
  clear X2 K3 c0 c1 c2 c3
  obtain ⟨c0, c1, c2, c3⟩ := (unhide X3).cells
  go_wp2_with fail
  refine (spall (unhide X3).sp (ps := []) rfl).mono ?_
  rintro e W4 ⟨v, rfl, hR, K4⟩
  obtain ⟨a, c, rfl⟩ := hR.form
  have X4 := hide ((unhide X3).grew K4)
  clear X3 hR K4 c0 c1 c2 c3
  obtain ⟨c0, c1, c2, c3⟩ := (unhide X4).cells
  simp only [List.length_nil]
  go_wp2_with fail
  refine (spclear (unhide X4).sp (unhide hi) (is := false) rfl (L' := []) rfl).mono ?_
  rintro e W5 ⟨rfl, X5, _⟩
  replace X5 := hide X5
  go_wp2
  go_ret
  exact ⟨rfl, (unhide X5).kp⟩
set_option maxRecDepth 4000 in
set_option maxHeartbeats 2000000 in
theorem ref_5 (which n0 n : Int) (w : World) (hn : n0 % 1000 = n) (na : 0 ≤ n) (nb : n < 1000) (hk : which % 8 = 5) :
    Calls Try.prog 7 #[.int .i64 which, .int .i64 n0] w fun e w' => e = .returned (.bool true) ∧ Kp [] w w' := by
  have hN := hide hn
  have hW := hide hk
  have hno : Hid (¬ setP [] (1) (1) (65 + n) (1)) := ref_no (by omega)
  have hi : Hid (PgIn (1, 1)) := pgIn_of (by omega) (by omega)
  have hsb : Hid (-9223372036854775808 ≤ (1 : Int) ∧ (1 : Int) ≤ 9223372036854775807) := ⟨by omega, by omega⟩
  clear hn hk
  go_enter Try.func7, Try.ntmps7
  go_wp2_with fail
  refine (first_calls w).mono ?_
  rintro e W1 ⟨rfl, K1⟩
  replace K1 := hide K1
  go_wp2_with fail
  refine (number_to _ _ _ _ (by decide) (by decide) (unhide hN)).mono ?_
  rintro e W1 ⟨rfl, rfl⟩
  obtain ⟨t, ht⟩ : ∃ t, W1.heap.size = t := ⟨_, rfl⟩
  have X0 := hide (R10.start (unhide K1) ht 1 1 1 1)
  go_wp2_with fail
  refine (number_to _ _ _ _ (by decide) (by decide) (unhide hW)).mono ?_
  rintro e w' ⟨rfl, hw'⟩
  rw [← hw'] at X0
  clear hw' K1 ht
  have X1 := hide ((unhide X0).setf (65 + n))
  obtain ⟨c0, c1, c2, c3⟩ := (unhide X1).cells
  have pf := (unhide X0).p.frozen
  have ff := (unhide X0).f.frozen
  obtain ⟨d0, d1, d2, d3⟩ := (unhide X0).cells
  go_wp2_with fail
  refine (splook (o := none) (unhide X1).sp (unhide hsb) (by decide) (by decide) (by decide) (pgLook_empty _ _ _ _)).mono ?_
  rintro e W2 ⟨rfl, K2⟩
  rw [lookV_none]
  have X2 := hide ((unhide X1).grew K2)
  clear X0 X1 K2 c0 c1 c2 c3 d0 d1 d2 d3 pf ff
  obtain ⟨c0, c1, c2, c3⟩ := (unhide X2).cells
  go_wp2_with fail
  refine (spset_no (unhide X2).sp (unhide hi) (unhide hno)).mono ?_
  rintro e W3 ⟨rfl, K3⟩
  have X3 := hide ((unhide X2).grew K3)
  clear X2 K3 c0 c1 c2 c3
  obtain ⟨c0, c1, c2, c3⟩ := (unhide X3).cells
  go_wp2_with fail
  refine (spall (unhide X3).sp (ps := []) rfl).mono ?_
  rintro e W4 ⟨v, rfl, hR, K4⟩
  obtain ⟨a, c, rfl⟩ := hR.form
  have X4 := hide ((unhide X3).grew K4)
  clear X3 hR K4 c0 c1 c2 c3
  obtain ⟨c0, c1, c2, c3⟩ := (unhide X4).cells
  simp only [List.length_nil]
  go_wp2_with fail
  refine (spclear (unhide X4).sp (unhide hi) (is := false) rfl (L' := []) rfl).mono ?_
  rintro e W5 ⟨rfl, X5, _⟩
  replace X5 := hide X5
  go_wp2
  go_ret
  exact ⟨rfl, (unhide X5).kp⟩
set_option maxRecDepth 4000 in
set_option maxHeartbeats 2000000 in
theorem ref_6 (which n0 n : Int) (w : World) (hn : n0 % 1000 = n) (na : 0 ≤ n) (nb : n < 1000) (hk : which % 8 = 6) :
    Calls Try.prog 7 #[.int .i64 which, .int .i64 n0] w fun e w' => e = .returned (.bool true) ∧ Kp [] w w' := by
  have hN := hide hn
  have hW := hide hk
  have hno : Hid (¬ setP [] (1) (1) (1) (-n)) := ref_no (by omega)
  have hi : Hid (PgIn (1, 1)) := pgIn_of (by omega) (by omega)
  have hsb : Hid (-9223372036854775808 ≤ (1 : Int) ∧ (1 : Int) ≤ 9223372036854775807) := ⟨by omega, by omega⟩
  clear hn hk
  go_enter Try.func7, Try.ntmps7
  go_wp2_with fail
  refine (first_calls w).mono ?_
  rintro e W1 ⟨rfl, K1⟩
  replace K1 := hide K1
  go_wp2_with fail
  refine (number_to _ _ _ _ (by decide) (by decide) (unhide hN)).mono ?_
  rintro e W1 ⟨rfl, rfl⟩
  obtain ⟨t, ht⟩ : ∃ t, W1.heap.size = t := ⟨_, rfl⟩
  have X0 := hide (R10.start (unhide K1) ht 1 1 1 1)
  go_wp2_with fail
  refine (number_to _ _ _ _ (by decide) (by decide) (unhide hW)).mono ?_
  rintro e w' ⟨rfl, hw'⟩
  rw [← hw'] at X0
  clear hw' K1 ht
  have X1 := hide ((unhide X0).setr (-n))
  obtain ⟨c0, c1, c2, c3⟩ := (unhide X1).cells
  have pf := (unhide X0).p.frozen
  have ff := (unhide X0).f.frozen
  obtain ⟨d0, d1, d2, d3⟩ := (unhide X0).cells
  go_wp2_with fail
  refine (splook (o := none) (unhide X1).sp (unhide hsb) (by decide) (by decide) (by decide) (pgLook_empty _ _ _ _)).mono ?_
  rintro e W2 ⟨rfl, K2⟩
  rw [lookV_none]
  have X2 := hide ((unhide X1).grew K2)
  clear X0 X1 K2 c0 c1 c2 c3 d0 d1 d2 d3 pf ff
  obtain ⟨c0, c1, c2, c3⟩ := (unhide X2).cells
  go_wp2_with fail
  refine (spset_no (unhide X2).sp (unhide hi) (unhide hno)).mono ?_
  rintro e W3 ⟨rfl, K3⟩
  have X3 := hide ((unhide X2).grew K3)
  clear X2 K3 c0 c1 c2 c3
  obtain ⟨c0, c1, c2, c3⟩ := (unhide X3).cells
  go_wp2_with fail
  refine (spall (unhide X3).sp (ps := []) rfl).mono ?_
  rintro e W4 ⟨v, rfl, hR, K4⟩
  obtain ⟨a, c, rfl⟩ := hR.form
  have X4 := hide ((unhide X3).grew K4)
  clear X3 hR K4 c0 c1 c2 c3
  obtain ⟨c0, c1, c2, c3⟩ := (unhide X4).cells
  simp only [List.length_nil]
  go_wp2_with fail
  refine (spclear (unhide X4).sp (unhide hi) (is := false) rfl (L' := []) rfl).mono ?_
  rintro e W5 ⟨rfl, X5, _⟩
  replace X5 := hide X5
  go_wp2
  go_ret
  exact ⟨rfl, (unhide X5).kp⟩
set_option maxRecDepth 4000 in
set_option maxHeartbeats 2000000 in
theorem ref_7 (which n0 n : Int) (w : World) (hn : n0 % 1000 = n) (na : 0 ≤ n) (nb : n < 1000) (hk : which % 8 = 7) :
    Calls Try.prog 7 #[.int .i64 which, .int .i64 n0] w fun e w' => e = .returned (.bool true) ∧ Kp [] w w' := by
  have hN := hide hn
  have hW := hide hk
  have hno : Hid (¬ setP [] (1) (1) (1) (4 + n)) := ref_no (by omega)
  have hi : Hid (PgIn (1, 1)) := pgIn_of (by omega) (by omega)
  have hsb : Hid (-9223372036854775808 ≤ (1 : Int) ∧ (1 : Int) ≤ 9223372036854775807) := ⟨by omega, by omega⟩
  clear hn hk
  go_enter Try.func7, Try.ntmps7
  go_wp2_with fail
  refine (first_calls w).mono ?_
  rintro e W1 ⟨rfl, K1⟩
  replace K1 := hide K1
  go_wp2_with fail
  refine (number_to _ _ _ _ (by decide) (by decide) (unhide hN)).mono ?_
  rintro e W1 ⟨rfl, rfl⟩
  obtain ⟨t, ht⟩ : ∃ t, W1.heap.size = t := ⟨_, rfl⟩
  have X0 := hide (R10.start (unhide K1) ht 1 1 1 1)
  go_wp2_with fail
  refine (number_to _ _ _ _ (by decide) (by decide) (unhide hW)).mono ?_
  rintro e w' ⟨rfl, hw'⟩
  rw [← hw'] at X0
  clear hw' K1 ht
  have X1 := hide ((unhide X0).setr (4 + n))
  obtain ⟨c0, c1, c2, c3⟩ := (unhide X1).cells
  have pf := (unhide X0).p.frozen
  have ff := (unhide X0).f.frozen
  obtain ⟨d0, d1, d2, d3⟩ := (unhide X0).cells
  go_wp2_with fail
  refine (splook (o := none) (unhide X1).sp (unhide hsb) (by decide) (by decide) (by decide) (pgLook_empty _ _ _ _)).mono ?_
  rintro e W2 ⟨rfl, K2⟩
  rw [lookV_none]
  have X2 := hide ((unhide X1).grew K2)
  clear X0 X1 K2 c0 c1 c2 c3 d0 d1 d2 d3 pf ff
  obtain ⟨c0, c1, c2, c3⟩ := (unhide X2).cells
  go_wp2_with fail
  refine (spset_no (unhide X2).sp (unhide hi) (unhide hno)).mono ?_
  rintro e W3 ⟨rfl, K3⟩
  have X3 := hide ((unhide X2).grew K3)
  clear X2 K3 c0 c1 c2 c3
  obtain ⟨c0, c1, c2, c3⟩ := (unhide X3).cells
  go_wp2_with fail
  refine (spall (unhide X3).sp (ps := []) rfl).mono ?_
  rintro e W4 ⟨v, rfl, hR, K4⟩
  obtain ⟨a, c, rfl⟩ := hR.form
  have X4 := hide ((unhide X3).grew K4)
  clear X3 hR K4 c0 c1 c2 c3
  obtain ⟨c0, c1, c2, c3⟩ := (unhide X4).cells
  simp only [List.length_nil]
  go_wp2_with fail
  refine (spclear (unhide X4).sp (unhide hi) (is := false) rfl (L' := []) rfl).mono ?_
  rintro e W5 ⟨rfl, X5, _⟩
  replace X5 := hide X5
  go_wp2
  go_ret
  exact ⟨rfl, (unhide X5).kp⟩
theorem srefuses_walk (which n0 : Int) (w : World) (_ : (Lit.int .i64 which).wf = true) (_ : (Lit.int .i64 n0).wf = true) :
    Calls Try.prog 7 #[.int .i64 which, .int .i64 n0] w fun e w' => e = .returned (.bool true) ∧ Below w.heap.size w w' := by
  obtain ⟨n, hn⟩ : ∃ x, n0 % 1000 = x := ⟨_, rfl⟩
  have na : 0 ≤ n := by omega
  have nb : n < 1000 := by omega
  have h8 : which % 8 = 0 ∨ which % 8 = 1 ∨ which % 8 = 2 ∨ which % 8 = 3 ∨ which % 8 = 4 ∨ which % 8 = 5 ∨ which % 8 = 6 ∨ which % 8 = 7 := by omega
  rcases h8 with hk | hk | hk | hk | hk | hk | hk | hk
  · exact (ref_0 which n0 n w hn na nb hk).mono fun e w' h => ⟨h.1, h.2.below (Nat.le_refl _) (by simp)⟩
  · exact (ref_1 which n0 n w hn na nb hk).mono fun e w' h => ⟨h.1, h.2.below (Nat.le_refl _) (by simp)⟩
  · exact (ref_2 which n0 n w hn na nb hk).mono fun e w' h => ⟨h.1, h.2.below (Nat.le_refl _) (by simp)⟩
  · exact (ref_3 which n0 n w hn na nb hk).mono fun e w' h => ⟨h.1, h.2.below (Nat.le_refl _) (by simp)⟩
  · exact (ref_4 which n0 n w hn na nb hk).mono fun e w' h => ⟨h.1, h.2.below (Nat.le_refl _) (by simp)⟩
  · exact (ref_5 which n0 n w hn na nb hk).mono fun e w' h => ⟨h.1, h.2.below (Nat.le_refl _) (by simp)⟩
  · exact (ref_6 which n0 n w hn na nb hk).mono fun e w' h => ⟨h.1, h.2.below (Nat.le_refl _) (by simp)⟩
  · exact (ref_7 which n0 n w hn na nb hk).mono fun e w' h => ⟨h.1, h.2.below (Nat.le_refl _) (by simp)⟩
end Go.Proofs.Ytlallciikcmjmaa
