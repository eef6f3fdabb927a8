/- The chapter's examples (ringkernlaw7.first). -/
import Derived.Test.YtgpclbkekobaoaaKDupI
import Derived.Deep.RegionHeld3
namespace Go.Proofs.Ytgpclbkekobaoaa
open Go.RowKit
set_option linter.unusedVariables false
theorem pin7 {n s : Int} (h1 : -1000000 ≤ n) (h2 : n ≤ 1000000) (h3 : -1000000 ≤ s) (h4 : s ≤ 1000000) : PIn (n, s) := ⟨in64_of (by show _ ≤ n; omega) (by show n ≤ _; omega), in64_of (by show _ ≤ s; omega) (by show s ≤ _; omega)⟩
theorem in7 {m : Int} (h1 : -1000000 ≤ m) (h2 : m ≤ 1000000) : In64 m := in64_of (by omega) (by omega)
/-- The table, two places' boxes. -/
structure Dy (w : World) (t A B : Nat) (L : List Sl) (an as1 bn bs : Int) (wx : World) : Prop where
  tb : TabIn w t L wx
  pa : Bk wx A 35 [.int .i64 an, .int .i64 as1]
  pb : Bk wx B 35 [.int .i64 bn, .int .i64 bs]
theorem Dy.grew {w : World} {t A B : Nat} {L : List Sl} {an as1 bn bs : Int} {wx wy : World} (h : Dy w t A B L an as1 bn bs wx) (q : Kp [] wx wy) : Dy w t A B L an as1 bn bs wy := ⟨h.tb.grew q, h.pa.kept q (by simp), h.pb.kept q (by simp)⟩
theorem Dy.turned {w : World} {t A B : Nat} {L L' : List Sl} {an as1 bn bs : Int} {wx wy : World} (h : Dy w t A B L an as1 bn bs wx) (X : TabIn w t L' wy) (T : Tch w t wx wy) : Dy w t A B L' an as1 bn bs wy := by
  obtain ⟨m, hp, _⟩ := h.tb.tab
  exact ⟨X, T.bk h.pa (h.pa.apart hp.head (by decide)), T.bk h.pb (h.pb.apart hp.head (by decide))⟩
theorem Dy.cells {w : World} {t A B : Nat} {L : List Sl} {an as1 bn bs : Int} {wx : World} (h : Dy w t A B L an as1 bn bs wx) : wx.cell? ⟨A, 0, none⟩ = some (.int .i64 an) ∧ wx.cell? ⟨A, 1, none⟩ = some (.int .i64 as1) ∧ wx.cell? ⟨B, 0, none⟩ = some (.int .i64 bn) ∧ wx.cell? ⟨B, 1, none⟩ = some (.int .i64 bs) := ⟨h.pa.cell rfl, h.pa.cell rfl, h.pb.cell rfl, h.pb.cell rfl⟩
def f7a : List Sl := [⟨1, 1, 0, 0, 3, 2, 0, 0, 7⟩]
def f7b : List Sl := [⟨1, 1, 0, 0, 3, 2, 0, 0, 7⟩, ⟨1, 2, 1, 1, 3, 2, 0, 0, 1⟩]
theorem f7_1 : copyC [] 1 1 1 2 7 = 4 ∧ copyL [] 1 1 1 2 7 = [] := by decide
theorem f7_2 : putP [] 1 1 3 2 0 0 7 0 0 ∧ insL [] ⟨1, 1, 0, 0, 3, 2, 0, 0, 7⟩ = f7a := ⟨⟨by decide, rfl, by decide, .inl ⟨rfl, rfl⟩⟩, rfl⟩
theorem f7_3 : copyC f7a 1 1 1 2 1 = 0 ∧ copyL f7a 1 1 1 2 1 = f7b := ⟨by decide, rfl⟩
theorem f7_4 : parO (lookS f7b 1 2) = .agg #[.int .i64 1, .int .i64 1] := rfl
set_option maxRecDepth 4000 in
set_option maxHeartbeats 2000000 in
theorem first_calls (w : World) : Calls Try.prog 7 #[] w fun e w' => e = .returned (.bool true) ∧ Kp [] w w' := by
  have X0 := hide (Dy.mk (t := w.heap.size) (TabIn.of (T := []) (w := w) (W := w) (Kp.refl [] w) rfl (((Kp.refl [] _).alloc (.cells #[.int .i64 1, .int .i64 1] 35)).alloc (.cells #[.int .i64 1, .int .i64 2] 35))) ((Bk.next (p := w.heap.size + 1) (w.alloc (.cells #[.map none] 27)) 35 [.int .i64 1, .int .i64 1] (by simp)).alloc (.cells #[.int .i64 1, .int .i64 2] 35)) (Bk.next (p := w.heap.size + 1 + 1) ((w.alloc (.cells #[.map none] 27)).alloc (.cells #[.int .i64 1, .int .i64 1] 35)) 35 [.int .i64 1, .int .i64 2] (by simp)))
  obtain ⟨t, et⟩ : ∃ t, w.heap.size = t := ⟨_, rfl⟩
  rw [et] at X0
  go_enter Try.func7, Try.ntmps7
  go_wp2_with fail
  generalize ((w.alloc (.cells #[.map none] 27)).alloc (.cells #[.int .i64 1, .int .i64 1] 35)).alloc (.cells #[.int .i64 1, .int .i64 2] 35) = W1 at *
  clear et
  have Z0 := hide ((unhide X0).grew (Kp.refl [] W1).drew)
  clear X0
  have h12 : Hid (PIn (1, 2)) := pin7 (by decide) (by decide) (by decide) (by decide)
  have h11 : Hid (PIn (1, 1)) := pin7 (by decide) (by decide) (by decide) (by decide)
  go_region_held3 (fun w' => w'.cell? ⟨t + 1, 0, none⟩ = some (.int .i64 1) ∧ w'.cell? ⟨t + 1, 1, none⟩ = some (.int .i64 1) ∧ w'.cell? ⟨t + 1 + 1, 0, none⟩ = some (.int .i64 1) ∧ w'.cell? ⟨t + 1 + 1, 1, none⟩ = some (.int .i64 2)) (first | exact (unhide Z4).cells | exact (unhide Z3).cells | exact (unhide Z2).cells | exact (unhide Z1).cells | exact (unhide Z0).cells) (first
    | (go_at_call 23; refine (tparent (unhide Z3).tb (unhide h12) f7_4).mono ?_; rintro e W5 ⟨rfl, K5⟩; have Z4 := hide ((unhide Z3).grew K5); clear K5)
    | (go_at_call 9; refine (tput_yes (unhide Z1).tb (unhide h11) pin_zero f7_2.1 (by decide) f7_2.2).mono ?_; rintro e W3 ⟨rfl, X3, T3⟩; have Z2 := hide ((unhide Z1).turned X3 T3); clear X3 T3)
    | (go_at_call 16; refine (dcopy (unhide Z2).tb (unhide h11) (unhide h12) (in7 (by decide) (by decide)) (by decide) f7_3.1 f7_3.2).mono ?_; rintro e W4 ⟨rfl, X4, T4⟩; have Z3 := hide ((unhide Z2).turned X4 T4); clear X4 T4)
    | (go_at_call 16; refine (dcopy (unhide Z0).tb (unhide h11) (unhide h12) (in7 (by decide) (by decide)) (by decide) f7_1.1 f7_1.2).mono ?_; rintro e W2 ⟨rfl, X2, T2⟩; have Z1 := hide ((unhide Z0).turned X2 T2); clear X2 T2))
  all_goals
    go_wp2
    go_ret
    exact ⟨rfl, (unhide Z4).tb.kp⟩
end Go.Proofs.Ytgpclbkekobaoaa
