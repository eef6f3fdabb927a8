/- The walk of RetypeErrors. -/
import Derived.Test.YthjhpcbhkcmghaaKLaw9
import Derived.Test.YthjhpcbhkcmghaaKArgs
import Derived.Deep.RegionHeld3
namespace Go.Proofs.Ythjhpcbhkcmghaa
open Go.RowKit
set_option linter.unusedVariables false
set_option linter.unusedSimpArgs false
def e9a : List Sl := [⟨1, 1, 0, 0, 1, 8, 4, 0, 7⟩]
def e9b : List Sl := [⟨1, 1, 0, 0, 1, 8, 4, 0, 7⟩, ⟨1, 2, 0, 0, 3, 20, 0, 0, 7⟩]
def e9c : List Sl := [⟨1, 1, 0, 0, 1, 8, 4, 0, 7⟩, ⟨1, 2, 0, 0, 3, 20, 0, 0, 7⟩, ⟨1, 3, 1, 1, 1, 8, 4, 0, 7⟩]
theorem e9_1 : putP [] 1 1 1 8 4 0 7 0 0 ∧ insL [] ⟨1, 1, 0, 0, 1, 8, 4, 0, 7⟩ = e9a := ⟨⟨by decide, rfl, by decide, .inl ⟨rfl, rfl⟩⟩, rfl⟩
theorem e9_2 : putP e9a 1 2 3 20 0 0 7 0 0 ∧ insL e9a ⟨1, 2, 0, 0, 3, 20, 0, 0, 7⟩ = e9b := ⟨⟨by decide, rfl, by decide, .inl ⟨rfl, rfl⟩⟩, rfl⟩
theorem e9_3 : putR e9b 1 3 1 8 4 0 7 1 1 = e9c := by kernel_rfl
theorem e9_free : freeL e9b 8 4 = true := by kernel_rfl
theorem e9_lk : lkS e9b 1 1 = some ⟨1, 1, 0, 0, 1, 8, 4, 0, 7⟩ := rfl
/-- What is asked: from, to, kind, size; what is to be told. -/
def ask9 (n : Int) : List (Int × Int × Int × Int × Int × Int × Int) :=
  [(1, 3, 1, 2, 3, 0, 4), (1, 2, 1, 3, 3, 0, 5), (1, 1, 65, 0, 3, 0, 7), (1, 1, 1, 2, 3, 0, 3), (1, 1, 1, 3, 6, 0, 5), (1, 1, 1, 3, 8 + n, 0, 5), (1, 1, 1, 3, 3, 1 + n, 7), (1, 1, 1, 3, 1, 0, 7), (1, 1, 1, 3, 1, 65 + n, 7), (1, 1, 1, 3, 1, 5 + n % 60, 8), (1, 1, 1, 3, -n, 0, 5)]
theorem ask_bad {k : Int} {z : Int} (F : Int × Int → Int) (h : kindB k = true) : mkR e9b F 1 1 1 3 k z = ⟨5, 0, e9b, F⟩ := mkR_un e9_lk rfl (by kernel_rfl) (un_bad h) (by decide)
theorem ask_size {k : Int} {z : Int} (F : Int × Int → Int) (h : kindB k = false) (h2 : sizeB k z = true) : mkR e9b F 1 1 1 3 k z = ⟨7, 0, e9b, F⟩ := mkR_un e9_lk rfl (by kernel_rfl) (un_size h h2) (by decide)
theorem ask_is (n : Int) (hn : 0 ≤ n) {k : Nat} {q : Int × Int × Int × Int × Int × Int × Int} (h : (ask9 n)[k]? = some q) : ∃ F, mkR e9b (fun _ => 0) q.1 q.2.1 q.2.2.1 q.2.2.2.1 q.2.2.2.2.1 q.2.2.2.2.2.1 = ⟨q.2.2.2.2.2.2, 0, e9b, F⟩ ∧ F (8, 4) = 0 ∧ FB F ∧ q.2.2.2.2.2.2 ≠ 0 ∧ PIn (q.1, q.2.1) ∧ PIn (q.2.2.1, q.2.2.2.1) := by
  have hk : k < 11 := (List.getElem?_eq_some_iff.1 h).1
  have p11 : PIn (1, 1) := pin9 (by decide) (by decide) (by decide) (by decide)
  have p12 : PIn (1, 2) := pin9 (by decide) (by decide) (by decide) (by decide)
  have p13 : PIn (1, 3) := pin9 (by decide) (by decide) (by decide) (by decide)
  have p65 : PIn (65, 0) := pin9 (by decide) (by decide) (by decide) (by decide)
  have z0 : FB (fun _ => 0) := FB.zero
  have hc : k = 0 ∨ k = 1 ∨ k = 2 ∨ k = 3 ∨ k = 4 ∨ k = 5 ∨ k = 6 ∨ k = 7 ∨ k = 8 ∨ k = 9 ∨ k = 10 := by omega
  rcases hc with rfl | rfl | rfl | rfl | rfl | rfl | rfl | rfl | rfl | rfl | rfl <;> cases h
  · exact ⟨_, mkR_none rfl, rfl, z0, by decide, p13, p12⟩
  · exact ⟨_, mkR_kind (y := ⟨1, 2, 0, 0, 3, 20, 0, 0, 7⟩) rfl (by decide), rfl, z0, by decide, p12, p13⟩
  · exact ⟨_, mkR_both e9_lk rfl (by kernel_rfl) (by decide), rfl, z0, by decide, p11, p65⟩
  · exact ⟨_, mkR_both e9_lk rfl (by kernel_rfl) (by decide), rfl, z0, by decide, p11, p12⟩
  · exact ⟨_, ask_bad _ (by decide), rfl, z0, by decide, p11, p13⟩
  · exact ⟨_, ask_bad (k := 8 + n) _ (by unfold kindB; simp; omega), rfl, z0, by show (5:Int) ≠ 0; decide, p11, p13⟩
  · exact ⟨_, ask_size (k := 3) (z := 1 + n) _ (by decide) (by unfold sizeB; simp; omega), rfl, z0, by show (7:Int) ≠ 0; decide, p11, p13⟩
  · exact ⟨_, ask_size _ (by decide) (by decide), rfl, z0, by decide, p11, p13⟩
  · exact ⟨_, ask_size (k := 1) (z := 65 + n) _ (by decide) (by unfold sizeB; simp; omega), rfl, z0, by show (7:Int) ≠ 0; decide, p11, p13⟩
  · refine ⟨upF (fun _ => 0) (8, 4) 0, mkR_mem (k := 1) (z := 5 + n % 60) e9_lk rfl (by kernel_rfl) (un_fine (by decide) (by unfold sizeB; simp; omega)) (by unfold F1; rw [if_pos e9_free]) ?_, rfl, z0.up _ (by decide) (by decide), by show (8:Int) ≠ 0; decide, p11, p13⟩
    show 4 - upF (fun _ => 0) (8, 4) 0 (8, 4) < unN 1 (5 + n % 60)
    have e1 : upF (fun _ => 0) (8, 4) 0 (8, 4) = 0 := by unfold upF; rw [if_pos rfl]
    have e2 : unN 1 (5 + n % 60) = 5 + n % 60 := if_pos rfl
    rw [e1, e2]
    omega
  · exact ⟨_, ask_bad (k := -n) _ (by unfold kindB; simp; omega), rfl, z0, by show (5:Int) ≠ 0; decide, p11, p13⟩
theorem ask_last (F : Int × Int → Int) : mkR e9b F 1 1 1 3 1 4 = ⟨0, 8, e9c, upF (upF F (8, 4) 0) (8, 4) 4⟩ := by
  have e1 : F1 e9b F 8 4 = upF F (8, 4) 0 := by unfold F1; rw [if_pos e9_free]
  have e2 : upF F (8, 4) 0 (8, 4) = 0 := by unfold upF; rw [if_pos rfl]
  have := mkR_yes (n' := 1) (s' := 3) (k := 1) (z := 4) (u := 0) (v := 4) (F := F) e9_lk rfl (by kernel_rfl) (un_fine (by decide) (by decide)) e1 e2 rfl (by decide)
  simp only at this
  rw [show (8:Int) + 0 = 8 from rfl, e9_3] at this
  exact this
/-- The rows' cells. -/
def askC (n : Int) : List Int := (ask9 n).flatMap fun q => [q.1, q.2.1, q.2.2.1, q.2.2.2.1, q.2.2.2.2.1, q.2.2.2.2.2.1]
theorem ask_cells (n : Int) {k : Nat} {q : Int × Int × Int × Int × Int × Int × Int} (h : (ask9 n)[k]? = some q) : (askC n)[k * 6]? = some q.1 ∧ (askC n)[k * 6 + 1]? = some q.2.1 ∧ (askC n)[k * 6 + 2]? = some q.2.2.1 ∧ (askC n)[k * 6 + 3]? = some q.2.2.2.1 ∧ (askC n)[k * 6 + 4]? = some q.2.2.2.2.1 ∧ (askC n)[k * 6 + 5]? = some q.2.2.2.2.2.1 ∧ [4, 5, 7, 3, 5, 5, 7, 7, 7, 8, 5][k]? = some q.2.2.2.2.2.2 := by
  have hk : k < 11 := (List.getElem?_eq_some_iff.1 h).1
  have hc : k = 0 ∨ k = 1 ∨ k = 2 ∨ k = 3 ∨ k = 4 ∨ k = 5 ∨ k = 6 ∨ k = 7 ∨ k = 8 ∨ k = 9 ∨ k = 10 := by omega
  rcases hc with rfl | rfl | rfl | rfl | rfl | rfl | rfl | rfl | rfl | rfl | rfl <;> cases h <;> exact ⟨rfl, rfl, rfl, rfl, rfl, rfl, rfl⟩
def ivals (zs : List Int) : List Value := zs.map fun z => .int .i64 z
theorem ivals_get {zs : List Int} {i : Nat} {z : Int} (h : zs[i]? = some z) : (ivals zs)[i]? = some (.int .i64 z) := by unfold ivals; rw [List.getElem?_map, h]; rfl
/-- Table and marks, four places' boxes. -/
structure E9 (w : World) (t y A : Nat) (L : List Sl) (F : Int × Int → Int) (wx : World) : Prop where
  tm : TM w t y L F wx
  pa : Bk wx A 40 [.int .i64 1, .int .i64 1]
  pb : Bk wx (A + 1) 40 [.int .i64 1, .int .i64 2]
  pc : Bk wx (A + 1 + 1) 40 [.int .i64 1, .int .i64 3]
  pd : Bk wx (A + 1 + 1 + 1) 40 [.int .i64 65, .int .i64 0]
theorem E9.grew {w : World} {t y A : Nat} {L : List Sl} {F : Int × Int → Int} {wx wy : World} (h : E9 w t y A L F wx) (k : Kp [] wx wy) : E9 w t y A L F wy := ⟨h.tm.grew k, h.pa.kept k (by simp), h.pb.kept k (by simp), h.pc.kept k (by simp), h.pd.kept k (by simp)⟩
theorem E9.heads {w : World} {t y A : Nat} {L : List Sl} {F : Int × Int → Int} {wx : World} (h : E9 w t y A L F wx) {g : Nat} {T : TypeId} {vs : List Value} (b : Bk wx g T vs) (h1 : T ≠ 27) (h2 : T ≠ 33) : g ≠ t ∧ g ≠ y := by
  obtain ⟨m, hp, _⟩ := h.tm.tab.tab
  obtain ⟨m', hb, _⟩ := h.tm.ma.mp
  exact ⟨b.apart hp.head h1, b.apart hb h2⟩
theorem E9.turned {w : World} {t y A : Nat} {L L' : List Sl} {F F' : Int × Int → Int} {wx wy : World} (h : E9 w t y A L F wx) (X : TM w t y L' F' wy) (T : Mtc w t y wx wy) : E9 w t y A L' F' wy := by
  have q := fun {g : Nat} {vs : List Value} (b : Bk wx g 40 vs) => h.heads b (by decide) (by decide)
  exact ⟨X, T.bk h.pa (q h.pa).1 (q h.pa).2, T.bk h.pb (q h.pb).1 (q h.pb).2, T.bk h.pc (q h.pc).1 (q h.pc).2, T.bk h.pd (q h.pd).1 (q h.pd).2⟩
theorem E9.cells {w : World} {t y A : Nat} {L : List Sl} {F : Int × Int → Int} {wx : World} (h : E9 w t y A L F wx) : wx.cell? ⟨A, 0, none⟩ = some (.int .i64 1) ∧ wx.cell? ⟨A, 1, none⟩ = some (.int .i64 1) ∧ wx.cell? ⟨A + 1, 0, none⟩ = some (.int .i64 1) ∧ wx.cell? ⟨A + 1, 1, none⟩ = some (.int .i64 2) ∧ wx.cell? ⟨A + 1 + 1, 0, none⟩ = some (.int .i64 1) ∧ wx.cell? ⟨A + 1 + 1, 1, none⟩ = some (.int .i64 3) ∧ wx.cell? ⟨A + 1 + 1 + 1, 0, none⟩ = some (.int .i64 65) ∧ wx.cell? ⟨A + 1 + 1 + 1, 1, none⟩ = some (.int .i64 0) :=
  ⟨h.pa.cell rfl, h.pa.cell rfl, h.pb.cell rfl, h.pb.cell rfl, h.pc.cell rfl, h.pc.cell rfl, h.pd.cell rfl, h.pd.cell rfl⟩
theorem E9.beside {w : World} {t y A g : Nat} {L : List Sl} {F : Int × Int → Int} {wx wy : World} {T : TypeId} {vs : List Value} (h : E9 w t y A L F wx) (k : Kp [g] wx wy) (b : Bk wx g T vs) (h1 : T ≠ 27) (h2 : T ≠ 33) (h3 : T ≠ 40) (hn : w.heap.size ≤ g) : E9 w t y A L F wy := by
  obtain ⟨q1, q2⟩ := h.heads b h1 h2
  have q := fun {g' : Nat} {us : List Value} (b' : Bk wx g' 40 us) => b'.apart b h3.symm
  exact ⟨h.tm.beside k b q1 q2 hn, h.pa.kept k (by simpa using q h.pa), h.pb.kept k (by simpa using q h.pb), h.pc.kept k (by simpa using q h.pc), h.pd.kept k (by simpa using q h.pd)⟩
/-- Four places in new memory. -/
theorem four9 (W : World) : Bk ((((W.alloc (.cells #[.int .i64 1, .int .i64 1] 40)).alloc (.cells #[.int .i64 1, .int .i64 2] 40)).alloc (.cells #[.int .i64 1, .int .i64 3] 40)).alloc (.cells #[.int .i64 65, .int .i64 0] 40)) W.heap.size 40 [.int .i64 1, .int .i64 1] ∧ Bk ((((W.alloc (.cells #[.int .i64 1, .int .i64 1] 40)).alloc (.cells #[.int .i64 1, .int .i64 2] 40)).alloc (.cells #[.int .i64 1, .int .i64 3] 40)).alloc (.cells #[.int .i64 65, .int .i64 0] 40)) (W.heap.size + 1) 40 [.int .i64 1, .int .i64 2] ∧ Bk ((((W.alloc (.cells #[.int .i64 1, .int .i64 1] 40)).alloc (.cells #[.int .i64 1, .int .i64 2] 40)).alloc (.cells #[.int .i64 1, .int .i64 3] 40)).alloc (.cells #[.int .i64 65, .int .i64 0] 40)) (W.heap.size + 1 + 1) 40 [.int .i64 1, .int .i64 3] ∧ Bk ((((W.alloc (.cells #[.int .i64 1, .int .i64 1] 40)).alloc (.cells #[.int .i64 1, .int .i64 2] 40)).alloc (.cells #[.int .i64 1, .int .i64 3] 40)).alloc (.cells #[.int .i64 65, .int .i64 0] 40)) (W.heap.size + 1 + 1 + 1) 40 [.int .i64 65, .int .i64 0] ∧ Kp [] W ((((W.alloc (.cells #[.int .i64 1, .int .i64 1] 40)).alloc (.cells #[.int .i64 1, .int .i64 2] 40)).alloc (.cells #[.int .i64 1, .int .i64 3] 40)).alloc (.cells #[.int .i64 65, .int .i64 0] 40)) :=
  ⟨(((Bk.new W _ [.int .i64 1, .int .i64 1]).alloc _).alloc _).alloc _, ((Bk.next (p := W.heap.size + 1) _ _ [.int .i64 1, .int .i64 2] (by simp)).alloc _).alloc _, (Bk.next (p := W.heap.size + 1 + 1) _ _ [.int .i64 1, .int .i64 3] (by simp)).alloc _, Bk.next (p := W.heap.size + 1 + 1 + 1) _ _ [.int .i64 65, .int .i64 0] (by simp), ((((Kp.refl [] W).alloc _).alloc _).alloc _).alloc _⟩
set_option maxRecDepth 10000 in
set_option maxHeartbeats 8000000 in
theorem rerrors_walk (which n0 : Int) (w : World) (_ : (Lit.int .i64 which).wf = true) (_ : (Lit.int .i64 n0).wf = true) :
    Calls Try.prog 6 #[.int .i64 which, .int .i64 n0] w fun e w' => e = .returned (.bool true) ∧ Below w.heap.size w w' := by
  obtain ⟨n, hn⟩ : ∃ x, n0 % 1000 = x := ⟨_, rfl⟩
  obtain ⟨na, nb⟩ : 0 ≤ n ∧ n < 1000 := by omega
  obtain ⟨k, hk⟩ : ∃ k : Nat, which % 11 = (k : Int) := ⟨(which % 11).toNat, by omega⟩
  have k1 : k < 11 := by omega
  obtain ⟨q, hq⟩ : ∃ q, (ask9 n)[k]? = some q := ⟨_, List.getElem?_eq_getElem (by show k < 11; exact k1)⟩
  obtain ⟨F1', hR, hF0, hFB, hc0, pi1, pi2⟩ := ask_is n na hq
  obtain ⟨a0, a1, a2, a3, a4, a5, a6⟩ := ask_cells n hq
  obtain ⟨q0, q1, q2, q3, q4, q5, q6⟩ := q
  simp only at hR hc0 pi1 pi2 a0 a1 a2 a3 a4 a5 a6
  obtain ⟨m60, hm60⟩ : ∃ m, n % 60 = m := ⟨_, rfl⟩
  obtain ⟨ma, mb⟩ : 0 ≤ m60 ∧ m60 < 60 := by omega
  have w1 : IntKind.i64.wrap (8 + n) = 8 + n := by rw [IntKind.wrap_i64]; omega
  have w2 : IntKind.i64.wrap (1 + n) = 1 + n := by rw [IntKind.wrap_i64]; omega
  have w3 : IntKind.i64.wrap (65 + n) = 65 + n := by rw [IntKind.wrap_i64]; omega
  have w4 : IntKind.i64.wrap (5 + n % 60) = 5 + n % 60 := by rw [IntKind.wrap_i64]; omega
  have w5 : IntKind.i64.wrap (-n) = -n := by rw [IntKind.wrap_i64]; omega
  have h11 : Hid (PIn (1, 1)) := pin9 (by decide) (by decide) (by decide) (by decide)
  have h12 : Hid (PIn (1, 2)) := pin9 (by decide) (by decide) (by decide) (by decide)
  have h13 : Hid (PIn (1, 3)) := pin9 (by decide) (by decide) (by decide) (by decide)
  replace hn := hide hn
  replace hk := hide hk
  replace hq := hide hq
  replace hR := hide hR
  replace hF0 := hide hF0
  replace hFB := hide hFB
  replace pi1 := hide pi1
  replace pi2 := hide pi2
  replace a0 := hide a0
  replace a1 := hide a1
  replace a2 := hide a2
  replace a3 := hide a3
  replace a4 := hide a4
  replace a5 := hide a5
  replace a6 := hide a6
  replace hm60 := hide hm60
  go_enter Try.func6, Try.ntmps6
  go_wp2_with fail
  refine (first_calls _).mono ?_
  rintro e W0 ⟨rfl, K0⟩
  replace K0 := hide K0
  go_wp2_with fail
  refine (number_to _ _ _ _ (by omega) (by omega) (unhide hn)).mono ?_
  rintro e W1 ⟨rfl, rfl⟩
  have TM1 := TM.start (w := w) (y := W1.heap.size + 1) (TabIn.of (T := []) (w := w) (unhide K0) rfl (Kp.refl [] _)) (by simp) (Kp.refl [] _)
  obtain ⟨x1, x2, x3, x4, x5⟩ := four9 ((W1.alloc (.cells #[.map none] 27)).alloc (.cells #[.map none] 33))
  have hsz : ((W1.alloc (.cells #[.map none] 27)).alloc (.cells #[.map none] 33)).heap.size = W1.heap.size + 1 + 1 := by simp
  rw [hsz] at x1 x2 x3 x4
  have X1 := hide (E9.mk (TM1.grew x5) x1 x2 x3 x4)
  obtain ⟨t, et⟩ : ∃ t, W1.heap.size = t := ⟨_, rfl⟩
  rw [et] at X1
  clear x1 x2 x3 x4 x5 TM1 hsz
  go_wp2_with fail
  generalize (((((W1.alloc (.cells #[.map none] 27)).alloc (.cells #[.map none] 33)).alloc (.cells #[.int .i64 1, .int .i64 1] 40)).alloc (.cells #[.int .i64 1, .int .i64 2] 40)).alloc (.cells #[.int .i64 1, .int .i64 3] 40)).alloc (.cells #[.int .i64 65, .int .i64 0] 40) = W2 at *
  clear et K0
  refine (tput_yes (unhide X1).tm.tab (unhide h11) pin_zero e9_1.1 (by decide) e9_1.2).mono ?_
  rintro e W3 ⟨rfl, X3, T3⟩
  have Y3 := hide ((unhide X1).turned ((unhide X1).tm.turnT T3 X3) (Mtc.ofT T3))
  clear X3 T3 X1
  obtain ⟨c0, c1, c2, c3, c4, c5, c6, c7⟩ := (unhide Y3).cells
  go_wp2_with fail
  refine (tput_yes (unhide Y3).tm.tab (unhide h12) pin_zero e9_2.1 (by decide) e9_2.2).mono ?_
  rintro e W4 ⟨rfl, X4, T4⟩
  have Y4 := hide ((unhide Y3).turned ((unhide Y3).tm.turnT T4 X4) (Mtc.ofT T4))
  clear X4 T4 Y3 c0 c1 c2 c3 c4 c5 c6 c7
  obtain ⟨c0, c1, c2, c3, c4, c5, c6, c7⟩ := (unhide Y4).cells
  go_wp2_with fail
  have R5 : Bk ((W4.alloc (.cells #[.int .i64 1, .int .i64 3, .int .i64 1, .int .i64 2, .int .i64 3, .int .i64 0, .int .i64 1, .int .i64 2, .int .i64 1, .int .i64 3, .int .i64 3, .int .i64 0, .int .i64 1, .int .i64 1, .int .i64 65, .int .i64 0, .int .i64 3, .int .i64 0, .int .i64 1, .int .i64 1, .int .i64 1, .int .i64 2, .int .i64 3, .int .i64 0, .int .i64 1, .int .i64 1, .int .i64 1, .int .i64 3, .int .i64 6, .int .i64 0, .int .i64 1, .int .i64 1, .int .i64 1, .int .i64 3, .int .i64 (8 + n), .int .i64 0, .int .i64 1, .int .i64 1, .int .i64 1, .int .i64 3, .int .i64 3, .int .i64 (1 + n), .int .i64 1, .int .i64 1, .int .i64 1, .int .i64 3, .int .i64 1, .int .i64 0, .int .i64 1, .int .i64 1, .int .i64 1, .int .i64 3, .int .i64 1, .int .i64 (65 + n), .int .i64 1, .int .i64 1, .int .i64 1, .int .i64 3, .int .i64 1, .int .i64 (5 + n % 60), .int .i64 1, .int .i64 1, .int .i64 1, .int .i64 3, .int .i64 (-n), .int .i64 0] 68)).alloc (.cells #[.int .i64 4, .int .i64 5, .int .i64 7, .int .i64 3, .int .i64 5, .int .i64 5, .int .i64 7, .int .i64 7, .int .i64 7, .int .i64 8, .int .i64 5] 3)) W4.heap.size 68 (ivals (askC n)) := (Bk.new W4 68 (ivals (askC n))).alloc _
  have V5 : Bk ((W4.alloc (.cells #[.int .i64 1, .int .i64 3, .int .i64 1, .int .i64 2, .int .i64 3, .int .i64 0, .int .i64 1, .int .i64 2, .int .i64 1, .int .i64 3, .int .i64 3, .int .i64 0, .int .i64 1, .int .i64 1, .int .i64 65, .int .i64 0, .int .i64 3, .int .i64 0, .int .i64 1, .int .i64 1, .int .i64 1, .int .i64 2, .int .i64 3, .int .i64 0, .int .i64 1, .int .i64 1, .int .i64 1, .int .i64 3, .int .i64 6, .int .i64 0, .int .i64 1, .int .i64 1, .int .i64 1, .int .i64 3, .int .i64 (8 + n), .int .i64 0, .int .i64 1, .int .i64 1, .int .i64 1, .int .i64 3, .int .i64 3, .int .i64 (1 + n), .int .i64 1, .int .i64 1, .int .i64 1, .int .i64 3, .int .i64 1, .int .i64 0, .int .i64 1, .int .i64 1, .int .i64 1, .int .i64 3, .int .i64 1, .int .i64 (65 + n), .int .i64 1, .int .i64 1, .int .i64 1, .int .i64 3, .int .i64 1, .int .i64 (5 + n % 60), .int .i64 1, .int .i64 1, .int .i64 1, .int .i64 3, .int .i64 (-n), .int .i64 0] 68)).alloc (.cells #[.int .i64 4, .int .i64 5, .int .i64 7, .int .i64 3, .int .i64 5, .int .i64 5, .int .i64 7, .int .i64 7, .int .i64 7, .int .i64 8, .int .i64 5] 3)) (W4.heap.size + 1) 3 (ivals [4, 5, 7, 3, 5, 5, 7, 7, 7, 8, 5]) := Bk.next (p := W4.heap.size + 1) (W4.alloc (.cells #[.int .i64 1, .int .i64 3, .int .i64 1, .int .i64 2, .int .i64 3, .int .i64 0, .int .i64 1, .int .i64 2, .int .i64 1, .int .i64 3, .int .i64 3, .int .i64 0, .int .i64 1, .int .i64 1, .int .i64 65, .int .i64 0, .int .i64 3, .int .i64 0, .int .i64 1, .int .i64 1, .int .i64 1, .int .i64 2, .int .i64 3, .int .i64 0, .int .i64 1, .int .i64 1, .int .i64 1, .int .i64 3, .int .i64 6, .int .i64 0, .int .i64 1, .int .i64 1, .int .i64 1, .int .i64 3, .int .i64 (8 + n), .int .i64 0, .int .i64 1, .int .i64 1, .int .i64 1, .int .i64 3, .int .i64 3, .int .i64 (1 + n), .int .i64 1, .int .i64 1, .int .i64 1, .int .i64 3, .int .i64 1, .int .i64 0, .int .i64 1, .int .i64 1, .int .i64 1, .int .i64 3, .int .i64 1, .int .i64 (65 + n), .int .i64 1, .int .i64 1, .int .i64 1, .int .i64 3, .int .i64 1, .int .i64 (5 + n % 60), .int .i64 1, .int .i64 1, .int .i64 1, .int .i64 3, .int .i64 (-n), .int .i64 0] 68)) 3 (ivals [4, 5, 7, 3, 5, 5, 7, 7, 7, 8, 5]) (by simp)
  have X5 := hide ((unhide Y4).grew (((Kp.refl [] W4).alloc (.cells #[.int .i64 1, .int .i64 3, .int .i64 1, .int .i64 2, .int .i64 3, .int .i64 0, .int .i64 1, .int .i64 2, .int .i64 1, .int .i64 3, .int .i64 3, .int .i64 0, .int .i64 1, .int .i64 1, .int .i64 65, .int .i64 0, .int .i64 3, .int .i64 0, .int .i64 1, .int .i64 1, .int .i64 1, .int .i64 2, .int .i64 3, .int .i64 0, .int .i64 1, .int .i64 1, .int .i64 1, .int .i64 3, .int .i64 6, .int .i64 0, .int .i64 1, .int .i64 1, .int .i64 1, .int .i64 3, .int .i64 (8 + n), .int .i64 0, .int .i64 1, .int .i64 1, .int .i64 1, .int .i64 3, .int .i64 3, .int .i64 (1 + n), .int .i64 1, .int .i64 1, .int .i64 1, .int .i64 3, .int .i64 1, .int .i64 0, .int .i64 1, .int .i64 1, .int .i64 1, .int .i64 3, .int .i64 1, .int .i64 (65 + n), .int .i64 1, .int .i64 1, .int .i64 1, .int .i64 3, .int .i64 1, .int .i64 (5 + n % 60), .int .i64 1, .int .i64 1, .int .i64 1, .int .i64 3, .int .i64 (-n), .int .i64 0] 68)).alloc (.cells #[.int .i64 4, .int .i64 5, .int .i64 7, .int .i64 3, .int .i64 5, .int .i64 5, .int .i64 7, .int .i64 7, .int .i64 7, .int .i64 8, .int .i64 5] 3)))
  replace R5 := hide R5
  replace V5 := hide V5
  generalize (W4.alloc (.cells #[.int .i64 1, .int .i64 3, .int .i64 1, .int .i64 2, .int .i64 3, .int .i64 0, .int .i64 1, .int .i64 2, .int .i64 1, .int .i64 3, .int .i64 3, .int .i64 0, .int .i64 1, .int .i64 1, .int .i64 65, .int .i64 0, .int .i64 3, .int .i64 0, .int .i64 1, .int .i64 1, .int .i64 1, .int .i64 2, .int .i64 3, .int .i64 0, .int .i64 1, .int .i64 1, .int .i64 1, .int .i64 3, .int .i64 6, .int .i64 0, .int .i64 1, .int .i64 1, .int .i64 1, .int .i64 3, .int .i64 (8 + n), .int .i64 0, .int .i64 1, .int .i64 1, .int .i64 1, .int .i64 3, .int .i64 3, .int .i64 (1 + n), .int .i64 1, .int .i64 1, .int .i64 1, .int .i64 3, .int .i64 1, .int .i64 0, .int .i64 1, .int .i64 1, .int .i64 1, .int .i64 3, .int .i64 1, .int .i64 (65 + n), .int .i64 1, .int .i64 1, .int .i64 1, .int .i64 3, .int .i64 1, .int .i64 (5 + n % 60), .int .i64 1, .int .i64 1, .int .i64 1, .int .i64 3, .int .i64 (-n), .int .i64 0] 68)).alloc (.cells #[.int .i64 4, .int .i64 5, .int .i64 7, .int .i64 3, .int .i64 5, .int .i64 5, .int .i64 7, .int .i64 7, .int .i64 7, .int .i64 8, .int .i64 5] 3) = W5 at *
  obtain ⟨g, eg⟩ : ∃ g, W4.heap.size = g := ⟨_, rfl⟩
  rw [eg] at R5 V5
  simp only [eg]
  clear Y4 c0 c1 c2 c3 c4 c5 c6 c7
  refine (number_to _ _ _ _ (by omega) (by omega) (unhide hk)).mono ?_
  rintro e W6 ⟨rfl, rfl⟩
  have b1 : (k : Int) < 11 := by omega
  have b2 : ((k : Int)).toNat = k := Int.toNat_natCast k
  have hcap : capR ⟨q6, 0, e9b, F1'⟩ q4 q5 = .agg #[.int .i64 0, .int .i64 0, .int .i64 0, .int .i64 0, .int .i64 0] := by unfold capR; rw [if_neg hc0]
  replace hcap := hide hcap
  have hS : Hid (∀ w', Bk w' g 68 (ivals (askC n)) → (fun w' => w'.cell? ⟨g, k * 6, none⟩ = some (.int .i64 q0) ∧ w'.cell? ⟨g, k * 6 + 1, none⟩ = some (.int .i64 q1) ∧ w'.cell? ⟨g, k * 6 + 2, none⟩ = some (.int .i64 q2) ∧ w'.cell? ⟨g, k * 6 + 3, none⟩ = some (.int .i64 q3) ∧ w'.cell? ⟨g, k * 6 + 4, none⟩ = some (.int .i64 q4) ∧ w'.cell? ⟨g, k * 6 + 5, none⟩ = some (.int .i64 q5)) w') := fun w' B => ⟨B.cell (ivals_get (unhide a0)), B.cell (ivals_get (unhide a1)), B.cell (ivals_get (unhide a2)), B.cell (ivals_get (unhide a3)), B.cell (ivals_get (unhide a4)), B.cell (ivals_get (unhide a5))⟩
  have X6 := hide ((unhide X5).grew ((Kp.refl [] W6).drew))
  have R6 := hide ((unhide R5).kept ((Kp.refl [] W6).drew) (by simp))
  have V6 := hide ((unhide V5).kept ((Kp.refl [] W6).drew) (by simp))
  clear X5 R5 V5 w1 w2 w3 w4 w5
  replace hc0 := hide hc0
  go_wp2_with fail
  have X6b := hide ((unhide X6).grew ((Kp.refl [] W6.drew).alloc (.cells #[.int .i64 0, .int .i64 0, .int .i64 0, .int .i64 0, .int .i64 0] 38)))
  have R6b := hide ((unhide R6).alloc (.cells #[.int .i64 0, .int .i64 0, .int .i64 0, .int .i64 0, .int .i64 0] 38))
  have V6b := hide ((unhide V6).alloc (.cells #[.int .i64 0, .int .i64 0, .int .i64 0, .int .i64 0, .int .i64 0] 38))
  have D6b : Hid (Bk (W6.alloc (.cells #[.int .i64 0, .int .i64 0, .int .i64 0, .int .i64 0, .int .i64 0] 38)).drew W6.heap.size 38 [.int .i64 0, .int .i64 0, .int .i64 0, .int .i64 0, .int .i64 0]) := (Bk.new W6 38 [.int .i64 0, .int .i64 0, .int .i64 0, .int .i64 0, .int .i64 0]).kept ((Kp.refl [] _).drew) (by simp)
  have X6c : Hid (E9 w t (t + 1) (t + 1 + 1) e9b (fun _ => 0) (W6.alloc (.cells #[.int .i64 0, .int .i64 0, .int .i64 0, .int .i64 0, .int .i64 0] 38)).drew) := unhide X6b
  have R6c : Hid (Bk (W6.alloc (.cells #[.int .i64 0, .int .i64 0, .int .i64 0, .int .i64 0, .int .i64 0] 38)).drew g 68 (ivals (askC n))) := unhide R6b
  have V6c : Hid (Bk (W6.alloc (.cells #[.int .i64 0, .int .i64 0, .int .i64 0, .int .i64 0, .int .i64 0] 38)).drew (g + 1) 3 (ivals [4, 5, 7, 3, 5, 5, 7, 7, 7, 8, 5])) := unhide V6b
  have hn6 : Hid (w.heap.size ≤ W6.heap.size) := (unhide X6).tm.tab.kp.size
  clear X6b R6b V6b
  go_region_held3 (fun w' => w'.cell? ⟨g, k * 6, none⟩ = some (.int .i64 q0) ∧ w'.cell? ⟨g, k * 6 + 1, none⟩ = some (.int .i64 q1) ∧ w'.cell? ⟨g, k * 6 + 2, none⟩ = some (.int .i64 q2) ∧ w'.cell? ⟨g, k * 6 + 3, none⟩ = some (.int .i64 q3) ∧ w'.cell? ⟨g, k * 6 + 4, none⟩ = some (.int .i64 q4) ∧ w'.cell? ⟨g, k * 6 + 5, none⟩ = some (.int .i64 q5)) (first | with_reducible exact unhide hS _ (unhide R9) | with_reducible exact unhide hS _ (unhide R7) | with_reducible exact unhide hS _ (unhide R7a) | with_reducible exact unhide hS _ (unhide R6) | with_reducible exact unhide hS _ (unhide R6c)) (first
    | (go_at_call 19; (with_reducible refine (kmake (unhide X6).tm FB.zero (unhide pi1) (unhide pi2) q4 q5 (by decide) (unhide hR)).mono ?_); rintro e V ⟨he, Y7, T7⟩; rw [unhide hcap] at he; subst he; have X7 := hide ((unhide X6).turned Y7 T7); have R7 := hide (T7.bk (unhide R6) ((unhide X6).heads (unhide R6) (by decide) (by decide)).1 ((unhide X6).heads (unhide R6) (by decide) (by decide)).2); have V7 := hide (T7.bk (unhide V6) ((unhide X6).heads (unhide V6) (by decide) (by decide)).1 ((unhide X6).heads (unhide V6) (by decide) (by decide)).2); clear Y7 T7; have R7a := hide ((unhide R7).alloc (.cells #[.int .i64 0, .int .i64 0, .int .i64 0, .int .i64 0, .int .i64 0] 38)); have X8 := hide ((unhide X7).grew ((Kp.refl [] V).alloc (.cells #[.int .i64 0, .int .i64 0, .int .i64 0, .int .i64 0, .int .i64 0] 38))); have V8 := hide ((unhide V7).alloc (.cells #[.int .i64 0, .int .i64 0, .int .i64 0, .int .i64 0, .int .i64 0] 38)); have D8 := hide (Bk.new V 38 [.int .i64 0, .int .i64 0, .int .i64 0, .int .i64 0, .int .i64 0]))
    | (go_at_call 19; (with_reducible refine (kmake (unhide X6c).tm FB.zero (unhide pi1) (unhide pi2) q4 q5 (by decide) (unhide hR)).mono ?_); rintro e U ⟨he, Y7, T7⟩; rw [unhide hcap] at he; subst he; have X7 := hide ((unhide X6c).turned Y7 T7); have R7 := hide (T7.bk (unhide R6c) ((unhide X6c).heads (unhide R6c) (by decide) (by decide)).1 ((unhide X6c).heads (unhide R6c) (by decide) (by decide)).2); have V7 := hide (T7.bk (unhide V6c) ((unhide X6c).heads (unhide V6c) (by decide) (by decide)).1 ((unhide X6c).heads (unhide V6c) (by decide) (by decide)).2); have D7 := hide (T7.bk (unhide D6b) ((unhide X6c).heads (unhide D6b) (by decide) (by decide)).1 ((unhide X6c).heads (unhide D6b) (by decide) (by decide)).2); clear Y7 T7; have f7 := (unhide D7).frozen; have d70 := (unhide D7).cell (i := 0) rfl; have d71 := (unhide D7).cell (i := 1) rfl; have d72 := (unhide D7).cell (i := 2) rfl; have d73 := (unhide D7).cell (i := 3) rfl; have d74 := (unhide D7).cell (i := 4) rfl; have X8 := hide ((unhide X7).beside (kp5 (.int .i64 0) (.int .i64 0) (.int .i64 0) (.int .i64 0) (.int .i64 0)) (unhide D7) (by decide) (by decide) (by decide) (unhide hn6)); have V8 := hide ((unhide V7).kept (kp5 (.int .i64 0) (.int .i64 0) (.int .i64 0) (.int .i64 0) (.int .i64 0)) (by simpa using (unhide V7).apart (unhide D7) (by decide))); have R9 := hide ((unhide R7).kept (kp5 (.int .i64 0) (.int .i64 0) (.int .i64 0) (.int .i64 0) (.int .i64 0)) (by simpa using (unhide R7).apart (unhide D7) (by decide))); have D8 := hide (bk_put5 (unhide D7) (.int .i64 0) (.int .i64 0) (.int .i64 0) (.int .i64 0) (.int .i64 0))))
  all_goals
    first
    | (generalize V.alloc (.cells #[.int .i64 0, .int .i64 0, .int .i64 0, .int .i64 0, .int .i64 0] 38) = W8 at *
       generalize V.heap.size = D at *)
    | (generalize (((((U.setCell ⟨W6.heap.size, 0, none⟩ (.int .i64 0)).setCell ⟨W6.heap.size, 1, none⟩ (.int .i64 0)).setCell ⟨W6.heap.size, 2, none⟩ (.int .i64 0)).setCell ⟨W6.heap.size, 3, none⟩ (.int .i64 0)).setCell ⟨W6.heap.size, 4, none⟩ (.int .i64 0)) = W8 at *
       generalize W6.heap.size = D at *)
    have v0 := (unhide V8).cell (ivals_get (unhide a6))
    have d0 := (unhide D8).cell (i := 0) rfl
    have d1 := (unhide D8).cell (i := 1) rfl
    have d2 := (unhide D8).cell (i := 2) rfl
    have d3 := (unhide D8).cell (i := 3) rfl
    have d4 := (unhide D8).cell (i := 4) rfl
    go_wp2_with fail
    refine (tall (unhide X8).tm.tab).mono ?_
    rintro e W9 ⟨vl, rfl, P9, K9⟩
    have X9 := hide ((unhide X8).grew K9)
    obtain ⟨a9, c9, e9⟩ := P9.form
    have e9' : vl = .slice a9 2 c9 := e9
    subst e9'
    clear P9 e9 K9 X8 v0 d0 d1 d2 d3 d4 V8 D8
    have hi84 : PIn (8, 4) := pin9 (by decide) (by decide) (by decide) (by decide)
    replace hi84 := hide hi84
    go_wp2_with fail
    refine (mused (unhide X9).tm.ma (unhide hi84) (unhide hF0)).mono ?_
    rintro e W10 ⟨rfl, K10⟩
    have X10 := hide ((unhide X9).grew K10)
    clear K10 X9
    obtain ⟨c0, c1, c2, c3, c4, c5, c6, c7⟩ := (unhide X10).cells
    go_wp2_with fail
    refine (kmake (unhide X10).tm (unhide hFB) (unhide h11) (unhide h13) 1 4 (by decide) (ask_last F1')).mono ?_
    rintro e W11 ⟨he, Y11, T11⟩
    simp only [capR, if_true] at he
    subst he
    have X11 := hide ((unhide X10).turned Y11 T11)
    clear Y11 T11 X10 c0 c1 c2 c3 c4 c5 c6 c7
    have X12 := hide ((unhide X11).grew ((Kp.refl [] W11).alloc (.cells #[.int .i64 1, .int .i64 8, .int .i64 4, .int .i64 0, .int .i64 7] 38)))
    have D12 := hide (Bk.new W11 38 [.int .i64 1, .int .i64 8, .int .i64 4, .int .i64 0, .int .i64 7])
    obtain ⟨D2, eD2⟩ : ∃ D2, W11.heap.size = D2 := ⟨_, rfl⟩
    rw [eD2] at D12
    go_wp2_with fail
    generalize W11.alloc (.cells #[.int .i64 1, .int .i64 8, .int .i64 4, .int .i64 0, .int .i64 7] 38) = W12 at *
    generalize W11.heap.size = D3 at *
    subst eD2
    have hS2 : Hid (∀ w', Kp [] W12 w' → (fun w' => w'.cell? ⟨D3, 0, none⟩ = some (.int .i64 1) ∧ w'.cell? ⟨D3, 1, none⟩ = some (.int .i64 8) ∧ w'.cell? ⟨D3, 2, none⟩ = some (.int .i64 4) ∧ w'.cell? ⟨D3, 3, none⟩ = some (.int .i64 0) ∧ w'.cell? ⟨D3, 4, none⟩ = some (.int .i64 7) ∧ w'.cell? ⟨t + 1 + 1 + 1 + 1, 0, none⟩ = some (.int .i64 1) ∧ w'.cell? ⟨t + 1 + 1 + 1 + 1, 1, none⟩ = some (.int .i64 3) ∧ w'.cell? ⟨t + 1 + 1, 0, none⟩ = some (.int .i64 1) ∧ w'.cell? ⟨t + 1 + 1, 1, none⟩ = some (.int .i64 1)) w') := fun w' K => by
      have D := (unhide D12).kept K (by simp)
      obtain ⟨c0, c1, _, _, c4, c5, _, _⟩ := ((unhide X12).grew K).cells
      exact ⟨D.cell rfl, D.cell rfl, D.cell rfl, D.cell rfl, D.cell rfl, c4, c5, c0, c1⟩
    have K12 := hide ((Kp.refl [] W12).drew)
    have hpar : parO (lookS e9c 1 3) = .agg #[.int .i64 1, .int .i64 1] := by kernel_rfl
    replace hpar := hide hpar
    clear X11
    go_region_held3 (fun w' => w'.cell? ⟨D3, 0, none⟩ = some (.int .i64 1) ∧ w'.cell? ⟨D3, 1, none⟩ = some (.int .i64 8) ∧ w'.cell? ⟨D3, 2, none⟩ = some (.int .i64 4) ∧ w'.cell? ⟨D3, 3, none⟩ = some (.int .i64 0) ∧ w'.cell? ⟨D3, 4, none⟩ = some (.int .i64 7) ∧ w'.cell? ⟨t + 1 + 1 + 1 + 1, 0, none⟩ = some (.int .i64 1) ∧ w'.cell? ⟨t + 1 + 1 + 1 + 1, 1, none⟩ = some (.int .i64 3) ∧ w'.cell? ⟨t + 1 + 1, 0, none⟩ = some (.int .i64 1) ∧ w'.cell? ⟨t + 1 + 1, 1, none⟩ = some (.int .i64 1)) (first | with_reducible exact unhide hS2 _ (unhide K13) | with_reducible exact unhide hS2 _ (unhide K12)) (first
      | (go_at_call 27; refine (tparent ((unhide X12).tm.tab.grew (unhide K12)) (unhide h13) (unhide hpar)).mono ?_; rintro e V13 ⟨rfl, kk⟩; have K13 := hide ((unhide K12).then kk); clear kk))
    all_goals
      go_wp2
      go_ret
      exact ⟨rfl, ((unhide X12).tm.tab.kp.then (unhide K13)).below (Nat.le_refl _) (by simp)⟩
end Go.Proofs.Ythjhpcbhkcmghaa
