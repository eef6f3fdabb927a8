/- The walk of RetypeApart. -/
import Derived.Test.YthjhpcbhkcmghaaKApartM9
import Derived.Test.YthjhpcbhkcmghaaKArgs
import Derived.Test.YthjhpcbhkcmghaaKAgain9
import Derived.Deep.DeepCutAuto
import Derived.Deep.RegionHeld3
namespace Go.Proofs.Ythjhpcbhkcmghaa
open Go.RowKit
set_option linter.unusedVariables false
set_option linter.unusedSimpArgs false
theorem tdrop_ap {w wr : World} {t : Nat} {L : List Sl} (h : TabIn w t L wr) {n s : Int} (hi : PIn (n, s)) :
    ∃ v L', Calls Try.prog 13 #[.pointer (some ⟨t, 0, none⟩), .agg #[.int .i64 n, .int .i64 s]] wr (TInP w t L' wr (.bool v)) ∧ L'.length ≤ L.length ∧ (L'.map k3).Sublist (L.map k3) := by
  cases ha : atL L n s with
  | none => exact ⟨false, L, tdrop_no h hi ha, Nat.le_refl _, List.Sublist.refl _⟩
  | some i =>
    obtain ⟨y, hy, _⟩ := atL_some ha
    refine ⟨true, _, tdrop_yes h ha hy rfl, ?_, drop_k3 L n s i y⟩
    unfold dropL
    rw [List.length_map]
    exact List.length_eraseIdx_le _ _
theorem apart_first (z : Int) (h1 : 1 ≤ z) (h2 : z ≤ 20) : putP [] 1 0 1 10 z 0 7 0 0 ∧ insL [] ⟨1, 0, 0, 0, 1, 10, z, 0, 7⟩ = [⟨1, 0, 0, 0, 1, 10, z, 0, 7⟩] := by
  refine ⟨⟨by decide, rfl, ?_, .inl ⟨rfl, rfl⟩⟩, rfl⟩
  rw [chk_iff]
  unfold chkP fitP
  rw [if_pos rfl]
  omega
theorem do5_cells {w w' : World} {a : Option Addr} {len : Nat} {V : Nat → Nat → Value} (h : Recs w a len 5 V) (k : Kp [] w w') {j : Nat} (hj : j < len) : ∃ b off, a = some ⟨b, off, none⟩ ∧ ∀ i, i < 5 → w'.cell? ⟨b, off + (j * 5 + i), none⟩ = some (V j i) := by
  obtain ⟨_, hz | ⟨b, off, rfl, hc⟩⟩ := h
  · omega
  · exact ⟨b, off, rfl, fun i hi => k.cell (hc j i hj hi)⟩
/-- Five integers a thing. -/
def Five (V : Nat → Nat → Value) (len : Nat) : Prop := ∀ i, i < len → (∃ n, V i 0 = .int .i64 n ∧ (Lit.int .i64 n).wf = true) ∧ (∃ n, V i 1 = .int .i64 n ∧ (Lit.int .i64 n).wf = true) ∧ (∃ n, V i 2 = .int .i64 n ∧ (Lit.int .i64 n).wf = true) ∧ (∃ n, V i 3 = .int .i64 n ∧ (Lit.int .i64 n).wf = true) ∧ (∃ n, V i 4 = .int .i64 n ∧ (Lit.int .i64 n).wf = true)
set_option maxRecDepth 4000 in
set_option maxHeartbeats 400000 in
theorem apart_long (size : Int) (a : Option Addr) (len cap : Nat) (w : World) (hl : 40 < len) :
    Calls Try.prog 4 #[.int .i64 size, .slice a len cap] w fun e w' => e = .returned (.bool true) ∧ Below w.heap.size w w' := by
  have h2 : (40 : Int) < (len : Int) := by omega
  go_enter Try.func4, Try.ntmps4
  go_wp2_with fail
  refine (first_calls _).mono ?_
  rintro e W0 ⟨rfl, K0⟩
  go_wp2
  go_ret
  exact ⟨rfl, K0.below (Nat.le_refl _) (by simp)⟩
/-- What the loop carries along. -/
structure As9 (w : World) (t : Nat) (Z : Int) (L : List Sl) (F : Int × Int → Int) (n : Nat) (wx : World) : Prop where
  tm : TM w t (t + 1) L F wx
  ap : Ap9 Z (L.map k3) F
  fb : FB F
  len : L.length ≤ n
theorem As9.grew {w : World} {t : Nat} {Z : Int} {L : List Sl} {F : Int × Int → Int} {n : Nat} {wx wy : World} (h : As9 w t Z L F n wx) (k : Kp [] wx wy) : As9 w t Z L F n wy := ⟨h.tm.grew k, h.ap, h.fb, h.len⟩
set_option maxRecDepth 4000 in
set_option maxHeartbeats 4000000 in
theorem apart_in (size : Int) (a : Option Addr) (len cap : Nat) (V : Nat → Nat → Value) (w : World) (hl : len ≤ 40) (hR : Recs w a len 5 V) (y1 : Five V len) :
    Calls Try.prog 4 #[.int .i64 size, .slice a len cap] w fun e w' => e = .returned (.bool true) ∧ Below w.heap.size w w' := by
  have h2 : decide ((40 : Int) < (len : Int)) = false := by simp; omega
  obtain ⟨s0, hs0⟩ : ∃ x, size % 20 = x := ⟨_, rfl⟩
  obtain ⟨Z, hZ⟩ : ∃ Z, 1 + s0 = Z := ⟨_, rfl⟩
  obtain ⟨Z1, Z20⟩ : 1 ≤ Z ∧ Z ≤ 20 := by omega
  have wZ : IntKind.i64.wrap (1 + s0) = Z := by rw [IntKind.wrap_i64]; omega
  have w10 : IntKind.i64.wrap (10 + Z) = 10 + Z := by rw [IntKind.wrap_i64]; omega
  have HR := hide hR
  replace y1 := hide y1
  have h10 : Hid (PIn (1, 0)) := pin9 (by decide) (by decide) (by decide) (by decide)
  have hfirst := hide (apart_first Z Z1 Z20)
  replace hs0 := hide hs0
  replace hZ := hide hZ
  clear hR
  go_enter Try.func4, Try.ntmps4
  go_wp2_with fail
  refine (first_calls _).mono ?_
  rintro e W0 ⟨rfl, K0⟩
  replace K0 := hide K0
  go_wp2_with fail
  refine (number_to _ _ _ _ (by omega) (by omega) (unhide hs0)).mono ?_
  rintro e W1 ⟨rfl, rfl⟩
  have X1 := hide (TM.start (w := w) (y := W1.heap.size + 1) (TabIn.of (T := []) (w := w) (unhide K0) rfl (Kp.refl [] _)) (by simp) (Kp.refl [] _))
  obtain ⟨t, et⟩ : ∃ t, W1.heap.size = t := ⟨_, rfl⟩
  rw [et] at X1
  go_wp2_with fail
  generalize (W1.alloc (.cells #[.map none] 27)).alloc (.cells #[.map none] 33) = W2 at *
  clear et K0
  refine (tput_yes (unhide X1).tab (unhide h10) pin_zero (unhide hfirst).1 (by decide) (unhide hfirst).2).mono ?_
  rintro e W3 ⟨rfl, X3, T3⟩
  have Y3 := hide (As9.mk (n := 1) ((unhide X1).turnT T3 X3) (ap9_start Z1) FB.zero (by simp))
  clear X3 T3 X1
  go_wp2_with fail
  go_loopg [8] len (fun m i wr => ∃ j : Nat, j ≤ len ∧ ∃ L F, m = len - j ∧ i = .int .i64 j ∧ As9 w t Z L F (j + 1) wr)
  case atStart => exact ⟨0, Nat.zero_le _, _, _, by omega, rfl, unhide Y3⟩
  case round =>
    obtain ⟨j, hj, L, F, rfl, rfl, hX⟩ := hrel
    clear Y3
    have X := hide hX
    clear hX
    by_cases hlt : j < len
    · have b1 : (j : Int) < (len : Int) := by omega
      have tj : ((j : Int)).toNat = j := Int.toNat_natCast j
      obtain ⟨⟨kd, e0, _⟩, ⟨na, e1, _⟩, ⟨nb, e2, _⟩, ⟨nw, e3, _⟩, ⟨nz, e4, _⟩⟩ := unhide y1 j hlt
      obtain ⟨b, off, ea, ce⟩ := do5_cells (unhide HR) (Kp.refl [] w) hlt
      subst ea
      have hC : Hid (∀ w', Kp [] w w' → w'.cell? ⟨b, off + j * 5, none⟩ = some (.int .i64 kd) ∧ w'.cell? ⟨b, off + j * 5 + 1, none⟩ = some (.int .i64 na) ∧ w'.cell? ⟨b, off + j * 5 + 2, none⟩ = some (.int .i64 nb) ∧ w'.cell? ⟨b, off + j * 5 + 3, none⟩ = some (.int .i64 nw) ∧ w'.cell? ⟨b, off + j * 5 + 4, none⟩ = some (.int .i64 nz)) := fun w' K => by
        refine ⟨K.cell ?_, K.cell ?_, K.cell ?_, K.cell ?_, K.cell ?_⟩
        · rw [← e0]; exact ce 0 (by omega)
        · rw [← e1]; exact ce 1 (by omega)
        · rw [← e2]; exact ce 2 (by omega)
        · rw [← e3]; exact ce 3 (by omega)
        · rw [← e4]; exact ce 4 (by omega)
      obtain ⟨an, han⟩ : ∃ x, na % 16 = x := ⟨_, rfl⟩
      obtain ⟨bn, hbn⟩ : ∃ x, nb % 16 = x := ⟨_, rfl⟩
      obtain ⟨kk, hkk⟩ : ∃ x, kd % 8 = x := ⟨_, rfl⟩
      have bb0 : 0 ≤ bn ∧ bn < 16 := by omega
      have ia : Hid (PIn (1, an)) := pin9 (by decide) (by decide) (by omega) (by omega)
      have ib : Hid (PIn (1, bn)) := pin9 (by decide) (by decide) (by omega) (by omega)
      replace han := hide han
      replace hbn := hide hbn
      replace hkk := hide hkk
      obtain ⟨d0, d1, d2, d3, d4⟩ := unhide hC _ (unhide X).tm.tab.kp
      clear ce e0 e1 e2 e3 e4
      go_wp2_with fail
      refine (number_to _ _ _ _ (by omega) (by omega) (unhide han)).mono ?_
      rintro e WA ⟨rfl, rfl⟩
      have X2 := hide ((unhide X).grew ((Kp.refl [] WA).alloc (.cells #[.int .i64 1, .int .i64 an] 40)))
      have A2 := hide (Bk.new WA 40 [.int .i64 1, .int .i64 an])
      clear d0 d1 d2 d3 d4 X
      obtain ⟨d0, d1, d2, d3, d4⟩ := unhide hC _ (unhide X2).tm.tab.kp
      go_wp2_with fail
      refine (number_to _ _ _ _ (by omega) (by omega) (unhide hbn)).mono ?_
      rintro e WB ⟨rfl, rfl⟩
      have X3 := hide ((unhide X2).grew ((Kp.refl [] (WA.alloc (.cells #[.int .i64 1, .int .i64 an] 40))).alloc (.cells #[.int .i64 1, .int .i64 bn] 40)))
      have A3 := hide ((unhide A2).alloc (.cells #[.int .i64 1, .int .i64 bn] 40))
      have B3 := hide (Bk.next (p := WA.heap.size + 1) (WA.alloc (.cells #[.int .i64 1, .int .i64 an] 40)) 40 [.int .i64 1, .int .i64 bn] (by simp))
      obtain ⟨A, eA⟩ : ∃ A, WA.heap.size = A := ⟨_, rfl⟩
      rw [eA] at A3 B3
      clear d0 d1 d2 d3 d4 X2 A2
      obtain ⟨d0, d1, d2, d3, d4⟩ := unhide hC _ (unhide X3).tm.tab.kp
      go_wp2_with fail
      generalize (WA.alloc (.cells #[.int .i64 1, .int .i64 an] 40)).alloc (.cells #[.int .i64 1, .int .i64 bn] 40) = W5 at *
      clear eA
      refine (number_to _ _ _ _ (by omega) (by omega) (unhide hkk)).mono ?_
      rintro e WC ⟨rfl, rfl⟩
      have q0 := (unhide B3).cell (i := 0) rfl
      have q1 := (unhide B3).cell (i := 1) rfl
      by_cases hk5 : kk = 5
      · subst hk5
        by_cases hb0 : 0 < bn
        · obtain ⟨v, L', hd, hdl, hds⟩ := tdrop_ap (unhide X3).tm.tab (unhide ib)
          replace hd := hide hd
          replace hds := hide hds
          go_wp2_with fail
          refine (unhide hd).mono ?_
          rintro e W6 ⟨rfl, X6, T6⟩
          have Y6 := hide (As9.mk (n := j + 1 + 1) ((unhide X3).tm.turnT T6 X6) ((unhide X3).ap.sub (unhide hds)) (unhide X3).fb (by have := (unhide X3).len; omega))
          clear X6 T6 X3 hd d0 d1 d2 d3 d4 q0 q1
          go_wp2
          go_roundg (len - (j + 1))
          case measure => omega
          case rel => exact ⟨j + 1, by omega, L', F, rfl, by go_num, unhide Y6⟩
        · have hb0' : decide (0 < bn) = false := decide_eq_false hb0
          have Y6 := hide (As9.mk (n := j + 1 + 1) (unhide X3).tm (unhide X3).ap (unhide X3).fb (by have := (unhide X3).len; omega))
          clear hb0
          go_wp2
          go_roundg (len - (j + 1))
          case measure => omega
          case rel => exact ⟨j + 1, by omega, L, F, rfl, by go_num, unhide Y6⟩
      · have hk5' : (kk == 5) = false := beq_eq_false_iff_ne.2 hk5
        obtain ⟨R, hRk⟩ : ∃ R, mkR L F 1 an 1 bn nw nz = R := ⟨_, rfl⟩
        obtain ⟨r1, r2, r3⟩ := ap9_make (unhide X3).ap (unhide X3).fb Z20 1 an 1 bn nw nz hRk
        have hlen : L.length < 65536 := by have := (unhide X3).len; omega
        have hS : Hid (∀ w', Kp [] WC w' → (fun w' => w'.cell? ⟨A, 0, none⟩ = some (.int .i64 1) ∧ w'.cell? ⟨A, 1, none⟩ = some (.int .i64 an) ∧ w'.cell? ⟨A + 1, 0, none⟩ = some (.int .i64 1) ∧ w'.cell? ⟨A + 1, 1, none⟩ = some (.int .i64 bn) ∧ w'.cell? ⟨b, off + j * 5 + 3, none⟩ = some (.int .i64 nw) ∧ w'.cell? ⟨b, off + j * 5 + 4, none⟩ = some (.int .i64 nz)) w') := fun w' K => by
          obtain ⟨_, _, _, d3, d4⟩ := unhide hC _ ((unhide X3).grew K).tm.tab.kp
          have a := (unhide A3).kept K (by simp)
          have b' := (unhide B3).kept K (by simp)
          exact ⟨a.cell rfl, a.cell rfl, b'.cell rfl, b'.cell rfl, d3, d4⟩
        have hST : Hid (∀ wx wy, TM w t (t + 1) L F wx → Kp [] w wy → Bk wx A 40 [.int .i64 1, .int .i64 an] → Bk wx (A + 1) 40 [.int .i64 1, .int .i64 bn] → Mtc w t (t + 1) wx wy → (fun w' => w'.cell? ⟨A, 0, none⟩ = some (.int .i64 1) ∧ w'.cell? ⟨A, 1, none⟩ = some (.int .i64 an) ∧ w'.cell? ⟨A + 1, 0, none⟩ = some (.int .i64 1) ∧ w'.cell? ⟨A + 1, 1, none⟩ = some (.int .i64 bn) ∧ w'.cell? ⟨b, off + j * 5 + 3, none⟩ = some (.int .i64 nw) ∧ w'.cell? ⟨b, off + j * 5 + 4, none⟩ = some (.int .i64 nz)) wy) := fun wx wy tm K a b' T => by
          obtain ⟨_, _, _, d3, d4⟩ := unhide hC _ K
          have a2 := tm.keeps T a
          have b2 := tm.keeps T b'
          exact ⟨a2.cell rfl, a2.cell rfl, b2.cell rfl, b2.cell rfl, d3, d4⟩
        have hcl := hide (hlen)
        have X4 := hide ((unhide X3).grew ((Kp.refl [] WC).drew))
        have A4 := hide ((unhide A3).kept ((Kp.refl [] WC).drew) (by simp))
        have B4 := hide ((unhide B3).kept ((Kp.refl [] WC).drew) (by simp))
        have K4 := hide ((Kp.refl [] WC).drew)
        replace hRk := hide hRk
        replace r1 := hide r1
        replace r2 := hide r2
        clear hk5 hlen d0 d1 d2 d3 d4 q0 q1
        obtain ⟨d0, d1, d2, d3, d4⟩ := unhide hC _ (unhide X3).tm.tab.kp
        go_wp2_with fail
        go_region_held3 (fun w' => w'.cell? ⟨A, 0, none⟩ = some (.int .i64 1) ∧ w'.cell? ⟨A, 1, none⟩ = some (.int .i64 an) ∧ w'.cell? ⟨A + 1, 0, none⟩ = some (.int .i64 1) ∧ w'.cell? ⟨A + 1, 1, none⟩ = some (.int .i64 bn) ∧ w'.cell? ⟨b, off + j * 5 + 3, none⟩ = some (.int .i64 nw) ∧ w'.cell? ⟨b, off + j * 5 + 4, none⟩ = some (.int .i64 nz)) (first | with_reducible exact unhide F7 | with_reducible exact unhide hS _ (unhide K4)) (first
          | (go_at_call 19; refine (kmake (unhide X4).tm (unhide X4).fb (unhide ia) (unhide ib) nw nz (unhide hcl) (unhide hRk)).mono ?_; rintro e W7 ⟨rfl, Y7, T7⟩; have F7 := hide (unhide hST _ _ (unhide X4).tm Y7.tab.kp (unhide A4) (unhide B4) T7); replace Y7 := hide Y7; clear T7))
        all_goals
          have Y8 := hide (As9.mk (n := j + 1 + 1) (unhide Y7) (unhide r1) (unhide r2) (by have := (unhide X3).len; omega))
          go_wp2
          go_roundg (len - (j + 1))
          case measure => omega
          case rel => exact ⟨j + 1, by omega, _, _, rfl, by go_num, unhide Y8⟩
    · have b1 : decide ((j : Int) < (len : Int)) = false := decide_eq_false (by omega)
      have hL41 : L.length ≤ 41 := by have := (unhide X).len; omega
      go_wp2_with fail
      refine (tall (unhide X).tm.tab).mono ?_
      rintro e W5 ⟨v5, rfl, P5, K5⟩
      have X5 := hide ((unhide X).grew K5)
      obtain ⟨a5, c5, e5⟩ := P5.form
      have hsl : (sel (fun _ => true) L).length = L.length := by unfold sel; simp
      have hgt : Hid (∀ (i : Nat) (x : Sl), L[i]? = some x → (sel (fun _ => true) L)[i]? = some (x.n, x.s)) := fun i x e => by unfold sel; rw [List.filter_eq_self.2 (fun _ _ => rfl), List.getElem?_map, e]; rfl
      obtain ⟨N, hN⟩ : ∃ N, (sel (fun _ => true) L).length = N := ⟨_, rfl⟩
      rw [hN] at e5 hsl
      subst e5 hsl
      have hcn := hide (capns_all (unhide X5).tm.tab)
      have hnd := hide (unhide X5).tm.tab.fo.nd
      have hok := hide (unhide X5).tm.tab.fo.ok
      replace P5 := hide P5
      replace hN := hide hN
      have hcell : Hid (∀ (i : Nat) (x : Sl) (wx : World), L[i]? = some x → Kp [] W5 wx → ∃ g, a5 = some ⟨g, 0, none⟩ ∧ wx.cell? ⟨g, i * 2, none⟩ = some (.int .i64 x.n) ∧ wx.cell? ⟨g, i * 2 + 1, none⟩ = some (.int .i64 x.s)) := fun i x wx hx K => by
        obtain ⟨g, hga⟩ : ∃ g, a5 = some ⟨g, 0, none⟩ := by
          rcases (unhide P5).addr with ⟨e, _⟩ | ⟨g, cap, e, _⟩
          · simp only [Value.slice.injEq] at e
            have := (List.getElem?_eq_some_iff.1 hx).1
            omega
          · simp only [Value.slice.injEq] at e; exact ⟨g, e.1⟩
        subst hga
        obtain ⟨y0, y1⟩ := (unhide P5).at (unhide hgt i x hx)
        exact ⟨g, rfl, K.cell y0, K.cell y1⟩
      have hgetc : Hid (∀ (i : Nat) (x : Sl) (wx : World), L[i]? = some x → Kp [] W5 wx → Calls Try.prog 26 #[.pointer (some ⟨t, 0, none⟩), .agg #[.int .i64 x.n, .int .i64 x.s]] wx fun e w' => e = .returned (.tuple #[.agg #[.int .i64 x.k, .int .i64 x.o, .int .i64 x.z, .int .i64 x.b, .int .i64 x.r], .bool true]) ∧ Kp [] wx w') := fun i x wx hx K => by
        have := tget ((unhide X5).tm.tab.grew K) (pin_ok (unhide hok x (List.mem_of_getElem? hx)))
        rw [at_own (unhide hnd) hx] at this
        exact this
      clear K5 X
      go_wp2_with fail
      go_loopg [12] L.length (fun m i wr => ∃ p : Nat, p ≤ L.length ∧ m = L.length - p ∧ i = .int .i64 p ∧ Kp [] W5 wr)
      case atStart => exact ⟨0, Nat.zero_le _, rfl, rfl, Kp.refl _ _⟩
      case round =>
        obtain ⟨p, hp, rfl, rfl, hK⟩ := hrel
        have K := hide hK
        clear hK
        by_cases hpl : p < L.length
        · obtain ⟨x, hx⟩ : ∃ x, L[p]? = some x := ⟨_, List.getElem?_eq_getElem hpl⟩
          have b2 : (p : Int) < (L.length : Int) := by omega
          have b3 : ((p : Int)).toNat = p := Int.toNat_natCast p
          obtain ⟨g, hga, x0, x1⟩ := unhide hcell p x _ hx (unhide K)
          subst hga
          obtain ⟨o10, oZ⟩ := ap9_one (unhide X5).ap (unhide hcn) (List.mem_of_getElem? hx)
          have hgc := hide (unhide hgetc p x _ hx (unhide K))
          replace hx := hide hx
          obtain ⟨xn, xs, xu, xv, xk, xo, xz, xb, xr⟩ := x
          simp only at x0 x1 o10 oZ
          have o1 : decide (xo < 10) = false := decide_eq_false (by omega)
          have o2 : decide (10 + Z ≤ xo) = false := decide_eq_false (by omega)
          go_wp2_with fail
          refine (unhide hgc).mono ?_
          rintro e W6 ⟨rfl, K6⟩
          have K7 := hide (((unhide K).then K6).alloc (.cells #[.int .i64 xk, .int .i64 xo, .int .i64 xz, .int .i64 xb, .int .i64 xr] 38))
          have C7 := hide (Bk.new W6 38 [.int .i64 xk, .int .i64 xo, .int .i64 xz, .int .i64 xb, .int .i64 xr])
          obtain ⟨C, eC⟩ : ∃ C, W6.heap.size = C := ⟨_, rfl⟩
          rw [eC] at C7
          clear K6 K hgc x0 x1
          have c0 := (unhide C7).cell (i := 0) rfl
          have c1 := (unhide C7).cell (i := 1) rfl
          go_wp2_with fail
          generalize W6.alloc (.cells #[.int .i64 xk, .int .i64 xo, .int .i64 xz, .int .i64 xb, .int .i64 xr] 38) = W7 at *
          clear eC
          go_loopg [15] p (fun m i wr => ∃ q : Nat, q ≤ p ∧ m = p - q ∧ i = .int .i64 q ∧ Kp [] W7 wr)
          case atStart => exact ⟨0, Nat.zero_le _, rfl, rfl, Kp.refl _ _⟩
          case round =>
            obtain ⟨q, hq, rfl, rfl, hK⟩ := hrel
            clear c0 c1
            have KQ := hide hK
            clear hK
            by_cases hqp : q < p
            · obtain ⟨y, hy⟩ : ∃ y, L[q]? = some y := ⟨_, List.getElem?_eq_getElem (by omega)⟩
              have b4 : (q : Int) < (p : Int) := by omega
              have b4' : (q : Int) < (L.length : Int) := by omega
              have b5 : ((q : Int)).toNat = q := Int.toNat_natCast q
              obtain ⟨g', hga, z0, z1⟩ := unhide hcell q y _ hy ((unhide K7).then (unhide KQ))
              obtain rfl : g = g' := by simpa using hga
              have hno := (ap9_end (unhide X5).ap (unhide hcn) (unhide hx) hy hqp).2
              have hgc := hide (unhide hgetc q y _ hy ((unhide K7).then (unhide KQ)))
              clear hy hga
              obtain ⟨yn, ys, yu, yv, yk, yo, yz, yb, yr⟩ := y
              simp only at z0 z1 hno
              go_wp2_with fail
              refine (unhide hgc).mono ?_
              rintro e W8 ⟨rfl, K8⟩
              have K9 := hide (((unhide KQ).then K8).alloc (.cells #[.int .i64 yk, .int .i64 yo, .int .i64 yz, .int .i64 yb, .int .i64 yr] 38))
              have C9 := (unhide C7).kept (unhide K9) (by simp)
              have c0 := C9.cell (i := 0) rfl
              have c1 := C9.cell (i := 1) rfl
              clear K8 KQ hgc z0 z1 C9
              by_cases k1 : xk = 1
              · subst k1
                clear hno
                go_wp2
                go_roundg (p - (q + 1))
                case measure => omega
                case rel => exact ⟨q + 1, by omega, rfl, by go_num, unhide K9⟩
              · have k1' : (xk != 1) = true := bne_iff_ne.2 k1
                by_cases k2 : yk = 1
                · subst k2
                  clear hno k1
                  go_wp2
                  go_roundg (p - (q + 1))
                  case measure => omega
                  case rel => exact ⟨q + 1, by omega, rfl, by go_num, unhide K9⟩
                · have k2' : (yk != 1) = true := bne_iff_ne.2 k2
                  have k3 : (xo == yo) = false := beq_eq_false_iff_ne.2 (fun e => hno ⟨k1, k2, e⟩)
                  clear hno k1 k2
                  go_wp2
                  go_roundg (p - (q + 1))
                  case measure => omega
                  case rel => exact ⟨q + 1, by omega, rfl, by go_num, unhide K9⟩
            · have b4 : decide ((q : Int) < (p : Int)) = false := decide_eq_false (by omega)
              go_wp2
              go_roundg (L.length - (p + 1))
              case measure => omega
              case rel => exact ⟨p + 1, by omega, rfl, by go_num, (unhide K7).then (unhide KQ)⟩
        · have b2 : decide ((p : Int) < (L.length : Int)) = false := decide_eq_false (by omega)
          go_wp2
          go_ret
          exact ⟨rfl, ((unhide X5).tm.tab.kp.then (unhide K)).below (Nat.le_refl _) (by simp)⟩
theorem rapart_walk (size : Int) (a : Option Addr) (len cap : Nat) (V : Nat → Nat → Value) (w : World) (_ : (Lit.int .i64 size).wf = true) (hR : Recs w a len 5 V) (y1 : Five V len) :
    Calls Try.prog 4 #[.int .i64 size, .slice a len cap] w fun e w' => e = .returned (.bool true) ∧ Below w.heap.size w w' := by
  by_cases h : len ≤ 40
  · exact apart_in size a len cap V w h hR y1
  · exact apart_long size a len cap w (by omega)
end Go.Proofs.Ythjhpcbhkcmghaa
