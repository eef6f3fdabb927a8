/- The walk of RetypeAgain. -/
import Derived.Test.YthjhpcbhkcmghaaKAgainM9
import Derived.Test.YthjhpcbhkcmghaaKArgs
import Derived.Deep.DeepCutAuto
namespace Go.Proofs.Ythjhpcbhkcmghaa
open Go.RowKit
set_option linter.unusedVariables false
set_option linter.unusedSimpArgs false
theorem ag_first (z : Int) (h1 : 1 ≤ z) (h2 : z ≤ 12) : putP [] 1 0 1 8 z 0 7 0 0 ∧ insL [] ⟨1, 0, 0, 0, 1, 8, z, 0, 7⟩ = agL z [] := by
  refine ⟨⟨by decide, rfl, ?_, .inl ⟨rfl, rfl⟩⟩, rfl⟩
  rw [chk_iff]
  unfold chkP fitP
  rw [if_pos rfl]
  omega
/-- Table and marks, a place's box. -/
structure A9 (w : World) (t y p : Nat) (L : List Sl) (F : Int × Int → Int) (wx : World) : Prop where
  tm : TM w t y L F wx
  pa : Bk wx p 40 [.int .i64 1, .int .i64 0]
theorem A9.grew {w : World} {t y p : Nat} {L : List Sl} {F : Int × Int → Int} {wx wy : World} (h : A9 w t y p L F wx) (k : Kp [] wx wy) : A9 w t y p L F wy := ⟨h.tm.grew k, h.pa.kept k (by simp)⟩
theorem TM.heads {w wr : World} {t y : Nat} {L : List Sl} {F : Int × Int → Int} (h : TM w t y L F wr) {g : Nat} {T : TypeId} {vs : List Value} (b : Bk wr g T vs) (h1 : T ≠ 27) (h2 : T ≠ 33) : g ≠ t ∧ g ≠ y := by
  obtain ⟨m, hp, _⟩ := h.tab.tab
  obtain ⟨m', hb, _⟩ := h.ma.mp
  exact ⟨b.apart hp.head h1, b.apart hb h2⟩
theorem TM.keeps {w wr wy : World} {t y : Nat} {L : List Sl} {F : Int × Int → Int} (h : TM w t y L F wr) (T : Mtc w t y wr wy) {g : Nat} {vs : List Value} (b : Bk wr g 40 vs) : Bk wy g 40 vs := T.bk b (h.heads b (by decide) (by decide)).1 (h.heads b (by decide) (by decide)).2
theorem A9.turned {w : World} {t y p : Nat} {L L' : List Sl} {F F' : Int × Int → Int} {wx wy : World} (h : A9 w t y p L F wx) (X : TM w t y L' F' wy) (T : Mtc w t y wx wy) : A9 w t y p L' F' wy := ⟨X, h.tm.keeps T h.pa⟩
set_option maxRecDepth 4000 in
set_option maxHeartbeats 4000000 in
theorem again_walk (size left : Int) (keep : Bool) (w : World) (_ : (Lit.int .i64 size).wf = true) (_ : (Lit.int .i64 left).wf = true) :
    Calls Try.prog 7 #[.int .i64 size, .int .i64 left, .bool keep] w fun e w' => e = .returned (.bool true) ∧ Below w.heap.size w w' := by
  obtain ⟨s0, hs0⟩ : ∃ x, size % 12 = x := ⟨_, rfl⟩
  obtain ⟨z, hz⟩ : ∃ z : Nat, 1 + s0 = (z : Int) := ⟨(1 + s0).toNat, by omega⟩
  obtain ⟨z1, z12⟩ : 1 ≤ z ∧ z ≤ 12 := by omega
  have wz : IntKind.i64.wrap (1 + s0) = (z : Int) := by rw [IntKind.wrap_i64]; omega
  obtain ⟨lf, hlf⟩ : ∃ lf : Nat, left % (z : Int) = (lf : Int) := ⟨(left % (z : Int)).toNat, by have := Int.emod_nonneg left (show (z : Int) ≠ 0 by omega); omega⟩
  have lfz : lf < z := by have := Int.emod_lt_of_pos left (show (0 : Int) < z by omega); omega
  have h10 : Hid (PIn (1, 0)) := pin9 (by decide) (by decide) (by decide) (by decide)
  have h20 : Hid (PIn (2, 0)) := pin9 (by decide) (by decide) (by decide) (by decide)
  have h8z : Hid (PIn (8, (z : Int))) := pin9 (by decide) (by decide) (by omega) (by omega)
  have h1i : Hid (∀ m : Nat, m < z → PIn (1, 1 + (m : Int))) := fun m hm => pin9 (by decide) (by decide) (by omega) (by omega)
  have hfirst := hide (ag_first (z : Int) (by omega) (by omega))
  replace hs0 := hide hs0
  replace hz := hide hz
  replace hlf := hide hlf
  go_enter Try.func7, Try.ntmps7
  go_wp2_with fail
  refine (first_calls _).mono ?_
  rintro e W0 ⟨rfl, K0⟩
  replace K0 := hide K0
  go_wp2_with fail
  refine (number_to _ _ _ _ (by omega) (by omega) (unhide hs0)).mono ?_
  rintro e W1 ⟨rfl, rfl⟩
  go_wp2_with fail
  refine (number_to _ _ _ _ (by omega) (by omega) (unhide hlf)).mono ?_
  rintro e W1 ⟨rfl, rfl⟩
  have TM1 := TM.start (w := w) (y := W1.heap.size + 1) (TabIn.of (T := []) (w := w) (unhide K0) rfl (Kp.refl [] _)) (by simp) (Kp.refl [] _)
  have x1 := Bk.next (p := W1.heap.size + 1 + 1) ((W1.alloc (.cells #[.map none] 27)).alloc (.cells #[.map none] 33)) 40 [.int .i64 1, .int .i64 0] (by simp)
  have X1 := hide (A9.mk (TM1.grew ((Kp.refl [] _).alloc (.cells #[.int .i64 1, .int .i64 0] 40))) x1)
  obtain ⟨t, et⟩ : ∃ t, W1.heap.size = t := ⟨_, rfl⟩
  rw [et] at X1
  clear x1 TM1
  go_wp2_with fail
  generalize ((W1.alloc (.cells #[.map none] 27)).alloc (.cells #[.map none] 33)).alloc (.cells #[.int .i64 1, .int .i64 0] 40) = W2 at *
  clear et K0
  refine (tput_yes (unhide X1).tm.tab (unhide h10) pin_zero (unhide hfirst).1 (by decide) (unhide hfirst).2).mono ?_
  rintro e W3 ⟨rfl, X3, T3⟩
  have Y3 := hide ((unhide X1).turned ((unhide X1).tm.turnT T3 X3) (Mtc.ofT T3))
  clear X3 T3 X1
  go_wp2_with fail
  go_loopg [11] z (fun m i wr => ∃ j : Nat, j ≤ z ∧ ∃ F, m = z - j ∧ i = .int .i64 j ∧ F (8, (z : Int)) = (j : Int) ∧ FB F ∧ A9 w t (t + 1) (t + 1 + 1) (agL z (List.range j)) F wr)
  case atStart => exact ⟨0, Nat.zero_le _, _, by omega, rfl, rfl, FB.zero, unhide Y3⟩
  case round =>
    obtain ⟨j, hj, F, rfl, rfl, hF, hB, hX⟩ := hrel
    clear Y3
    have X := hide hX
    clear hX
    have p0 := (unhide X).pa.cell (i := 0) rfl
    have p1 := (unhide X).pa.cell (i := 1) rfl
    by_cases hlt : j < z
    · have b1 : (j : Int) < (z : Int) := by omega
      obtain ⟨G, hR, hG, hGB⟩ := ag_make (z := (z : Int)) (m := j) (by omega) (by omega) hF hB
      have w1 : IntKind.i64.wrap (1 + (j : Int)) = 1 + (j : Int) := by rw [IntKind.wrap_i64]; omega
      have w8 : IntKind.i64.wrap (8 + (j : Int)) = 8 + (j : Int) := by rw [IntKind.wrap_i64]; omega
      have w9 : IntKind.i64.wrap ((j : Int) + 1) = (j : Int) + 1 := by rw [IntKind.wrap_i64]; omega
      have hlen : Hid ((agL (z : Int) (List.range j)).length < 65536) := by unfold Hid; rw [agL_len, List.length_range]; omega
      replace hR := hide hR
      replace hG := hide hG
      replace hGB := hide hGB
      replace hF := hide hF
      replace hB := hide hB
      go_wp2_with fail
      refine (kmake (unhide X).tm (unhide hB) (unhide h10) (unhide h1i j hlt) 3 0 (unhide hlen) (unhide hR)).mono ?_
      rintro e W4 ⟨he, Y4, T4⟩
      simp only [capR, if_true] at he
      subst he
      have X4 := hide ((unhide X).turned Y4 T4)
      have X5 := hide ((unhide X4).grew ((Kp.refl [] W4).alloc (.cells #[.int .i64 3, .int .i64 (8 + (j : Int)), .int .i64 0, .int .i64 0, .int .i64 7] 38)))
      clear Y4 T4 X p0 p1 X4
      go_wp2
      go_roundg (z - (j + 1))
      case measure => omega
      case rel => exact ⟨j + 1, by omega, G, rfl, by go_num, unhide hG, unhide hGB, unhide X5⟩
    · have b1 : decide ((j : Int) < (z : Int)) = false := decide_eq_false (by omega)
      have ej : j = z := by omega
      subst ej
      have S5 := hide (Bk.new wr 40 [.int .i64 2, .int .i64 0])
      have X5 := hide ((unhide X).grew ((Kp.refl [] wr).alloc (.cells #[.int .i64 2, .int .i64 0] 40)))
      have hR := hide (ag_over (l := List.range j) (i := 0) (k := 3) (List.mem_range.2 (by omega)) (by omega) hF (by decide) (by decide) (by decide))
      have hlen : Hid ((agL (j : Int) (List.range j)).length < 65536) := by unfold Hid; rw [agL_len, List.length_range]; omega
      obtain ⟨q, eq⟩ : ∃ q, wr.heap.size = q := ⟨_, rfl⟩
      rw [eq] at S5
      replace hF := hide hF
      replace hB := hide hB
      clear p0 p1 X
      have p0 := (unhide X5).pa.cell (i := 0) rfl
      have p1 := (unhide X5).pa.cell (i := 1) rfl
      have r0 := (unhide S5).cell (i := 0) rfl
      have r1 := (unhide S5).cell (i := 1) rfl
      go_wp2_with fail
      generalize wr.alloc (.cells #[.int .i64 2, .int .i64 0] 40) = W5 at *
      clear eq
      refine (kmake (unhide X5).tm (unhide hB) (unhide h10) (unhide h20) 3 0 (unhide hlen) (unhide hR)).mono ?_
      rintro e W6 ⟨he, Y6, T6⟩
      simp only [capR, show ¬ ((8:Int) = 0) from by decide, if_false] at he
      subst he
      have X6 := hide (((unhide X5).turned Y6 T6).grew ((Kp.refl [] W6).alloc (.cells #[.int .i64 0, .int .i64 0, .int .i64 0, .int .i64 0, .int .i64 0] 38)))
      have S6 := hide (((unhide X5).tm.keeps T6 (unhide S5)).alloc (.cells #[.int .i64 0, .int .i64 0, .int .i64 0, .int .i64 0, .int .i64 0] 38))
      clear Y6 T6 X5 S5 p0 p1 r0 r1
      go_wp2_with fail
      generalize W6.alloc (.cells #[.int .i64 0, .int .i64 0, .int .i64 0, .int .i64 0, .int .i64 0] 38) = W7 at *
      go_loopg [17] j (fun m i wr => ∃ a : Nat, a ≤ j ∧ ∃ l, m = j - a ∧ i = .int .i64 a ∧ AgLeft j keep lf a l ∧ A9 w t (t + 1) (t + 1 + 1) (agL j l) F wr ∧ Bk wr q 40 [.int .i64 2, .int .i64 0])
      case atStart => exact ⟨0, Nat.zero_le _, List.range j, by omega, rfl, agleft_start _ _ _, unhide X6, unhide S6⟩
      case round =>
        obtain ⟨a, ha, l, rfl, rfl, hL, hX, hS⟩ := hrel
        clear X6 S6
        have X := hide hX
        have S := hide hS
        clear hX hS
        by_cases hla : a < j
        · have b2 : (a : Int) < (j : Int) := by omega
          have w1 : IntKind.i64.wrap (1 + (a : Int)) = 1 + (a : Int) := by rw [IntKind.wrap_i64]; omega
          by_cases hsk : keep = true ∧ a = lf
          · obtain ⟨rfl, rfl⟩ := hsk
            have hL2 := hide (agleft_skip hL)
            replace hL := hide hL
            go_wp2
            go_roundg (j - (a + 1))
            case measure => omega
            case rel => exact ⟨a + 1, by omega, l, rfl, by go_num, unhide hL2, unhide X, unhide S⟩
          · have hs' : keep = false ∨ a ≠ lf := by
              cases keep
              · exact .inl rfl
              · exact .inr (fun e => hsk ⟨rfl, e⟩)
            obtain ⟨k, hk, hL2⟩ := agleft_next hL hla hs'
            obtain ⟨hat, hget⟩ := ag_at (z := (j : Int)) hL.1 hk
            have hdr := hide (fun wr (h : TabIn w t (agL (j : Int) l) wr) => tdrop_yes h hat hget (ag_drop (j : Int) l k a))
            replace hL := hide hL
            replace hL2 := hide hL2
            clear hk hat hget
            cases keep
            · clear hsk hs'
              go_wp2_with fail
              refine (unhide hdr _ (unhide X).tm.tab).mono ?_
              rintro e W8 ⟨rfl, X8, T8⟩
              have Y8 := hide ((unhide X).turned ((unhide X).tm.turnT T8 X8) (Mtc.ofT T8))
              have S8 := hide ((unhide X).tm.keeps (Mtc.ofT T8) (unhide S))
              clear X8 T8 X S hdr
              go_wp2
              go_roundg (j - (a + 1))
              case measure => omega
              case rel => exact ⟨a + 1, by omega, _, rfl, by go_num, unhide hL2, unhide Y8, unhide S8⟩
            · have hne : ((a : Int) != (lf : Int)) = true := bne_iff_ne.2 (fun e => hsk ⟨rfl, by omega⟩)
              clear hsk hs'
              go_wp2_with fail
              refine (unhide hdr _ (unhide X).tm.tab).mono ?_
              rintro e W8 ⟨rfl, X8, T8⟩
              have Y8 := hide ((unhide X).turned ((unhide X).tm.turnT T8 X8) (Mtc.ofT T8))
              have S8 := hide ((unhide X).tm.keeps (Mtc.ofT T8) (unhide S))
              clear X8 T8 X S hdr
              go_wp2
              go_roundg (j - (a + 1))
              case measure => omega
              case rel => exact ⟨a + 1, by omega, _, rfl, by go_num, unhide hL2, unhide Y8, unhide S8⟩
        · have b2 : decide ((a : Int) < (j : Int)) = false := decide_eq_false (by omega)
          have ea : a = j := by omega
          subst ea
          have p0 := (unhide X).pa.cell (i := 0) rfl
          have p1 := (unhide X).pa.cell (i := 1) rfl
          have r0 := (unhide S).cell (i := 0) rfl
          have r1 := (unhide S).cell (i := 1) rfl
          have hlen : Hid ((agL (a : Int) l).length < 65536) := by unfold Hid; rw [agL_len]; have := hL.2.1; omega
          cases keep
          · have hl0 := agleft_end hL
            subst hl0
            obtain ⟨L', G, hR2, hG⟩ := ag_anew (z := (a : Int)) (F := F) (by omega)
            replace hR2 := hide hR2
            replace hG := hide hG
            clear hL
            go_wp2_with fail
            refine (kmake (unhide X).tm (unhide hB) (unhide h10) (unhide h20) 4 0 (unhide hlen) (unhide hR2)).mono ?_
            rintro e W8 ⟨he, Y8, T8⟩
            simp only [capR, if_true] at he
            subst he
            have X8 := hide (Y8.grew ((Kp.refl [] W8).alloc (.cells #[.int .i64 4, .int .i64 8, .int .i64 0, .int .i64 0, .int .i64 7] 38)))
            clear Y8 T8 X S p0 p1 r0 r1
            go_wp2_with fail
            refine (mused (unhide X8).ma (unhide h8z) (unhide hG)).mono ?_
            rintro e W9 ⟨rfl, K9⟩
            have X9 := hide ((unhide X8).grew K9)
            clear K9 X8
            go_wp2
            go_ret
            exact ⟨rfl, (unhide X9).tab.kp.below (Nat.le_refl _) (by simp)⟩
          · have hR2 := hide (ag_over (z := (a : Int)) (l := l) (i := lf) (k := 4) ((hL.2.2 lf).2 ⟨lfz, .inr ⟨rfl, rfl⟩⟩) (by omega) (unhide hF) (by decide) (by decide) (by decide))
            clear hL
            go_wp2_with fail
            refine (kmake (unhide X).tm (unhide hB) (unhide h10) (unhide h20) 4 0 (unhide hlen) (unhide hR2)).mono ?_
            rintro e W8 ⟨he, Y8, T8⟩
            simp only [capR, show ¬ ((8:Int) = 0) from by decide, if_false] at he
            subst he
            have X8 := hide (Y8.grew ((Kp.refl [] W8).alloc (.cells #[.int .i64 0, .int .i64 0, .int .i64 0, .int .i64 0, .int .i64 0] 38)))
            clear Y8 T8 X S p0 p1 r0 r1
            go_wp2
            go_ret
            exact ⟨rfl, (unhide X8).tab.kp.below (Nat.le_refl _) (by simp)⟩
end Go.Proofs.Ythjhpcbhkcmghaa
