/- The walk of RetypeMarks. -/
import Derived.Test.YthjhpcbhkcmghaaKLaw9
import Derived.Test.YthjhpcbhkcmghaaKArgs
import Derived.Deep.DeepCutAuto
namespace Go.Proofs.Ythjhpcbhkcmghaa
open Go.RowKit
set_option linter.unusedVariables false
set_option linter.unusedSimpArgs false
/-- The marks, of which u units of the range are taken; the two ranges' boxes. -/
structure Ms (w : World) (y p : Nat) (S u : Int) (F : Int × Int → Int) (wx : World) : Prop where
  ma : MkIn w y F wx
  bp : Bk wx p 45 [.int .i64 3, .int .i64 S]
  bq : Bk wx (p + 1) 45 [.int .i64 3, .int .i64 (S + 1)]
  fu : F (3, S) = u
  fo : F (3, S + 1) = 0
theorem Ms.grew {w : World} {y p : Nat} {S u : Int} {F : Int × Int → Int} {wx wy : World} (h : Ms w y p S u F wx) (k : Kp [] wx wy) : Ms w y p S u F wy := ⟨h.ma.grew k, h.bp.kept k (by simp), h.bq.kept k (by simp), h.fu, h.fo⟩
theorem Ms.cells {w : World} {y p : Nat} {S u : Int} {F : Int × Int → Int} {wx : World} (h : Ms w y p S u F wx) : wx.cell? ⟨p, 0, none⟩ = some (.int .i64 3) ∧ wx.cell? ⟨p, 1, none⟩ = some (.int .i64 S) ∧ wx.cell? ⟨p + 1, 0, none⟩ = some (.int .i64 3) ∧ wx.cell? ⟨p + 1, 1, none⟩ = some (.int .i64 (S + 1)) := ⟨h.bp.cell rfl, h.bp.cell rfl, h.bq.cell rfl, h.bq.cell rfl⟩
theorem Ms.turned {w : World} {y p : Nat} {S u v : Int} {F : Int × Int → Int} {wx wy : World} (h : Ms w y p S u F wx) (T : Mch w y wx wy) (X : MkIn w y (upF F (3, S) v) wy) : Ms w y p S v (upF F (3, S) v) wy := by
  obtain ⟨m, hb, _⟩ := h.ma.mp
  refine ⟨X, Och.bk T h.bp (h.bp.apart hb (by decide)), Och.bk T h.bq (h.bq.apart hb (by decide)), ?_, ?_⟩
  · unfold upF; rw [if_pos rfl]
  · unfold upF
    rw [if_neg (fun q => by have e : S + 1 = S := congrArg Prod.snd q; omega), h.fo]
theorem Ms.reset {w : World} {y p : Nat} {S u : Int} {F : Int × Int → Int} {wx wy : World} (h : Ms w y p S u F wx) (T : Mch w y wx wy) (X : MkIn w y (upF F (3, S) 0) wy) : Ms w y p S 0 (upF F (3, S) 0) wy := h.turned T X
set_option maxRecDepth 4000 in
set_option maxHeartbeats 400000 in
theorem marks_long (size : Int) (a : Option Addr) (len cap : Nat) (w : World) (hl : 30 < len) :
    Calls Try.prog 5 #[.int .i64 size, .slice a len cap] w fun e w' => e = .returned (.bool true) ∧ Below w.heap.size w w' := by
  have h2 : (30 : Int) < (len : Int) := by omega
  go_enter Try.func5, Try.ntmps5
  go_wp2_with fail
  refine (first_calls _).mono ?_
  rintro e W0 ⟨rfl, K0⟩
  go_wp2
  go_ret
  exact ⟨rfl, K0.below (Nat.le_refl _) (by simp)⟩
set_option maxRecDepth 4000 in
set_option maxHeartbeats 3000000 in
theorem marks_in (size : Int) (a : Option Addr) (cap : Nat) (zs : List Int) (w : World) (hl : zs.length ≤ 30) (hI : Ints .i64 w a zs) :
    Calls Try.prog 5 #[.int .i64 size, .slice a zs.length cap] w fun e w' => e = .returned (.bool true) ∧ Below w.heap.size w w' := by
  have h2 : decide ((30 : Int) < (zs.length : Int)) = false := by simp; omega
  have HI := hide hI
  obtain ⟨S, hS⟩ : ∃ S, size % 50 = S := ⟨_, rfl⟩
  obtain ⟨S0, S1⟩ : 0 ≤ S ∧ S < 50 := by omega
  have wS : IntKind.i64.wrap (S + 1) = S + 1 := by rw [IntKind.wrap_i64]; omega
  have hr : Hid (PIn (3, S)) := pin9 (by decide) (by decide) (by omega) (by omega)
  have ho : Hid (PIn (3, S + 1)) := pin9 (by decide) (by decide) (by omega) (by omega)
  replace hS := hide hS
  clear hI
  go_enter Try.func5, Try.ntmps5
  go_wp2_with fail
  refine (first_calls _).mono ?_
  rintro e W0 ⟨rfl, K0⟩
  replace K0 := hide K0
  go_wp2_with fail
  refine (number_to _ _ _ _ (by omega) (by omega) (unhide hS)).mono ?_
  rintro e w' ⟨rfl, rfl⟩
  have X0 := hide (Ms.mk (y := w'.heap.size + 1 + 1) (p := w'.heap.size) (u := 0) (F := fun _ => 0) (MkIn.of (w := w) (((unhide K0).alloc (.cells #[.int .i64 3, .int .i64 S] 45)).alloc (.cells #[.int .i64 3, .int .i64 (S + 1)] 45)) (by simp) (Kp.refl [] _)) (((Bk.new w' 45 [.int .i64 3, .int .i64 S]).alloc (.cells #[.int .i64 3, .int .i64 (S + 1)] 45)).alloc (.cells #[.map none] 33)) ((Bk.next (p := w'.heap.size + 1) (w'.alloc (.cells #[.int .i64 3, .int .i64 S] 45)) 45 [.int .i64 3, .int .i64 (S + 1)] (by simp)).alloc (.cells #[.map none] 33)) rfl rfl)
  obtain ⟨p, ep⟩ : ∃ p, w'.heap.size = p := ⟨_, rfl⟩
  rw [ep] at X0
  obtain ⟨y, ey⟩ : ∃ y, p + 1 + 1 = y := ⟨_, rfl⟩
  rw [ey] at X0
  go_wp2_with fail
  generalize ((w'.alloc (.cells #[.int .i64 3, .int .i64 S] 45)).alloc (.cells #[.int .i64 3, .int .i64 (S + 1)] 45)).alloc (.cells #[.map none] 33) = W2 at *
  clear K0 ep
  go_loopg [9, 10] zs.length (fun m uv i wr => ∃ j : Nat, j ≤ zs.length ∧ ∃ u F, m = zs.length - j ∧ uv = .int .i64 u ∧ i = .int .i64 j ∧ (0 ≤ u ∧ u ≤ S) ∧ Ms w y p S u F wr)
  case atStart => exact ⟨0, Nat.zero_le _, 0, _, by omega, rfl, rfl, by omega, unhide X0⟩
  case round =>
    obtain ⟨j, hj, u, F, rfl, rfl, rfl, ⟨u0, u1⟩, hM⟩ := hrel
    clear X0
    have MX := hide hM
    clear hM
    by_cases hlt : j < zs.length
    · have b1 : (j : Int) < (zs.length : Int) := by omega
      have tj : ((j : Int)).toNat = j := Int.toNat_natCast j
      obtain ⟨_, _, hz | ⟨b, off, ea, hc⟩⟩ := unhide HI
      · omega
      subst ea
      obtain ⟨zj, hzj⟩ : ∃ q, zs.getD j 0 = q := ⟨_, rfl⟩
      have hX : Hid (∀ w', Kp [] w w' → w'.cell? ⟨b, off + j, none⟩ = some (.int .i64 zj)) := fun w' K => K.cell (by rw [← hzj]; exact hc j hlt)
      have x9 := unhide hX _ (unhide MX).ma.kp
      obtain ⟨x0, x1, y0, y1⟩ := (unhide MX).cells
      obtain ⟨n, hn⟩ : ∃ n, zj % 9 = n := ⟨_, rfl⟩
      obtain ⟨n0, n8⟩ : 0 ≤ n ∧ n < 9 := by omega
      obtain ⟨b7, hb7⟩ : ∃ v, (zj.tmod 11 == 7) = v := ⟨_, rfl⟩
      have w1 : IntKind.i64.wrap (S - u) = S - u := by rw [IntKind.wrap_i64]; omega
      have w2 : IntKind.i64.wrap (u + n) = u + n := by rw [IntKind.wrap_i64]; omega
      have w3 : IntKind.i64.wrap (3 + u) = 3 + u := by rw [IntKind.wrap_i64]; omega
      replace hn := hide hn
      replace hzj := hide hzj
      clear hc
      go_wp2_with fail
      refine (number_to _ _ _ _ (by omega) (by omega) (unhide hn)).mono ?_
      rintro e wx ⟨rfl, rfl⟩
      by_cases hmay : 1 ≤ n ∧ n ≤ S - u
      · have hcl := mtake_yes (unhide MX).ma (unhide hr) (unhide MX).fu w1 w2 w3 hmay.1 hmay.2
        have m1 : 1 ≤ n := hmay.1
        have m2 : u + n ≤ S := by omega
        replace hcl := hide hcl
        clear hmay
        go_wp2_with fail
        refine (unhide hcl).mono ?_
        rintro e WT ⟨rfl, MT, TT⟩
        have MY := hide ((unhide MX).turned TT MT)
        clear MX MT TT hcl x0 x1 y0 y1 x9
        have b2x : ((j : Int)).toNat = j := Int.toNat_natCast j
        obtain ⟨x0, x1, y0, y1⟩ := (unhide MY).cells
        have x9 := unhide hX _ (unhide MY).ma.kp
        cases b7
        · have MZ := MY
          clear MY
          go_wp2_with fail
          refine (mused (u := (u + n)) (unhide MZ).ma (unhide hr) (unhide MZ).fu).mono ?_
          rintro e WA ⟨rfl, KA⟩
          have MA := hide ((unhide MZ).grew KA)
          obtain ⟨x0, x1, y0, y1⟩ := (unhide MA).cells
          clear MZ KA
          go_wp2_with fail
          refine (mused (u := 0) (unhide MA).ma (unhide ho) (unhide MA).fo).mono ?_
          rintro e WB ⟨rfl, KB⟩
          have MB := hide ((unhide MA).grew KB)
          clear MA KB x0 x1 y0 y1
          go_wp2
          go_roundg (zs.length - (j + 1))
          case measure => omega
          case rel => exact ⟨j + 1, by omega, (u + n), _, rfl, rfl, by go_num, by omega, unhide MB⟩
        · go_wp2_with fail
          refine (mreset (unhide MY).ma (unhide hr)).mono ?_
          rintro e WR ⟨rfl, MR, TR⟩
          have MZ := hide ((unhide MY).reset TR MR)
          clear MY x0 x1 y0 y1 x9
          obtain ⟨x0, x1, y0, y1⟩ := (unhide MZ).cells
          go_wp2_with fail
          refine (mused (u := 0) (unhide MZ).ma (unhide hr) (unhide MZ).fu).mono ?_
          rintro e WA ⟨rfl, KA⟩
          have MA := hide ((unhide MZ).grew KA)
          obtain ⟨x0, x1, y0, y1⟩ := (unhide MA).cells
          clear MZ KA
          go_wp2_with fail
          refine (mused (u := 0) (unhide MA).ma (unhide ho) (unhide MA).fo).mono ?_
          rintro e WB ⟨rfl, KB⟩
          have MB := hide ((unhide MA).grew KB)
          clear MA KB x0 x1 y0 y1
          go_wp2
          go_roundg (zs.length - (j + 1))
          case measure => omega
          case rel => exact ⟨j + 1, by omega, 0, _, rfl, rfl, by go_num, by omega, unhide MB⟩
      · have hno : n < 1 ∨ S - u < n := by omega
        have hcl := mtake_no (unhide MX).ma (unhide hr) (unhide MX).fu w1 hno
        replace hcl := hide hcl
        clear hmay
        by_cases m1 : n < 1
        · have m1' : decide (1 ≤ n) = false := decide_eq_false (by omega)
          clear hno
          go_wp2_with fail
          refine (unhide hcl).mono ?_
          rintro e WT ⟨rfl, KT⟩
          have MY := hide ((unhide MX).grew KT)
          clear MX KT hcl x0 x1 y0 y1 x9
          have b2x : ((j : Int)).toNat = j := Int.toNat_natCast j
          obtain ⟨x0, x1, y0, y1⟩ := (unhide MY).cells
          have x9 := unhide hX _ (unhide MY).ma.kp
          cases b7
          · have MZ := MY
            clear MY
            go_wp2_with fail
            refine (mused (u := u) (unhide MZ).ma (unhide hr) (unhide MZ).fu).mono ?_
            rintro e WA ⟨rfl, KA⟩
            have MA := hide ((unhide MZ).grew KA)
            obtain ⟨x0, x1, y0, y1⟩ := (unhide MA).cells
            clear MZ KA
            go_wp2_with fail
            refine (mused (u := 0) (unhide MA).ma (unhide ho) (unhide MA).fo).mono ?_
            rintro e WB ⟨rfl, KB⟩
            have MB := hide ((unhide MA).grew KB)
            clear MA KB x0 x1 y0 y1
            go_wp2
            go_roundg (zs.length - (j + 1))
            case measure => omega
            case rel => exact ⟨j + 1, by omega, u, _, rfl, rfl, by go_num, by omega, unhide MB⟩
          · go_wp2_with fail
            refine (mreset (unhide MY).ma (unhide hr)).mono ?_
            rintro e WR ⟨rfl, MR, TR⟩
            have MZ := hide ((unhide MY).reset TR MR)
            clear MY x0 x1 y0 y1 x9
            obtain ⟨x0, x1, y0, y1⟩ := (unhide MZ).cells
            go_wp2_with fail
            refine (mused (u := 0) (unhide MZ).ma (unhide hr) (unhide MZ).fu).mono ?_
            rintro e WA ⟨rfl, KA⟩
            have MA := hide ((unhide MZ).grew KA)
            obtain ⟨x0, x1, y0, y1⟩ := (unhide MA).cells
            clear MZ KA
            go_wp2_with fail
            refine (mused (u := 0) (unhide MA).ma (unhide ho) (unhide MA).fo).mono ?_
            rintro e WB ⟨rfl, KB⟩
            have MB := hide ((unhide MA).grew KB)
            clear MA KB x0 x1 y0 y1
            go_wp2
            go_roundg (zs.length - (j + 1))
            case measure => omega
            case rel => exact ⟨j + 1, by omega, 0, _, rfl, rfl, by go_num, by omega, unhide MB⟩
        · have m1' : 1 ≤ n := by omega
          have m2 : decide (u + n ≤ S) = false := decide_eq_false (by omega)
          clear hno m1
          go_wp2_with fail
          refine (unhide hcl).mono ?_
          rintro e WT ⟨rfl, KT⟩
          have MY := hide ((unhide MX).grew KT)
          clear MX KT hcl x0 x1 y0 y1 x9
          have b2x : ((j : Int)).toNat = j := Int.toNat_natCast j
          obtain ⟨x0, x1, y0, y1⟩ := (unhide MY).cells
          have x9 := unhide hX _ (unhide MY).ma.kp
          cases b7
          · have MZ := MY
            clear MY
            go_wp2_with fail
            refine (mused (u := u) (unhide MZ).ma (unhide hr) (unhide MZ).fu).mono ?_
            rintro e WA ⟨rfl, KA⟩
            have MA := hide ((unhide MZ).grew KA)
            obtain ⟨x0, x1, y0, y1⟩ := (unhide MA).cells
            clear MZ KA
            go_wp2_with fail
            refine (mused (u := 0) (unhide MA).ma (unhide ho) (unhide MA).fo).mono ?_
            rintro e WB ⟨rfl, KB⟩
            have MB := hide ((unhide MA).grew KB)
            clear MA KB x0 x1 y0 y1
            go_wp2
            go_roundg (zs.length - (j + 1))
            case measure => omega
            case rel => exact ⟨j + 1, by omega, u, _, rfl, rfl, by go_num, by omega, unhide MB⟩
          · go_wp2_with fail
            refine (mreset (unhide MY).ma (unhide hr)).mono ?_
            rintro e WR ⟨rfl, MR, TR⟩
            have MZ := hide ((unhide MY).reset TR MR)
            clear MY x0 x1 y0 y1 x9
            obtain ⟨x0, x1, y0, y1⟩ := (unhide MZ).cells
            go_wp2_with fail
            refine (mused (u := 0) (unhide MZ).ma (unhide hr) (unhide MZ).fu).mono ?_
            rintro e WA ⟨rfl, KA⟩
            have MA := hide ((unhide MZ).grew KA)
            obtain ⟨x0, x1, y0, y1⟩ := (unhide MA).cells
            clear MZ KA
            go_wp2_with fail
            refine (mused (u := 0) (unhide MA).ma (unhide ho) (unhide MA).fo).mono ?_
            rintro e WB ⟨rfl, KB⟩
            have MB := hide ((unhide MA).grew KB)
            clear MA KB x0 x1 y0 y1
            go_wp2
            go_roundg (zs.length - (j + 1))
            case measure => omega
            case rel => exact ⟨j + 1, by omega, 0, _, rfl, rfl, by go_num, by omega, unhide MB⟩
    · have b1 : decide ((j : Int) < (zs.length : Int)) = false := by simp; omega
      obtain ⟨x0, x1, y0, y1⟩ := (unhide MX).cells
      have w1 : IntKind.i64.wrap (S - u) = S - u := by rw [IntKind.wrap_i64]; omega
      have hcl := mtake_no (n := -1) (unhide MX).ma (unhide hr) (unhide MX).fu w1 (.inl (by decide))
      replace hcl := hide hcl
      go_wp2_with fail
      refine (unhide hcl).mono ?_
      rintro e WT ⟨rfl, KT⟩
      have MY := hide ((unhide MX).grew KT)
      clear MX KT hcl x0 x1 y0 y1
      go_wp2
      go_ret
      exact ⟨rfl, (unhide MY).ma.kp.below (Nat.le_refl _) (by simp)⟩
theorem marks_walk (size : Int) (a : Option Addr) (len cap : Nat) (zs : List Int) (w : World) (_ : (Lit.int .i64 size).wf = true) (hl : zs.length = len) (hI : Ints .i64 w a zs) :
    Calls Try.prog 5 #[.int .i64 size, .slice a len cap] w fun e w' => e = .returned (.bool true) ∧ Below w.heap.size w w' := by
  subst hl
  by_cases h : zs.length ≤ 30
  · exact marks_in size a cap zs w h hI
  · exact marks_long size a zs.length cap w (by omega)
end Go.Proofs.Ythjhpcbhkcmghaa
