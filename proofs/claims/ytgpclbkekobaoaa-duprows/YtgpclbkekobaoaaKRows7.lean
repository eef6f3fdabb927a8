/- The walk of DupRows. -/
import Derived.Test.YtgpclbkekobaoaaKRowsM7
import Derived.Test.YtgpclbkekobaoaaKArgs
import Derived.Test.YtgpclbkekobaoaaKRef
import Derived.Deep.DeepCutAuto
import Derived.Deep.CutBlock
namespace Go.Proofs.Ytgpclbkekobaoaa
open Go.RowKit
set_option linter.unusedVariables false
set_option maxRecDepth 8000 in
set_option maxHeartbeats 4000000 in
theorem rows_in (b off cap : Nat) (zs : List Int) (w : World) (h5 : zs.length ≤ 15) (hI : ∀ i, i < zs.length → w.cell? ⟨b, off + i, none⟩ = some (.int .i64 (zs.getD i 0))) (a0 : Option Addr) (ha0 : zs.length = 0 ∨ a0 = some ⟨b, off, none⟩) :
    Calls Try.prog 6 #[.slice a0 zs.length cap] w fun e w' => e = .returned (.bool true) ∧ Below w.heap.size w w' := by
  have x2 : decide (15 < (zs.length : Int)) = false := decide_eq_false (by omega)
  obtain ⟨n, hn⟩ : ∃ n, zs.length = n := ⟨_, rfl⟩
  have hbel := hide (nrow_below (wsF zs) n (by omega))
  obtain ⟨hp0, hi0⟩ := rows_first zs
  have hcopy : Hid (∀ i, i < 15 → ∀ r, zs.getD i 0 % 8 = r → copyC (nrow (wsF zs) (i + 1)) 1 i 1 ((i : Int) + 1) r = 0 ∧ copyL (nrow (wsF zs) (i + 1)) 1 i 1 ((i : Int) + 1) r = nrow (wsF zs) (i + 2)) := fun i h r hr => nrow_copy zs i h hr
  rw [hn] at h5 hI x2 ha0 ⊢
  replace hI := hide hI
  replace ha0 := hide ha0
  replace hp0 := hide hp0
  replace hi0 := hide hi0
  clear hn
  go_enter Try.func6, Try.ntmps6
  go_wp2_with fail
  refine (first_calls _).mono ?_
  rintro e W0 ⟨rfl, K0⟩
  have X0 := hide (TabIn.of (T := []) (w := w) K0 rfl (Kp.refl [] _))
  obtain ⟨t, et⟩ : ∃ t, W0.heap.size = t := ⟨_, rfl⟩
  rw [et] at X0
  clear K0
  go_wp2_with fail
  generalize W0.alloc (.cells #[.map none] 27) = W1 at *
  clear et
  refine (tput_yes (unhide X0) (pin7 (by decide) (by decide) (by decide) (by decide)) pin_zero (unhide hp0) (by decide) (unhide hi0)).mono ?_
  rintro e W2 ⟨rfl, X2, _⟩
  replace X2 := hide X2
  clear X0
  go_wp2_with fail
  go_loopg [5, 6] n (fun m v i wx => ∃ j : Nat, m = n - j ∧ j ≤ n ∧ v = .int .i64 (wsF zs j) ∧ i = .int .i64 (j : Int) ∧ TabIn w t (nrow (wsF zs) (j + 1)) wx)
  case atStart => exact ⟨0, rfl, by omega, rfl, rfl, unhide X2⟩
  case round =>
    obtain ⟨j, rfl, hj, rfl, rfl, hT⟩ := hrel
    clear X2
    by_cases hlt : j < n
    · have ea : a0 = some ⟨b, off, none⟩ := (unhide ha0).resolve_left (by omega)
      subst ea
      have b1 : (j : Int) < (n : Int) := by omega
      have tj : ((j : Int)).toNat = j := Int.toNat_natCast j
      have c0 := hT.kp.cell (unhide hI j hlt)
      obtain ⟨r, hr⟩ : ∃ r, zs.getD j 0 % 8 = r := ⟨_, rfl⟩
      have br : 0 ≤ r ∧ r < 8 := by omega
      obtain ⟨zj, ezj⟩ : ∃ x, zs.getD j 0 = x := ⟨_, rfl⟩
      obtain ⟨hc, hl⟩ := unhide hcopy j (by omega) r hr
      obtain ⟨v, ev⟩ : ∃ v, wsF zs j = v := ⟨_, rfl⟩
      obtain ⟨y, ey⟩ : ∃ y, wsF zs (j + 1) = y := ⟨_, rfl⟩
      have hvb := wsF_bd zs j
      have hand : bits .and .i64 v r = y := by rw [← ev, ← ey, less_and hvb br, ← hr]; rfl
      have hget := nrow_new (wsF zs) j (by omega)
      rw [ey] at hget
      rw [ezj] at c0 hr
      rw [ev]
      have hin : Hid (PIn (1, (j : Int) + 1)) := pin7 (by omega) (by omega) (by omega) (by omega)
      have hin0 : Hid (PIn (1, (j : Int))) := pin7 (by omega) (by omega) (by omega) (by omega)
      have hlen : Hid ((nrow (wsF zs) (j + 1)).length < 65536) := by rw [nrow_len]; unfold Hid; omega
      have hpar : Hid (parO (lookS (nrow (wsF zs) (j + 2)) 1 ((j : Int) + 1)) = .agg #[.int .i64 1, .int .i64 (j : Int)]) := by rw [hget]; rfl
      have hcap : Hid (capO (lookS (nrow (wsF zs) (j + 2)) 1 ((j : Int) + 1)) = .agg #[.int .i64 5, .int .i64 3, .int .i64 0, .int .i64 0, .int .i64 y] ∧ (lookS (nrow (wsF zs) (j + 2)) 1 ((j : Int) + 1)).isSome = true) := by rw [hget]; exact ⟨rfl, rfl⟩
      replace hr := hide hr
      replace hc := hide hc
      replace hl := hide hl
      replace hT := hide hT
      replace ev := hide ev
      replace ey := hide ey
      clear hget ezj hvb
      go_wp2_with fail
      refine (number_to _ _ _ _ (by omega) (by omega) (unhide hr)).mono ?_
      rintro e w' ⟨rfl, rfl⟩
      clear c0
      have X3 := hide ((unhide hT).grew ((Kp.refl [] w').alloc (.cells #[.int .i64 1, .int .i64 ((j : Int) + 1)] 35)))
      have B3 := hide (Bk.new w' 35 [.int .i64 1, .int .i64 ((j : Int) + 1)])
      obtain ⟨B, eB⟩ : ∃ B, w'.heap.size = B := ⟨_, rfl⟩
      rw [eB] at B3
      go_wp2_with fail
      generalize w'.alloc (.cells #[.int .i64 1, .int .i64 ((j : Int) + 1)] 35) = W3 at *
      clear eB hT
      refine (dcopy (unhide X3) (unhide hin0) (unhide hin) (in7 (by omega) (by omega)) (unhide hlen) (unhide hc) (unhide hl)).mono ?_
      rintro e W4 ⟨rfl, X4, T4⟩
      obtain ⟨m3, hm3, _⟩ := (unhide X3).tab
      have B4 := hide (T4.bk (unhide B3) ((unhide B3).apart hm3.head (by decide)))
      replace X4 := hide X4
      clear T4 hm3 X3 B3
      have q0 := (unhide B4).cell (i := 0) rfl
      have q1 := (unhide B4).cell (i := 1) rfl
      go_wp2_with fail
      refine (tget (unhide X4) (unhide hin)).mono ?_
      rw [(unhide hcap).1, (unhide hcap).2]
      rintro e W5 ⟨rfl, K5⟩
      have X6 := hide ((unhide X4).grew (K5.alloc (.cells #[.int .i64 5, .int .i64 3, .int .i64 0, .int .i64 0, .int .i64 y] 37)))
      have B6 := hide (((unhide B4).kept K5 (by simp)).alloc (.cells #[.int .i64 5, .int .i64 3, .int .i64 0, .int .i64 0, .int .i64 y] 37))
      clear K5 X4 B4 q0 q1
      have q0 := (unhide B6).cell (i := 0) rfl
      have q1 := (unhide B6).cell (i := 1) rfl
      go_wp2_with fail
      refine (tparent (unhide X6) (unhide hin) (unhide hpar)).mono ?_
      rintro e W7 ⟨rfl, K7⟩
      have X8 := hide ((unhide X6).grew K7)
      clear K7 X6 B6 q0 q1
      go_wp2
      go_roundg (n - (j + 1))
      case measure => omega
      case rel => exact ⟨j + 1, rfl, by omega, by rw [← unhide ey], by go_num, unhide X8⟩
    · have b1 : decide ((j : Int) < (n : Int)) = false := by simp; omega
      obtain rfl : j = n := by omega
      replace hT := hide hT
      go_wp2_with fail
      refine (tbelow (unhide hT) (pin7 (by decide) (by decide) (by decide) (by decide))).mono ?_
      rintro e W4 ⟨v4, rfl, P4, K4⟩
      obtain ⟨a4, c4, e4⟩ := P4.form
      rw [unhide hbel] at e4
      subst e4
      have X5 := hide ((unhide hT).grew K4)
      clear P4 K4 hT
      go_wp2
      go_ret
      exact ⟨rfl, (unhide X5).kp.below (Nat.le_refl _) (by simp)⟩
set_option maxRecDepth 8000 in
set_option maxHeartbeats 1000000 in
theorem rows_out (a : Option Addr) (len cap : Nat) (w : World) (h : 15 < len) (hl : len ≤ 9223372036854775807) :
    Calls Try.prog 6 #[.slice a len cap] w fun e w' => e = .returned (.bool true) ∧ Below w.heap.size w w' := by
  have x2 : decide (15 < (len : Int)) = true := decide_eq_true (by omega)
  go_enter Try.func6, Try.ntmps6
  go_wp2_with fail
  refine (first_calls _).mono ?_
  rintro e W0 ⟨rfl, K0⟩
  replace K0 := hide K0
  go_wp2
  go_ret
  exact ⟨rfl, (unhide K0).below (Nat.le_refl _) (by simp)⟩
theorem rows_walk (a : Option Addr) (len cap : Nat) (zs : List Int) (w : World) (hl : zs.length = len) (hI : Ints .i64 w a zs) :
    Calls Try.prog 6 #[.slice a len cap] w fun e w' => e = .returned (.bool true) ∧ Below w.heap.size w w' := by
  subst hl
  by_cases h : 15 < zs.length
  · exact rows_out a _ cap w h hI.1
  · obtain ⟨_, _, z1 | ⟨b1, o1, e, k1⟩⟩ := hI
    · exact rows_in 0 0 cap zs w (by omega) (fun i hi => by omega) a (.inl z1)
    · exact rows_in b1 o1 cap zs w (by omega) k1 a (.inr e)
end Go.Proofs.Ytgpclbkekobaoaa
