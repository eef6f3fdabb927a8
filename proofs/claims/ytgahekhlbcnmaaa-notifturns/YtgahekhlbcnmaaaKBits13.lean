/- The walk of NotifBits. -/
import Derived.Test.YtgahekhlbcnmaaaKTw13
import Derived.Test.YtgahekhlbcnmaaaKRef
import Derived.Deep.DeepCutAuto
import Derived.Deep.CutBlock
import Derived.Deep.RegionHeld3
namespace Go.Proofs.Ytgahekhlbcnmaaa
open Go.RowKit
set_option linter.unusedVariables false
set_option linter.unusedSimpArgs false
theorem words_n {w w' : World} {a : Option Addr} {zs : List Int} (h : Ints .u32 w a zs) (k : Kp [] w w') {j : Nat} (hj : j < zs.length) : ∃ b off, a = some ⟨b, off, none⟩ ∧ w'.cell? ⟨b, off + j, none⟩ = some (.int .u32 (zs.getD j 0)) := by
  obtain ⟨_, _, hz | ⟨b, off, rfl, hc⟩⟩ := h
  · omega
  · exact ⟨b, off, rfl, k.cell (hc j hj)⟩
theorem bools_n {w w' : World} {a : Option Addr} {zs : List Bool} (h : Bools w a zs) (k : Kp [] w w') {j : Nat} (hj : j < zs.length) : ∃ b off, a = some ⟨b, off, none⟩ ∧ w'.cell? ⟨b, off + j, none⟩ = some (.bool (zs.getD j false)) := by
  obtain ⟨_, hz | ⟨b, off, rfl, hc⟩⟩ := h
  · omega
  · exact ⟨b, off, rfl, k.cell (hc j hj)⟩
/-- A Signal where nobody waits. -/
theorem nsig_none {w wr : World} {t : Nat} {word b s : Int} (h : NIn w t word [] wr) (hs : uor word b = s) :
    Calls Try.prog 11 #[.pointer (some ⟨t, 0, none⟩), .int .u32 b] wr (NsC w t s [] wr (.tuple #[.agg #[.int .i64 0, .int .i64 0], .int .u32 0, .bool false])) := by
  have e : sigW word b [] = false := by unfold sigW; simp
  exact nsignal h e (by unfold sigQ; rw [e]; rfl) (by unfold sigB; rw [e]; rfl) (by unfold sigN; rw [e]; exact hs) (by unfold sigL; rw [e]; rfl)
set_option maxHeartbeats 400000 in
theorem nbits_long (a0 a1 : Option Addr) (len cap len1 cap1 : Nat) (w : World) (hl : 40 < len) :
    Calls Try.prog 5 #[.slice a0 len cap, .slice a1 len1 cap1] w fun e w' => e = .returned (.bool true) ∧ Below w.heap.size w w' := by
  have h2 : (40 : Int) < (len : Int) := by omega
  clear hl
  go_enter Try.func5, Try.ntmps5
  go_wp2_with fail
  refine (first_calls _).mono ?_
  rintro e W0 ⟨rfl, K0⟩
  go_wp2
  go_ret
  exact ⟨rfl, K0.below (Nat.le_refl _) (by simp)⟩
set_option maxRecDepth 10000 in
set_option maxHeartbeats 20000000 in
theorem nbits_in (a0 a1 : Option Addr) (len cap len1 cap1 : Nat) (zs : List Int) (ts : List Bool) (w : World) (hl : len ≤ 40) (hz : zs.length = len) (hI : Ints .u32 w a0 zs) (ht : ts.length = len1) (hB : Bools w a1 ts) :
    Calls Try.prog 5 #[.slice a0 len cap, .slice a1 len1 cap1] w fun e w' => e = .returned (.bool true) ∧ Below w.heap.size w w' := by
  have h2 : decide ((40 : Int) < (len : Int)) = false := decide_eq_false (by omega)
  have HI := hide hI
  have HB := hide hB
  replace hz := hide hz
  replace ht := hide ht
  clear hI hB
  go_enter Try.func5, Try.ntmps5
  go_wp2_with fail
  refine (first_calls _).mono ?_
  rintro e W0 ⟨rfl, K0⟩
  obtain ⟨t, et⟩ : ∃ t, W0.heap.size = t := ⟨_, rfl⟩
  have X0 := hide (NIn.of K0 et.symm (Kp.refl [] _))
  clear K0
  go_wp2_with fail
  generalize W0.alloc (.cells #[.int .u32 0, .map none, .int .i64 0, .int .i64 0] 31) = W1 at *
  go_loopg [7, 8] len (fun m v i wr => ∃ (j : Nat) (wd : Int), j ≤ len ∧ m = len - j ∧ v = .int .u32 wd ∧ i = .int .i64 j ∧ NIn w t wd [] wr)
  case atStart => exact ⟨0, 0, Nat.zero_le _, by omega, rfl, rfl, unhide X0⟩
  case round =>
    obtain ⟨j, wd, hj, rfl, rfl, rfl, hX⟩ := hrel
    clear X0
    by_cases hlt : j < len
    · have b1 : (j : Int) < (len : Int) := by omega
      have b2 : ((j : Int)).toNat = j := Int.toNat_natCast j
      obtain ⟨bb, off, rfl, c0⟩ := words_n (unhide HI) hX.kp (j := j) (by rw [unhide hz]; exact hlt)
      obtain ⟨x, hx⟩ : ∃ x, zs.getD j 0 = x := ⟨_, rfl⟩
      rw [hx] at c0
      have C0 : Hid (∀ w', Kp [] w w' → w'.cell? ⟨bb, off + j, none⟩ = some (.int .u32 x)) := fun w' k => by
        obtain ⟨b', off', ea, c⟩ := words_n (unhide HI) k (j := j) (by rw [unhide hz]; exact hlt)
        cases ea
        rw [hx] at c
        exact c
      obtain ⟨s, hs⟩ : ∃ s, uor wd x = s := ⟨_, rfl⟩
      have hbs : bits .or .u32 wd x = s := hs
      replace hs := hide hs
      replace hX := hide hX
      clear hx
      go_wp2_with fail
      refine (nsig_none (unhide hX) (unhide hs)).mono ?_
      rintro e W3 ⟨rfl, X3, _⟩
      have X4 := hide (X3.grew ((Kp.refl [] W3).alloc (.cells #[.int .i64 0, .int .i64 0] 27)))
      clear X3 hX c0
      have c0 := unhide C0 _ (unhide X4).kp
      go_wp2_with fail
      generalize W3.alloc (.cells #[.int .i64 0, .int .i64 0] 27) = W4 at *
      refine (nword (unhide X4)).mono ?_
      rintro e W5 ⟨rfl, K5⟩
      have X5 := hide ((unhide X4).grew K5)
      clear X4 K5 c0 hbs
      go_upto_region 17 with fail
      by_cases hj1 : j < len1
      · have b3 : (j : Int) < (len1 : Int) := by omega
        obtain ⟨b', off', rfl, c1⟩ := bools_n (unhide HB) (unhide X5).kp (j := j) (by rw [unhide ht]; exact hj1)
        obtain ⟨tv, htv⟩ : ∃ v, ts.getD j false = v := ⟨_, rfl⟩
        rw [htv] at c1
        cases tv with
        | false =>
          go_wp2
          go_roundg (len - (j + 1))
          case measure => omega
          case rel => exact ⟨j + 1, s, by omega, rfl, rfl, by go_num, unhide X5⟩
        | true =>
          by_cases hs0 : s = 0
          · subst hs0
            go_wp2
            go_roundg (len - (j + 1))
            case measure => omega
            case rel => exact ⟨j + 1, 0, by omega, rfl, rfl, by go_num, unhide X5⟩
          · have b4 : (s != 0) = true := bne_iff_ne.2 hs0
            have hs0' := hide hs0
            clear hs0
            go_wp2_with fail
            refine (nwait_yes (unhide X5) 2 (j : Int) (unhide hs0')).mono ?_
            rintro e W6 ⟨rfl, X6, _⟩
            replace X6 := hide X6
            clear X5 c1 b4
            go_wp2_with fail
            refine (nword (unhide X6)).mono ?_
            rintro e W7 ⟨rfl, K7⟩
            have X7 := hide ((unhide X6).grew K7)
            clear X6 K7
            go_wp2
            go_roundg (len - (j + 1))
            case measure => omega
            case rel => exact ⟨j + 1, 0, by omega, rfl, rfl, by go_num, unhide X7⟩
      · have b3 : decide ((j : Int) < (len1 : Int)) = false := decide_eq_false (by omega)
        go_wp2
        go_roundg (len - (j + 1))
        case measure => omega
        case rel => exact ⟨j + 1, s, by omega, rfl, rfl, by go_num, unhide X5⟩
    · have b1 : decide ((j : Int) < (len : Int)) = false := decide_eq_false (by omega)
      replace hX := hide hX
      go_wp2_with fail
      refine (nword (unhide hX)).mono ?_
      rintro e W5 ⟨rfl, K5⟩
      have X5 := hide ((unhide hX).grew K5)
      clear hX K5
      go_wp2_with fail
      refine (nwaits (unhide X5)).mono ?_
      rintro e W6 ⟨v6, rfl, R6, K6⟩
      obtain ⟨a6, c6, rfl⟩ := R6.form
      have X6 := hide ((unhide X5).grew K6)
      clear X5 K6 R6
      simp only [List.length_nil]
      go_wp2
      go_ret
      exact ⟨rfl, (unhide X6).kp.below (Nat.le_refl _) (by simp)⟩
theorem nbits_walk (a0 : Option Addr) (len cap : Nat) (zs : List Int) (a1 : Option Addr) (len1 cap1 : Nat) (ts : List Bool) (w : World) (hz : zs.length = len) (hI : Ints .u32 w a0 zs) (ht : ts.length = len1) (hB : Bools w a1 ts) :
    Calls Try.prog 5 #[.slice a0 len cap, .slice a1 len1 cap1] w fun e w' => e = .returned (.bool true) ∧ Below w.heap.size w w' := by
  by_cases h : len ≤ 40
  · exact nbits_in a0 a1 len cap len1 cap1 zs ts w h hz hI ht hB
  · exact nbits_long a0 a1 len cap len1 cap1 w (by omega)
end Go.Proofs.Ytgahekhlbcnmaaa
