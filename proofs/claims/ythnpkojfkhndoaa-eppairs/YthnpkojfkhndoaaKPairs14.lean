/- The walk of EpPairs. -/
import Derived.Test.YthnpkojfkhndoaaKTw14
import Derived.Test.YthnpkojfkhndoaaKRef
import Derived.Deep.DeepCutAuto
namespace Go.Proofs.Ythnpkojfkhndoaa
open Go.RowKit
set_option linter.unusedVariables false
set_option linter.unusedSimpArgs false
theorem bools_e {w w' : World} {a : Option Addr} {zs : List Bool} (h : Bools w a zs) (k : Kp [] w w') {j : Nat} (hj : j < zs.length) : ∃ b off, a = some ⟨b, off, none⟩ ∧ w'.cell? ⟨b, off + j, none⟩ = some (.bool (zs.getD j false)) := by
  obtain ⟨_, hz | ⟨b, off, rfl, hc⟩⟩ := h
  · omega
  · exact ⟨b, off, rfl, k.cell (hc j hj)⟩
/-- The messages numbered from b on, so many; those that receive, likewise. -/
def mk14 (i : Nat) : Ms := (1, (i : Int), (i : Int), 0, false)
def rk14 (i : Nat) : Rc := (2, (i : Int), (i : Int))
def pS (b n : Nat) : List Ms := (List.range' b n).map mk14
def pR (a n : Nat) : List Rc := (List.range' a n).map rk14
theorem pS_cons (b n : Nat) : pS b (n + 1) = mk14 b :: pS (b + 1) n := by unfold pS; rw [List.range'_succ]; rfl
theorem pR_cons (a n : Nat) : pR a (n + 1) = rk14 a :: pR (a + 1) n := by unfold pR; rw [List.range'_succ]; rfl
theorem pS_snoc (b n : Nat) : pS b (n + 1) = pS b n ++ [mk14 (b + n)] := by unfold pS; rw [List.range'_1_concat]; simp
theorem pR_snoc (a n : Nat) : pR a (n + 1) = pR a n ++ [rk14 (a + n)] := by unfold pR; rw [List.range'_1_concat]; simp
theorem pS_len (b n : Nat) : (pS b n).length = n := by simp [pS]
theorem pR_len (b n : Nat) : (pR b n).length = n := by simp [pR]
set_option maxRecDepth 4000 in
set_option maxHeartbeats 400000 in
theorem epairs_long (a0 : Option Addr) (len cap : Nat) (w : World) (hl : 40 < len) :
    Calls Try.prog 4 #[.slice a0 len cap] w fun e w' => e = .returned (.bool true) ∧ Below w.heap.size w w' := by
  have h2 : (40 : Int) < (len : Int) := by omega
  clear hl
  go_enter Try.func4, Try.ntmps4
  go_wp2_with fail
  refine (first_calls _).mono ?_
  rintro e W0 ⟨rfl, K0⟩
  go_wp2
  go_ret
  exact ⟨rfl, K0.below (Nat.le_refl _) (by simp)⟩
set_option maxRecDepth 10000 in
set_option maxHeartbeats 20000000 in
theorem epairs_in (a0 : Option Addr) (len cap : Nat) (zs : List Bool) (w : World) (hl : len ≤ 40) (hz : zs.length = len) (hB : Bools w a0 zs) :
    Calls Try.prog 4 #[.slice a0 len cap] w fun e w' => e = .returned (.bool true) ∧ Below w.heap.size w w' := by
  have h2 : decide ((40 : Int) < (len : Int)) = false := decide_eq_false (by omega)
  have HB := hide hB
  replace hz := hide hz
  clear hB
  go_enter Try.func4, Try.ntmps4
  go_wp2_with fail
  refine (first_calls _).mono ?_
  rintro e W0 ⟨rfl, K0⟩
  obtain ⟨t, et⟩ : ∃ t, W0.heap.size = t := ⟨_, rfl⟩
  have X0 := hide (Tp.start K0 et)
  clear K0
  go_wp2_with fail
  generalize W0.alloc (.cells #[.slice none 0 0, .int .i64 0, .slice none 0 0, .int .i64 0] 31) = W1 at *
  go_loopg [5, 6, 7, 8] len (fun m p q r i wr => ∃ (j a b c : Nat), j ≤ len ∧ m = len - j ∧ p = .int .i64 a ∧ q = .int .i64 b ∧ r = .int .i64 c ∧ i = .int .i64 j ∧ a + b = j ∧ c = min a b ∧ Tp w t (pS b (a - b)) (pR a (b - a)) [] wr)
  case atStart => exact ⟨0, 0, 0, 0, Nat.zero_le _, by omega, rfl, rfl, rfl, rfl, rfl, rfl, unhide X0⟩
  case round =>
    obtain ⟨j, a, b, c, hj, rfl, rfl, rfl, rfl, rfl, hab, hc0, hT⟩ := hrel
    have hc := hide hc0
    clear hc0
    have hcb : c ≤ 40 := by have := unhide hc; omega
    clear X0
    by_cases hlt : j < len
    · have b1 : (j : Int) < (len : Int) := by omega
      have b2 : ((j : Int)).toNat = j := Int.toNat_natCast j
      obtain ⟨g, off, ea, d0⟩ := bools_e (unhide HB) hT.kp (j := j) (by rw [unhide hz]; exact hlt)
      subst ea
      obtain ⟨v, hv⟩ : ∃ v, zs.getD j false = v := ⟨_, rfl⟩
      rw [hv] at d0
      clear hv
      cases v with
      | true =>
        have hi : Hid (IdW 1 (a : Int)) := idW_of (by decide) (by omega)
        by_cases hba : a < b
        · obtain ⟨n, hn⟩ : ∃ n, b - a = n + 1 := ⟨b - a - 1, by omega⟩
          have e0 : a - b = 0 := by omega
          rw [hn, pR_cons, e0] at hT
          have g1 : (a : Int) < (b : Int) := by omega
          have hne : ∀ w', (binOp .neq 39 (.agg #[.int .i64 2, .int .i64 (a : Int)]) (.agg #[.int .i64 2, .int .i64 (a : Int)])).run Try.prog w' = .ok (.bool false) w' := fun w' => by rw [neqi]; simp
          replace hT := hide hT
          go_wp2_with fail
          refine (Tp.prog (unhide hT) (fun F h => esend_yes h (unhide hi) (a : Int) 0 false)).mono ?_
          rintro e W3 ⟨rfl, X3⟩
          have Z3 := hide (X3.box 42 [.int .i64 2, .int .i64 (a : Int), .int .i64 (a : Int)])
          have p0 := ((unhide Z3).bk (List.mem_cons_self ..)).cell (i := 0) rfl
          have p1 := ((unhide Z3).bk (List.mem_cons_self ..)).cell (i := 1) rfl
          clear hT X3 d0
          go_wp2
          go_roundg (len - (j + 1))
          case measure => omega
          case rel =>
            refine ⟨j + 1, a + 1, b, c + 1, by omega, rfl, by go_num, rfl, by go_num, by go_num, by omega, by have := unhide hc; omega, ?_⟩
            have e1 : b - (a + 1) = n := by omega
            have e2 : a + 1 - b = 0 := by omega
            rw [e1, e2]
            exact (unhide Z3).bare
        · have e0 : b - a = 0 := by omega
          rw [e0] at hT
          have g1 : decide ((a : Int) < (b : Int)) = false := decide_eq_false (by omega)
          replace hT := hide hT
          go_wp2_with fail
          refine (Tp.prog (unhide hT) (fun F h => esend_no (S := pS b (a - b)) h (by rw [pS_len]; omega) (unhide hi) (a : Int) 0 false)).mono ?_
          rintro e W3 ⟨rfl, X3⟩
          have Z3 := hide (X3.box 42 [.int .i64 0, .int .i64 0, .int .i64 0])
          clear hT X3 d0
          go_wp2
          go_roundg (len - (j + 1))
          case measure => omega
          case rel =>
            refine ⟨j + 1, a + 1, b, c, by omega, rfl, by go_num, rfl, rfl, by go_num, by omega, by have := unhide hc; omega, ?_⟩
            have e1 : a + 1 - b = (a - b) + 1 := by omega
            have e2 : b - (a + 1) = 0 := by omega
            have e3 : b + (a - b) = a := by omega
            rw [e1, e2, pS_snoc, e3]
            exact (unhide Z3).bare
      | false =>
        have hi : Hid (IdW 2 (b : Int)) := idW_of (by decide) (by omega)
        by_cases hba : b < a
        · obtain ⟨n, hn⟩ : ∃ n, a - b = n + 1 := ⟨a - b - 1, by omega⟩
          have e0 : b - a = 0 := by omega
          rw [hn, pS_cons, e0] at hT
          have g1 : (b : Int) < (a : Int) := by omega
          have hne : ∀ w', (binOp .neq 39 (.agg #[.int .i64 1, .int .i64 (b : Int)]) (.agg #[.int .i64 1, .int .i64 (b : Int)])).run Try.prog w' = .ok (.bool false) w' := fun w' => by rw [neqi]; simp
          replace hT := hide hT
          go_wp2_with fail
          refine (Tp.prog (unhide hT) (fun F h => erecv_yes h (unhide hi) (b : Int))).mono ?_
          rintro e W3 ⟨rfl, X3⟩
          have Z3 := hide (X3.box 47 [.int .i64 1, .int .i64 (b : Int), .int .u32 (b : Int), .int .i64 0, .bool false])
          have p0 := ((unhide Z3).bk (List.mem_cons_self ..)).cell (i := 0) rfl
          have p1 := ((unhide Z3).bk (List.mem_cons_self ..)).cell (i := 1) rfl
          have p2 := ((unhide Z3).bk (List.mem_cons_self ..)).cell (i := 2) rfl
          clear hT X3 d0
          go_wp2
          go_roundg (len - (j + 1))
          case measure => omega
          case rel =>
            refine ⟨j + 1, a, b + 1, c + 1, by omega, rfl, rfl, by go_num, by go_num, by go_num, by omega, by have := unhide hc; omega, ?_⟩
            have e1 : a - (b + 1) = n := by omega
            have e2 : b + 1 - a = 0 := by omega
            rw [e1, e2]
            exact (unhide Z3).bare
        · have e0 : a - b = 0 := by omega
          rw [e0] at hT
          have g1 : decide ((b : Int) < (a : Int)) = false := decide_eq_false (by omega)
          replace hT := hide hT
          go_wp2_with fail
          refine (Tp.prog (unhide hT) (fun F h => erecv_no (R := pR a (b - a)) h (by rw [pR_len]; omega) (unhide hi) (b : Int))).mono ?_
          rintro e W3 ⟨rfl, X3⟩
          have Z3 := hide (X3.box 47 [.int .i64 0, .int .i64 0, .int .u32 0, .int .i64 0, .bool false])
          clear hT X3 d0
          go_wp2
          go_roundg (len - (j + 1))
          case measure => omega
          case rel =>
            refine ⟨j + 1, a, b + 1, c, by omega, rfl, rfl, by go_num, rfl, by go_num, by omega, by have := unhide hc; omega, ?_⟩
            have e1 : b + 1 - a = (b - a) + 1 := by omega
            have e2 : a - (b + 1) = 0 := by omega
            have e3 : a + (b - a) = b := by omega
            rw [e1, e2, pR_snoc, e3]
            exact (unhide Z3).bare
    · have b1 : decide ((j : Int) < (len : Int)) = false := decide_eq_false (by omega)
      have m2 : (((pS b (a - b)).length : Nat) : Int) = max ((a : Int) - (b : Int)) 0 := by rw [pS_len]; omega
      have m3 : (((pR a (b - a)).length : Nat) : Int) = max ((b : Int) - (a : Int)) 0 := by rw [pR_len]; omega
      replace hT := hide hT
      by_cases hm : b ≤ a
      · obtain rfl : b = c := by have := unhide hc; omega
        have x1 : max ((b : Int) - (a : Int)) 0 = 0 := by omega
        have x2 : (b : Int) ≤ (a : Int) := by omega
        have x3 : decide ((a : Int) < (b : Int)) = false := decide_eq_false (by omega)
        have x4 : max ((a : Int) - (b : Int)) 0 = (a : Int) - (b : Int) := by omega
        have x5 : (pR a 0).length = 0 := pR_len _ _
        go_wp2_with fail
        all_goals
          refine (Tp.ask (unhide hT) (fun F h => esenders h)).mono ?_
          rintro e W4 ⟨v, rfl, hS4, K4⟩
          obtain ⟨a4, c4, rfl⟩ := hS4.form
          have Z4 := hide ((unhide hT).grew K4)
          clear hT hS4 K4
          go_wp2_with fail
          refine (Tp.ask (unhide Z4) (fun F h => ereceivers h)).mono ?_
          rintro e W5 ⟨v, rfl, hR5, K5⟩
          obtain ⟨a5, c5, rfl⟩ := hR5.form
          have Z5 := hide ((unhide Z4).grew K5)
          clear Z4 hR5 K5
          go_wp2
          go_ret
          exact ⟨rfl, (unhide Z5).kp.below (Nat.le_refl _) (by simp)⟩
      · obtain rfl : a = c := by have := unhide hc; omega
        have x1 : max ((a : Int) - (b : Int)) 0 = 0 := by omega
        have x2 : (a : Int) < (b : Int) := by omega
        have x3 : decide ((b : Int) ≤ (a : Int)) = false := decide_eq_false (by omega)
        have x4 : max ((b : Int) - (a : Int)) 0 = (b : Int) - (a : Int) := by omega
        have x5 : (pS b 0).length = 0 := pS_len _ _
        go_wp2_with fail
        all_goals
          refine (Tp.ask (unhide hT) (fun F h => esenders h)).mono ?_
          rintro e W4 ⟨v, rfl, hS4, K4⟩
          obtain ⟨a4, c4, rfl⟩ := hS4.form
          have Z4 := hide ((unhide hT).grew K4)
          clear hT hS4 K4
          go_wp2_with fail
          refine (Tp.ask (unhide Z4) (fun F h => ereceivers h)).mono ?_
          rintro e W5 ⟨v, rfl, hR5, K5⟩
          obtain ⟨a5, c5, rfl⟩ := hR5.form
          have Z5 := hide ((unhide Z4).grew K5)
          clear Z4 hR5 K5
          go_wp2
          go_ret
          exact ⟨rfl, (unhide Z5).kp.below (Nat.le_refl _) (by simp)⟩
theorem epairs_walk (a0 : Option Addr) (len cap : Nat) (zs : List Bool) (w : World) (hz : zs.length = len) (hB : Bools w a0 zs) :
    Calls Try.prog 4 #[.slice a0 len cap] w fun e w' => e = .returned (.bool true) ∧ Below w.heap.size w w' := by
  by_cases h : len ≤ 40
  · exact epairs_in a0 len cap zs w h hz hB
  · exact epairs_long a0 len cap w (by omega)
end Go.Proofs.Ythnpkojfkhndoaa
