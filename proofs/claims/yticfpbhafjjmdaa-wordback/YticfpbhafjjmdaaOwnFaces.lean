/- The faces of package word over bytes, and the document's own beside them. -/
import Derived.Test.YticfpbhafjjmdaaOwnWrite
namespace Go.Proofs.Yticfpbhafjjmdaa
open Go.RowKit
set_option linter.unusedVariables false
theorem num2_lt {bs : List Nat} (h : Small bs) (p : Int) : numN bs p 2 < 65536 := numN_lt h p 2
theorem num4_lt {bs : List Nat} (h : Small bs) (p : Int) : numN bs p 4 < 4294967296 := numN_lt h p 4
theorem putN_out (bs : List Nat) (p : Int) (n k : Nat) (h : p + k ≤ 0 ∨ (bs.length : Int) ≤ p) : putN bs p n k = bs := by
  induction k with
  | zero => rfl
  | succ k ih => rw [putN, if_neg (by omega), ih (by omega)]
theorem numN_out (bs : List Nat) (p : Int) (k : Nat) (h : p + k ≤ 0 ∨ (bs.length : Int) ≤ p) : numN bs p k = 0 := by
  induction k with
  | zero => rfl
  | succ k ih => rw [numN_snoc, ih (by omega), byteAt_out _ _ (by omega)]; simp

set_option maxHeartbeats 400000 in
theorem u16_calls (a : Option Addr) (cap : Nat) (bs : List Nat) (p : Int) (w : World) (hr : Row w a bs) (hp0 : -9223372036854775808 ≤ p) (hp1 : p ≤ 9223372036854775807) : Calls Try.prog 9 #[.slice a bs.length cap, .int .i64 p] w fun e w' => e = .returned (.int .u16 ((numN bs p 2 : Nat) : Int)) ∧ w' = w := by
  have hb := num2_lt hr.1 p
  have H := hide (num_calls a cap bs p 2 w hr hp0 hp1 (by omega))
  clear hr
  go_enter Try.func9, Try.ntmps9
  go_wp2_with fail
  refine (unhide H).mono ?_
  rintro e w' ⟨rfl, rfl⟩
  go_wp2
  go_ret
  exact ⟨ret_int (by omega), rfl⟩
set_option maxHeartbeats 400000 in
theorem u32_calls (a : Option Addr) (cap : Nat) (bs : List Nat) (p : Int) (w : World) (hr : Row w a bs) (hp0 : -9223372036854775808 ≤ p) (hp1 : p ≤ 9223372036854775807) : Calls Try.prog 11 #[.slice a bs.length cap, .int .i64 p] w fun e w' => e = .returned (.int .u32 ((numN bs p 4 : Nat) : Int)) ∧ w' = w := by
  have H := hide (num_calls a cap bs p 4 w hr hp0 hp1 (by omega))
  clear hr
  go_enter Try.func11, Try.ntmps11
  go_wp2_with fail
  refine (unhide H).mono ?_
  rintro e w' ⟨rfl, rfl⟩
  go_wp2
  go_ret
  exact ⟨rfl, rfl⟩
set_option maxHeartbeats 400000 in
theorem ru16_calls (a : Option Addr) (cap : Nat) (bs : List Nat) (p : Int) (w : World) (hr : Row w a bs) (hp0 : -9223372036854775808 ≤ p) (hp1 : p ≤ 9223372036854775807) : Calls Try.prog 10 #[.slice a bs.length cap, .int .i64 p] w fun e w' => e = .returned (.int .u16 ((numN bs p 2 : Nat) : Int)) ∧ w' = w := by
  have hb := num2_lt hr.1 p
  have H := hide (get_calls a cap bs p 2 w hr hp0 hp1 (by omega))
  clear hr
  go_enter Try.func10, Try.ntmps10
  go_wp2_with fail
  refine (unhide H).mono ?_
  rintro e w' ⟨rfl, rfl⟩
  go_wp2
  go_ret
  exact ⟨ret_int (by omega), rfl⟩
set_option maxHeartbeats 400000 in
theorem ru32_calls (a : Option Addr) (cap : Nat) (bs : List Nat) (p : Int) (w : World) (hr : Row w a bs) (hp0 : -9223372036854775808 ≤ p) (hp1 : p ≤ 9223372036854775807) : Calls Try.prog 12 #[.slice a bs.length cap, .int .i64 p] w fun e w' => e = .returned (.int .u32 ((numN bs p 4 : Nat) : Int)) ∧ w' = w := by
  have H := hide (get_calls a cap bs p 4 w hr hp0 hp1 (by omega))
  clear hr
  go_enter Try.func12, Try.ntmps12
  go_wp2_with fail
  refine (unhide H).mono ?_
  rintro e w' ⟨rfl, rfl⟩
  go_wp2
  go_ret
  exact ⟨rfl, rfl⟩
set_option maxHeartbeats 400000 in
theorem put16_calls (a : Option Addr) (cap : Nat) (bs : List Nat) (p : Int) (n : Nat) (w : World) (hr : Row w a bs) (hp0 : -9223372036854775808 ≤ p) (hp1 : p ≤ 9223372036854775807) (hl : bs.length ≤ 1048576) (hn : n < 65536) : Calls Try.prog 14 #[.slice a bs.length cap, .int .i64 p, .int .u16 (n : Int)] w fun e w' => ∃ g c, e = .returned (.slice (some ⟨g, 0, none⟩) bs.length c) ∧ Owns w.heap.size w' g c (putN bs p n 2) ∧ Below w.heap.size w w' := by
  have H := hide (wput_calls a cap bs p 2 n w hr hl hp0 hp1 (by omega) (by omega))
  clear hr
  go_enter Try.func14, Try.ntmps14
  go_wp2_with fail
  refine (unhide H).mono ?_
  rintro e w' ⟨g, c, rfl, h1, h2⟩
  go_wp2
  go_ret
  exact ⟨g, c, rfl, h1, h2⟩
set_option maxHeartbeats 400000 in
theorem put32_calls (a : Option Addr) (cap : Nat) (bs : List Nat) (p : Int) (n : Nat) (w : World) (hr : Row w a bs) (hp0 : -9223372036854775808 ≤ p) (hp1 : p ≤ 9223372036854775807) (hl : bs.length ≤ 1048576) (hn : n < 4294967296) : Calls Try.prog 16 #[.slice a bs.length cap, .int .i64 p, .int .u32 (n : Int)] w fun e w' => ∃ g c, e = .returned (.slice (some ⟨g, 0, none⟩) bs.length c) ∧ Owns w.heap.size w' g c (putN bs p n 4) ∧ Below w.heap.size w w' := by
  have H := hide (wput_calls a cap bs p 4 n w hr hl hp0 hp1 (by omega) hn)
  clear hr
  go_enter Try.func16, Try.ntmps16
  go_wp2_with fail
  refine (unhide H).mono ?_
  rintro e w' ⟨g, c, rfl, h1, h2⟩
  go_wp2
  go_ret
  exact ⟨g, c, rfl, h1, h2⟩
set_option maxHeartbeats 400000 in
theorem rput16_calls (a : Option Addr) (cap : Nat) (bs : List Nat) (p : Int) (n : Nat) (w : World) (hr : Row w a bs) (hp0 : -9223372036854775808 ≤ p) (hp1 : p ≤ 9223372036854775807) (hl : bs.length ≤ 1048576) (hn : n < 65536) : Calls Try.prog 15 #[.slice a bs.length cap, .int .i64 p, .int .u16 (n : Int)] w fun e w' => ∃ g c, e = .returned (.slice (some ⟨g, 0, none⟩) bs.length c) ∧ Owns w.heap.size w' g c (putN bs p n 2) ∧ Below w.heap.size w w' := by
  have H := hide (rput_calls a cap bs p 2 n w hr hl hp0 hp1 (by omega) (by omega))
  clear hr
  go_enter Try.func15, Try.ntmps15
  go_wp2_with fail
  refine (unhide H).mono ?_
  rintro e w' ⟨g, c, rfl, h1, h2⟩
  go_wp2
  go_ret
  exact ⟨g, c, rfl, h1, h2⟩
set_option maxHeartbeats 400000 in
theorem rput32_calls (a : Option Addr) (cap : Nat) (bs : List Nat) (p : Int) (n : Nat) (w : World) (hr : Row w a bs) (hp0 : -9223372036854775808 ≤ p) (hp1 : p ≤ 9223372036854775807) (hl : bs.length ≤ 1048576) (hn : n < 4294967296) : Calls Try.prog 17 #[.slice a bs.length cap, .int .i64 p, .int .u32 (n : Int)] w fun e w' => ∃ g c, e = .returned (.slice (some ⟨g, 0, none⟩) bs.length c) ∧ Owns w.heap.size w' g c (putN bs p n 4) ∧ Below w.heap.size w w' := by
  have H := hide (rput_calls a cap bs p 4 n w hr hl hp0 hp1 (by omega) hn)
  clear hr
  go_enter Try.func17, Try.ntmps17
  go_wp2_with fail
  refine (unhide H).mono ?_
  rintro e w' ⟨g, c, rfl, h1, h2⟩
  go_wp2
  go_ret
  exact ⟨g, c, rfl, h1, h2⟩
end Go.Proofs.Yticfpbhafjjmdaa
