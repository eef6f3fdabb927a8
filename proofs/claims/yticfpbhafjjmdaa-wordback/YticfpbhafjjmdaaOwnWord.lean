/- What each function of package word that has no slice among its arguments does, and what the statements' own small helpers do. -/
import Derived.Test.YticfpbhafjjmdaaRows
import Derived.Test.YticfpbhafjjmdaaOwnMath
import Derived.WalkKit
import Derived.WalkSpells
import Derived.WalkLawsBesides
import Derived.OpenShut
import Derived.Deep.QuietTactic
import Derived.BigQuiet
namespace Go.Proofs.Yticfpbhafjjmdaa
open Go.RowKit
theorem ret_int {k : IntKind} {a b : Int} (h : a = b) : Ending.returned (.int k a) = .returned (.int k b) := by rw [h]
theorem ret_bool {a b : Bool} (h : a = b) : Ending.returned (.bool a) = .returned (.bool b) := by rw [h]

set_option maxHeartbeats 400000 in
theorem signed_calls (n : Int) (w : World) :
    Calls Try.prog 22 #[.int .u32 n] w fun e w' => e = .returned (.int .i32 (wrap32 n)) ∧ w' = w := by
  go_enter Try.func22, Try.ntmps22
  go_wp2
  go_ret
  exact ⟨rfl, rfl⟩
set_option maxHeartbeats 400000 in
theorem dist_calls (a b : Int) (w : World) :
    Calls Try.prog 23 #[.int .u32 a, .int .u32 b] w fun e w' => e = .returned (.int .u32 ((a - b) % 4294967296)) ∧ w' = w := by
  go_enter Try.func23, Try.ntmps23
  go_wp2
  go_ret
  exact ⟨rfl, rfl⟩
set_option maxHeartbeats 400000 in
theorem width_calls (s bits : Int) (w : World) :
    Calls Try.prog 30 #[.int .i64 s, .int .i64 bits] w fun e w' => e = .returned (.int .i64 (widthOf s bits)) ∧ w' = w := by
  go_enter Try.func30, Try.ntmps30
  go_wp2
  all_goals (go_ret; exact ⟨ret_int (by unfold widthOf; split <;> (try split) <;> omega), rfl⟩)
set_option maxHeartbeats 400000 in
theorem lowest_calls (n : Int) (w : World) (h0 : 0 ≤ n) (h1 : n ≤ 32) :
    Calls Try.prog 31 #[.int .i64 n] w fun e w' => e = .returned (.int .u32 ((2 ^ n.toNat - 1) % 4294967296)) ∧ w' = w := by
  go_enter Try.func31, Try.ntmps31
  go_wp2
  go_ret
  exact ⟨ret_int (by omega), rfl⟩
set_option maxHeartbeats 400000 in
theorem field_calls (n s bits : Int) (w : World) (h0 : 0 ≤ n) (h1 : n < 4294967296) :
    Calls Try.prog 18 #[.int .u32 n, .int .i64 s, .int .i64 bits] w fun e w' => e = .returned (.int .u32 ((fldN n.toNat s.toNat (widthOf s bits).toNat : Nat) : Int)) ∧ ∃ k, w' = w.drewN k := by
  have hb := widthOf_bd s bits
  by_cases hz : widthOf s bits = 0
  · have hz' : (widthOf s bits == 0) = true := by simp [hz]
    have HF : Hid ((0 : Int) = ((fldN n.toNat s.toNat (widthOf s bits).toNat : Nat) : Int)) := by rw [hz]; exact (congrArg Int.ofNat (fldN_none n.toNat s.toNat)).symm
    clear hz
    go_enter Try.func18, Try.ntmps18
    go_wp2_with (go_at_call 30; refine (width_calls _ _ _).mono ?_; rintro e w' ⟨rfl, rfl⟩)
    go_ret
    exact ⟨ret_int HF.out, 0, rfl⟩
  · have hz' : (widthOf s bits == 0) = false := by simp [hz]
    have hs := hb.2.2 (by omega)
    clear hz
    have HF := hide (field_walk n s (widthOf s bits).toNat h0 h1 (by omega))
    go_enter Try.func18, Try.ntmps18
    go_wp2_with (go_at_call 30; refine (width_calls _ _ _).mono ?_; rintro e w' ⟨rfl, rfl⟩)
    go_quiet ((go_at_call 31; exact Calls.quiet_of_same (lowest_calls _ _ (by omega) (by omega))))
    go_wp2
    go_ret
    exact ⟨ret_int (unhide HF), _, rfl⟩
set_option maxHeartbeats 400000 in
theorem set_calls (n s bits v : Int) (w : World) (h0 : 0 ≤ n) (h1 : n < 4294967296) (g0 : 0 ≤ v) (g1 : v < 4294967296) :
    Calls Try.prog 20 #[.int .u32 n, .int .i64 s, .int .i64 bits, .int .u32 v] w fun e w' => e = .returned (.int .u32 (if widthOf s bits = 0 then n else ((setN n.toNat s.toNat (widthOf s bits).toNat v.toNat : Nat) : Int))) ∧ ∃ k, w' = w.drewN k := by
  have hb := widthOf_bd s bits
  by_cases hz : widthOf s bits = 0
  · have hz' : (widthOf s bits == 0) = true := by simp [hz]
    rw [if_pos hz]
    clear hz
    go_enter Try.func20, Try.ntmps20
    go_wp2_with (go_at_call 30; refine (width_calls _ _ _).mono ?_; rintro e w' ⟨rfl, rfl⟩)
    go_ret
    exact ⟨rfl, 0, rfl⟩
  · have hz' : (widthOf s bits == 0) = false := by simp [hz]
    rw [if_neg hz]
    have hs := hb.2.2 (by omega)
    clear hz
    have HF := hide (set_walk n v s.toNat (widthOf s bits).toNat h0 h1 g0 g1 (by omega))
    go_enter Try.func20, Try.ntmps20
    go_wp2_with (first | (go_at_call 30; refine (width_calls _ _ _).mono ?_; rintro e w' ⟨rfl, rfl⟩) | (go_at_call 31; refine (lowest_calls _ _ (by omega) (by omega)).mono ?_; rintro e w' ⟨rfl, rfl⟩))
    go_quiet (fail)
    go_wp2
    go_ret
    exact ⟨ret_int (unhide HF), _, rfl⟩
set_option maxHeartbeats 400000 in
theorem first_calls (w : World) :
    Calls Try.prog 8 #[] w fun e w' => e = .returned (.bool true) ∧ ∃ k, w' = w.drewN k := by
  have hw : widthOf 4 8 = 8 := by decide
  have hf : fldN 4660 4 8 = 35 := by decide
  have hm : wrap32 4294967295 = -1 := by unfold wrap32; decide
  go_enter Try.func8, Try.ntmps8
  go_wp2_with fail
  refine (field_calls _ _ _ _ (by omega) (by omega)).mono ?_
  rintro e w' ⟨rfl, k, rfl⟩
  go_wp2_with (first | (go_at_call 22; refine (signed_calls _ _).mono ?_; rintro e w' ⟨rfl, rfl⟩) | (go_at_call 23; refine (dist_calls _ _ _).mono ?_; rintro e w' ⟨rfl, rfl⟩))
  go_ret
  exact ⟨rfl, k, rfl⟩
set_option maxHeartbeats 400000 in
theorem number_calls (n d : Int) (w : World) (hd : 0 < d) (hm : d ≤ 4294967296) :
    Calls Try.prog 25 #[.int .i64 n, .int .i64 d] w fun e w' => e = .returned (.int .i64 (n % d)) ∧ w' = w := by
  have HW := hide (number_walk n d hd)
  have hb1 : n.tmod d < d := Int.tmod_lt_of_pos n hd
  have hb2 : -d < n.tmod d := Int.lt_tmod_of_pos n hd
  go_enter Try.func25, Try.ntmps25
  go_wp2
  · go_ret
    exact ⟨ret_int ((if_pos ‹n.tmod d < 0›).symm.trans (unhide HW)), rfl⟩
  · go_ret
    exact ⟨ret_int ((if_neg (Int.not_lt.2 ‹0 ≤ n.tmod d›)).symm.trans (unhide HW)), rfl⟩
end Go.Proofs.Yticfpbhafjjmdaa
