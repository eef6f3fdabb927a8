/- The program's table: places that may be, free ones; Get and Parent. -/
import Derived.Test.YtjjgjgncnifjmaaKSlots
namespace Go.Proofs.Ytjjgjgncnifjmaa
open Go.RowKit
set_option linter.unusedVariables false
def isN (n s : Int) : Bool := n == 0 && s == 0
set_option maxHeartbeats 400000 in
theorem isnone_calls (n s : Int) (w : World) :
    Calls Try.prog 30 #[.agg #[.int .i64 n, .int .i64 s]] w fun e w' => e = .returned (.bool (isN n s)) ∧ Kp [] w w' := by
  have K0 := hide ((Kp.refl [] w).alloc (.cells #[.int .i64 n, .int .i64 s] 40))
  unfold isN
  by_cases e1 : n = 0
  · by_cases e2 : s = 0
    · subst e1 e2
      go_enter Try.func30, Try.ntmps30
      go_wp2
      go_ret
      exact ⟨ret_bool (by simp), (unhide K0)⟩
    · have e2' : (s == 0) = false := beq_eq_false_iff_ne.2 e2
      subst e1
      go_enter Try.func30, Try.ntmps30
      go_wp2
      go_ret
      exact ⟨ret_bool (by simp [e2]), (unhide K0)⟩
  · have e1' : (n == 0) = false := beq_eq_false_iff_ne.2 e1
    go_enter Try.func30, Try.ntmps30
    go_wp2
    go_ret
    exact ⟨ret_bool (by simp [e1]), (unhide K0)⟩
set_option maxHeartbeats 400000 in
theorem canbe_calls (n s : Int) (w : World) :
    Calls Try.prog 40 #[.agg #[.int .i64 n, .int .i64 s]] w fun e w' => e = .returned (.bool (placeOk n s)) ∧ Kp [] w w' := by
  obtain ⟨v1, h1⟩ : ∃ v, decide (1 ≤ n) = v := ⟨_, rfl⟩
  obtain ⟨v2, h2⟩ : ∃ v, decide (n ≤ 64) = v := ⟨_, rfl⟩
  obtain ⟨v3, h3⟩ : ∃ v, decide (0 ≤ s) = v := ⟨_, rfl⟩
  have HE := hide (show (v1 && (v2 && (v3 && decide (s < 16)))) = placeOk n s from by rw [← h1, ← h2, ← h3]; refine Bool.eq_iff_iff.2 ?_; rw [placeOk_iff]; simp [placeP, and_assoc])
  cases v1
  · clear h2 h3
    go_enter Try.func40, Try.ntmps40
    go_wp2
    go_ret
    exact ⟨ret_bool (unhide HE), (Kp.refl _ _).alloc _⟩
  cases v2
  · clear h3
    go_enter Try.func40, Try.ntmps40
    go_wp2
    go_ret
    exact ⟨ret_bool (unhide HE), (Kp.refl _ _).alloc _⟩
  cases v3 <;>
  · go_enter Try.func40, Try.ntmps40
    go_wp2
    go_ret
    exact ⟨ret_bool (unhide HE), (Kp.refl _ _).alloc _⟩
def freeB (L : List Sl) (n s : Int) : Bool := placeOk n s && !(lookS L n s).isSome
set_option maxHeartbeats 400000 in
theorem free_calls {w : World} {t : Nat} {m : Option Nat} {L : List Sl} (h : PT w t m L) {n s : Int} (hi : PIn (n, s)) :
    Calls Try.prog 28 #[.pointer (some ⟨t, 0, none⟩), .agg #[.int .i64 n, .int .i64 s]] w fun e w' => e = .returned (.bool (freeB L n s)) ∧ Kp [] w w' := by
  obtain ⟨v1, h1⟩ : ∃ v, placeOk n s = v := ⟨_, rfl⟩
  obtain ⟨v2, h2⟩ : ∃ v, (lookS L n s).isSome = v := ⟨_, rfl⟩
  have HE := hide (show freeB L n s = (v1 && !v2) from by unfold freeB; rw [h1, h2])
  have K0 := hide ((Kp.refl [] w).alloc (.cells #[.int .i64 n, .int .i64 s] 40))
  have H := hide h
  replace h1 := hide h1
  replace h2 := hide h2
  have P0 := hide (Bk.new w 40 [.int .i64 n, .int .i64 s])
  clear h
  go_enter Try.func28, Try.ntmps28
  go_wp2_with fail
  refine (canbe_calls n s _).mono ?_
  rintro e W1 ⟨rfl, K1⟩
  have K2 := hide ((unhide K0).then K1)
  have B := (unhide P0).kept K1 (by simp)
  have c0 := B.cell (i := 0) rfl
  have c1 := B.cell (i := 1) rfl
  clear B K1 P0 K0
  rw [unhide h1]
  cases v1
  · go_wp2
    go_ret
    exact ⟨ret_bool (unhide HE).symm, unhide K2⟩
  · go_wp2_with fail
    refine (has_calls ((unhide H).grew (unhide K2)) hi).mono ?_
    rintro e W2 ⟨rfl, K3⟩
    rw [unhide h2]
    have K4 := hide ((unhide K2).then K3)
    clear K3
    go_wp2
    go_ret
    exact ⟨ret_bool (unhide HE).symm, unhide K4⟩
theorem free_to {w : World} {t : Nat} {m : Option Nat} {L : List Sl} (h : PT w t m L) {n s : Int} (hi : PIn (n, s)) {v : Bool} (hv : freeB L n s = v) :
    Calls Try.prog 28 #[.pointer (some ⟨t, 0, none⟩), .agg #[.int .i64 n, .int .i64 s]] w fun e w' => e = .returned (.bool v) ∧ Kp [] w w' := by rw [← hv]; exact free_calls h hi
theorem has_to {w : World} {t : Nat} {m : Option Nat} {L : List Sl} (h : PT w t m L) {n s : Int} (hi : PIn (n, s)) {v : Bool} (hv : (lookS L n s).isSome = v) :
    Calls Try.prog 31 #[.pointer (some ⟨t, 0, none⟩), .agg #[.int .i64 n, .int .i64 s]] w fun e w' => e = .returned (.bool v) ∧ Kp [] w w' := by rw [← hv]; exact has_calls h hi
theorem isnone_to {n s : Int} {w : World} {v : Bool} (hv : isN n s = v) :
    Calls Try.prog 30 #[.agg #[.int .i64 n, .int .i64 s]] w fun e w' => e = .returned (.bool v) ∧ Kp [] w w' := by rw [← hv]; exact isnone_calls n s w
/-- What Get hands out. -/
def capO (o : Option Sl) : Value := match o with | some x => capV x.k x.o x.z x.b x.r | none => capV 0 0 0 0 0
def parO (o : Option Sl) : Value := match o with | some x => .agg #[.int .i64 x.u, .int .i64 x.v] | none => .agg #[.int .i64 0, .int .i64 0]
theorem hv_parts (o : Option Sl) : ∃ k ob z b r u v : Int, hv o = .agg #[.int .i64 k, .int .i64 ob, .int .i64 z, .int .i64 b, .int .i64 r, .int .i64 u, .int .i64 v] ∧ capO o = capV k ob z b r ∧ parO o = .agg #[.int .i64 u, .int .i64 v] := by
  cases o with
  | none => exact ⟨0, 0, 0, 0, 0, 0, 0, rfl, rfl, rfl⟩
  | some x => exact ⟨_, _, _, _, _, _, _, rfl, rfl, rfl⟩
set_option maxHeartbeats 1000000 in
theorem get_calls {w : World} {t : Nat} {m : Option Nat} {L : List Sl} (h : PT w t m L) {n s : Int} (hi : PIn (n, s)) :
    Calls Try.prog 24 #[.pointer (some ⟨t, 0, none⟩), .agg #[.int .i64 n, .int .i64 s]] w fun e w' => e = .returned (.tuple #[capO (lookS L n s), .bool (lookS L n s).isSome]) ∧ Kp [] w w' := by
  obtain ⟨k, ob, z, b, r, u, v, hV, hC, _⟩ := hv_parts (lookS L n s)
  obtain ⟨is, hIs⟩ : ∃ is, (lookS L n s).isSome = is := ⟨_, rfl⟩
  rw [hIs, hC]
  have hS : Hid (∀ w', Kp [] (w.alloc (.cells #[.int .i64 n, .int .i64 s] 40)) w' → w'.cell? ⟨t, 0, none⟩ = some (.map m) ∧ w'.cell? ⟨w.heap.size, 0, none⟩ = some (.int .i64 n) ∧ w'.cell? ⟨w.heap.size, 1, none⟩ = some (.int .i64 s) ∧ (Instr.lookup 48 (.map m) (.agg #[.int .i64 n, .int .i64 s]) true).run Try.prog w' = .ok (.tuple #[.agg #[.int .i64 k, .int .i64 ob, .int .i64 z, .int .i64 b, .int .i64 r, .int .i64 u, .int .i64 v], .bool is]) w') := fun w' K => by
    obtain ⟨B, K1⟩ := kp_box K
    have P1 := h.grew K1
    refine ⟨P1.head.cell rfl, B.cell rfl, B.cell rfl, ?_⟩
    rw [← hV, ← hIs]
    exact P1.look hi true
  have K0 := hide ((Kp.refl [] (w.alloc (.cells #[.int .i64 n, .int .i64 s] 40))).alloc (.cells #[.int .i64 0, .int .i64 0, .int .i64 0, .int .i64 0, .int .i64 0] 24))
  have KW := hide (((Kp.refl [] w).alloc (.cells #[.int .i64 n, .int .i64 s] 40)).alloc (.cells #[.int .i64 0, .int .i64 0, .int .i64 0, .int .i64 0, .int .i64 0] 24))
  clear h hV hIs hC
  go_enter Try.func24, Try.ntmps24
  go_wp2_with fail
  have BR := hide (Bk.next (p := w.heap.size + 1) (w.alloc (.cells #[.int .i64 n, .int .i64 s] 40)) 24 [.int .i64 0, .int .i64 0, .int .i64 0, .int .i64 0, .int .i64 0] (by simp))
  have hw1 : ((w.alloc (.cells #[.int .i64 n, .int .i64 s] 40)).alloc (.cells #[.int .i64 0, .int .i64 0, .int .i64 0, .int .i64 0, .int .i64 0] 24)).heap.size = w.heap.size + 2 := by simp
  generalize (w.alloc (.cells #[.int .i64 n, .int .i64 s] 40)).alloc (.cells #[.int .i64 0, .int .i64 0, .int .i64 0, .int .i64 0, .int .i64 0] 24) = w1 at *
  go_region_held3 (fun w' => w'.cell? ⟨t, 0, none⟩ = some (.map m) ∧ w'.cell? ⟨w.heap.size, 0, none⟩ = some (.int .i64 n) ∧ w'.cell? ⟨w.heap.size, 1, none⟩ = some (.int .i64 s) ∧ (Instr.lookup 48 (.map m) (.agg #[.int .i64 n, .int .i64 s]) true).run Try.prog w' = .ok (.tuple #[.agg #[.int .i64 k, .int .i64 ob, .int .i64 z, .int .i64 b, .int .i64 r, .int .i64 u, .int .i64 v], .bool is]) w') (first | exact unhide hS _ ((unhide K0).drew) | exact unhide hS _ (((unhide K0).alloc _).drew)) (fail)
  all_goals
    have B1 := (unhide BR).alloc (.cells #[.int .i64 k, .int .i64 ob, .int .i64 z, .int .i64 b, .int .i64 r, .int .i64 u, .int .i64 v] 68)
    have f0 := (unhide BR).frozen
    have e0 := (unhide BR).cell (i := 0) rfl
    have e1 := (unhide BR).cell (i := 1) rfl
    have e2 := (unhide BR).cell (i := 2) rfl
    have e3 := (unhide BR).cell (i := 3) rfl
    have e4 := (unhide BR).cell (i := 4) rfl
    clear B1
    go_wp2
    refine bodyPost_ret (v := .tuple #[capV k ob z b r, .bool is]) (by simp [results, Try.results24, go_sem, *]) rfl ⟨rfl, ?_⟩
    exact ((five (unhide KW) (by simp) _ _ _ _ _).alloc _).drew
end Go.Proofs.Ytjjgjgncnifjmaa
