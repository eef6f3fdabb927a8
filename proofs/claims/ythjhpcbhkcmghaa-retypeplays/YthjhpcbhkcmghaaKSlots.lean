/- The program's table of slots as a list; what stands at a place. -/
import Derived.Test.YthjhpcbhkcmghaaKMap
import Derived.Test.YthjhpcbhkcmghaaKTab7
import Derived.Test.YthjhpcbhkcmghaaKRises
namespace Go.Proofs.Ythjhpcbhkcmghaa
open Go.RowKit
set_option linter.unusedVariables false
/-- What a place holds, as the map has it: the capability, the parent. -/
def holdV (x : Sl) : Value := .agg #[.int .i64 x.k, .int .i64 x.o, .int .i64 x.z, .int .i64 x.b, .int .i64 x.r, .int .i64 x.u, .int .i64 x.v]
def slKV (x : Sl) : (Int × Int) × Value := ((x.n, x.s), holdV x)
def MO (w : World) (m : Option Nat) (L : List Sl) : Prop := match m with | none => L = [] | some b => Mp w b (L.map slKV)
/-- The table at block t, its map m: it has the slots L. -/
structure PT (w : World) (t : Nat) (m : Option Nat) (L : List Sl) : Prop where
  head : Bk w t 27 [.map m]
  mo : MO w m L
  rises : Rises (L.map fun x => (x.n, x.s))
  small : L.length ≤ 65536
  ok : ∀ x ∈ L, placeOk x.n x.s = true
theorem MO.kept {S : List Nat} {w w' : World} {m : Option Nat} {L : List Sl} (h : MO w m L) (k : Kp S w w') (hm : ∀ b, m = some b → b ∉ S) : MO w' m L := by
  cases m with
  | none => exact h
  | some b => exact Mp.kept h k (hm b rfl)
theorem PT.kept {S : List Nat} {w w' : World} {t : Nat} {m : Option Nat} {L : List Sl} (h : PT w t m L) (k : Kp S w w') (ht : t ∉ S) (hm : ∀ b, m = some b → b ∉ S) : PT w' t m L :=
  ⟨h.head.kept k ht, h.mo.kept k hm, h.rises, h.small, h.ok⟩
theorem PT.grew {w w' : World} {t : Nat} {m : Option Nat} {L : List Sl} (h : PT w t m L) (k : Kp [] w w') : PT w' t m L := h.kept k (by simp) (by simp)
theorem PT.lt {w : World} {t : Nat} {m : Option Nat} {L : List Sl} (h : PT w t m L) : ∀ b, m = some b → b < w.heap.size := by
  rintro b rfl
  exact Mp.lt h.mo
theorem PT.ne {w : World} {t : Nat} {m : Option Nat} {L : List Sl} (h : PT w t m L) : ∀ b, m = some b → b ≠ t := by
  rintro b rfl rfl
  obtain ⟨es, clock, hb, _⟩ := h.mo
  have := h.head
  unfold Bk at this
  rw [hb] at this
  cases this
theorem at_hit {L : List Sl} {n s : Int} {i : Nat} {x : Sl} (h : atL L n s = some i) (hx : L[i]? = some x) : ((n, s), holdV x) ∈ L.map slKV := by
  obtain ⟨y, hy, h1, h2⟩ := atL_some h
  rw [hx] at hy
  cases hy
  exact List.mem_map.2 ⟨x, List.mem_of_getElem? hx, by unfold slKV; rw [h1, h2]⟩
theorem at_miss {L : List Sl} {n s : Int} (h : atL L n s = none) : ∀ p ∈ L.map slKV, p.1 ≠ (n, s) := by
  intro p hp e
  obtain ⟨x, hx, rfl⟩ := List.mem_map.1 hp
  unfold atL at h
  have := List.findIdx?_eq_none_iff.1 h x hx
  have e1 : x.n = n := congrArg Prod.fst e
  have e2 : x.s = s := congrArg Prod.snd e
  simp [e1, e2] at this
def hold0 : Value := .agg #[.int .i64 0, .int .i64 0, .int .i64 0, .int .i64 0, .int .i64 0, .int .i64 0, .int .i64 0]
theorem Try.zeroHold (w : World) : (zeroValue 74).run Try.prog w = .ok hold0 w := by kernel_rfl
/-- A look-up, both ways. -/
theorem PT.yes {w : World} {t : Nat} {m : Option Nat} {L : List Sl} (h : PT w t m L) {n s : Int} {i : Nat} {x : Sl} (hn : atL L n s = some i) (hx : L[i]? = some x) (c : Bool) :
    (Instr.lookup 25 (.map m) (.agg #[.int .i64 n, .int .i64 s]) c).run Try.prog w = .ok (lookV c (holdV x) true) w := by
  have hmo := h.mo
  cases m with
  | none => have e : L = [] := hmo; subst e; simp at hx
  | some b => exact Mp.hit hmo Try.underlying25 (at_hit hn hx) c
theorem PT.no {w : World} {t : Nat} {m : Option Nat} {L : List Sl} (h : PT w t m L) {n s : Int} (hi : PIn (n, s)) (hn : atL L n s = none) (c : Bool) :
    (Instr.lookup 25 (.map m) (.agg #[.int .i64 n, .int .i64 s]) c).run Try.prog w = .ok (lookV c hold0 false) w := by
  have hmo := h.mo
  cases m with
  | none => exact look_nil Try.underlying25 (Try.zeroHold w) (q := (n, s)) hi c
  | some b => exact Mp.miss hmo Try.underlying25 (Try.zeroHold w) (q := (n, s)) hi (at_miss hn) c
/-- What a look-up gives, as seven numbers and whether it is there. -/
def seven (a : Int × Int × Int × Int × Int × Int × Int) : Value := .agg #[.int .i64 a.1, .int .i64 a.2.1, .int .i64 a.2.2.1, .int .i64 a.2.2.2.1, .int .i64 a.2.2.2.2.1, .int .i64 a.2.2.2.2.2.1, .int .i64 a.2.2.2.2.2.2]
def lookS (L : List Sl) (n s : Int) : Option Sl := match atL L n s with | some i => L[i]? | none => none
theorem PT.look {w : World} {t : Nat} {m : Option Nat} {L : List Sl} (h : PT w t m L) {n s : Int} (hi : PIn (n, s)) (c : Bool) :
    (Instr.lookup 25 (.map m) (.agg #[.int .i64 n, .int .i64 s]) c).run Try.prog w = .ok (lookV c (match lookS L n s with | some x => holdV x | none => hold0) (lookS L n s).isSome) w := by
  unfold lookS
  cases ha : atL L n s with
  | none => exact h.no hi ha c
  | some i =>
    obtain ⟨x, hx, _⟩ := atL_some ha
    simp only [hx]
    exact h.yes ha hx c
theorem lookS_some {L : List Sl} {n s : Int} {x : Sl} (h : lookS L n s = some x) : x ∈ L ∧ x.n = n ∧ x.s = s := by
  unfold lookS at h
  cases ha : atL L n s with
  | none => rw [ha] at h; cases h
  | some i =>
    rw [ha] at h
    obtain ⟨y, hy, h1, h2⟩ := atL_some ha
    have h' : L[i]? = some x := h
    rw [hy] at h'
    cases h'
    exact ⟨List.mem_of_getElem? hy, h1, h2⟩
theorem lookS_none {L : List Sl} {n s : Int} (h : lookS L n s = none) : atL L n s = none := by
  unfold lookS at h
  cases ha : atL L n s with
  | none => rfl
  | some i =>
    rw [ha] at h
    obtain ⟨y, hy, _⟩ := atL_some ha
    have h' : L[i]? = none := h
    rw [hy] at h'
    cases h'
theorem lookS_at {L : List Sl} {n s : Int} {x : Sl} (h : lookS L n s = some x) : ∃ i, atL L n s = some i ∧ L[i]? = some x := by
  unfold lookS at h
  cases ha : atL L n s with
  | none => rw [ha] at h; cases h
  | some i => rw [ha] at h; exact ⟨i, rfl, h⟩
def hv (o : Option Sl) : Value := match o with | some x => holdV x | none => hold0
theorem hv_form (o : Option Sl) : ∃ k ob z b r u v : Int, hv o = .agg #[.int .i64 k, .int .i64 ob, .int .i64 z, .int .i64 b, .int .i64 r, .int .i64 u, .int .i64 v] := by
  cases o with
  | none => exact ⟨0, 0, 0, 0, 0, 0, 0, rfl⟩
  | some x => exact ⟨_, _, _, _, _, _, _, rfl⟩
theorem kp_box {w w' : World} {n s : Int} (K : Kp [] (w.alloc (.cells #[.int .i64 n, .int .i64 s] 40)) w') : Bk w' w.heap.size 40 [.int .i64 n, .int .i64 s] ∧ Kp [] w w' :=
  ⟨(Bk.new w 40 [.int .i64 n, .int .i64 s]).kept K (by simp), ((Kp.refl [] w).alloc _).then K⟩
set_option maxHeartbeats 1000000 in
theorem has_calls {w : World} {t : Nat} {m : Option Nat} {L : List Sl} (h : PT w t m L) {n s : Int} (hi : PIn (n, s)) :
    Calls Try.prog 32 #[.pointer (some ⟨t, 0, none⟩), .agg #[.int .i64 n, .int .i64 s]] w fun e w' => e = .returned (.bool (lookS L n s).isSome) ∧ Kp [] w w' := by
  obtain ⟨k, ob, z, b, r, u, v, hV⟩ := hv_form (lookS L n s)
  obtain ⟨is, hIs⟩ : ∃ is, (lookS L n s).isSome = is := ⟨_, rfl⟩
  rw [hIs]
  have hS : Hid (∀ w', Kp [] (w.alloc (.cells #[.int .i64 n, .int .i64 s] 40)) w' → w'.cell? ⟨t, 0, none⟩ = some (.map m) ∧ w'.cell? ⟨w.heap.size, 0, none⟩ = some (.int .i64 n) ∧ w'.cell? ⟨w.heap.size, 1, none⟩ = some (.int .i64 s) ∧ (Instr.lookup 25 (.map m) (.agg #[.int .i64 n, .int .i64 s]) true).run Try.prog w' = .ok (.tuple #[.agg #[.int .i64 k, .int .i64 ob, .int .i64 z, .int .i64 b, .int .i64 r, .int .i64 u, .int .i64 v], .bool is]) w') := fun w' K => by
    obtain ⟨B, K1⟩ := kp_box K
    have P1 := h.grew K1
    refine ⟨P1.head.cell rfl, B.cell rfl, B.cell rfl, ?_⟩
    rw [← hV, ← hIs]
    exact P1.look hi true
  have K0 := hide (Kp.refl [] (w.alloc (.cells #[.int .i64 n, .int .i64 s] 40)))
  have KW := hide ((Kp.refl [] w).alloc (.cells #[.int .i64 n, .int .i64 s] 40))
  clear h hV hIs
  go_enter Try.func32, Try.ntmps32
  go_wp2_with fail
  have hw1 : (w.alloc (.cells #[.int .i64 n, .int .i64 s] 40)).heap.size = w.heap.size + 1 := by simp
  generalize w.alloc (.cells #[.int .i64 n, .int .i64 s] 40) = w1 at *
  go_region_held3 (fun w' => w'.cell? ⟨t, 0, none⟩ = some (.map m) ∧ w'.cell? ⟨w.heap.size, 0, none⟩ = some (.int .i64 n) ∧ w'.cell? ⟨w.heap.size, 1, none⟩ = some (.int .i64 s) ∧ (Instr.lookup 25 (.map m) (.agg #[.int .i64 n, .int .i64 s]) true).run Try.prog w' = .ok (.tuple #[.agg #[.int .i64 k, .int .i64 ob, .int .i64 z, .int .i64 b, .int .i64 r, .int .i64 u, .int .i64 v], .bool is]) w') (first | exact unhide hS _ ((unhide K0).drew) | exact unhide hS _ (((unhide K0).alloc _).drew)) (fail)
  all_goals
    go_wp2
    go_ret
    exact ⟨rfl, ((unhide KW).alloc _).drew⟩
def isN (n s : Int) : Bool := n == 0 && s == 0
set_option maxHeartbeats 400000 in
theorem isnone_calls (n s : Int) (w : World) :
    Calls Try.prog 31 #[.agg #[.int .i64 n, .int .i64 s]] w fun e w' => e = .returned (.bool (isN n s)) ∧ Kp [] w w' := by
  have K0 := hide ((Kp.refl [] w).alloc (.cells #[.int .i64 n, .int .i64 s] 40))
  unfold isN
  by_cases e1 : n = 0
  · by_cases e2 : s = 0
    · subst e1 e2
      go_enter Try.func31, Try.ntmps31
      go_wp2
      go_ret
      exact ⟨ret_bool (by simp), (unhide K0)⟩
    · have e2' : (s == 0) = false := beq_eq_false_iff_ne.2 e2
      subst e1
      go_enter Try.func31, Try.ntmps31
      go_wp2
      go_ret
      exact ⟨ret_bool (by simp [e2]), (unhide K0)⟩
  · have e1' : (n == 0) = false := beq_eq_false_iff_ne.2 e1
    go_enter Try.func31, Try.ntmps31
    go_wp2
    go_ret
    exact ⟨ret_bool (by simp [e1]), (unhide K0)⟩
set_option maxHeartbeats 400000 in
theorem canbe_calls (n s : Int) (w : World) :
    Calls Try.prog 48 #[.agg #[.int .i64 n, .int .i64 s]] w fun e w' => e = .returned (.bool (placeOk n s)) ∧ Kp [] w w' := by
  obtain ⟨v1, h1⟩ : ∃ v, decide (1 ≤ n) = v := ⟨_, rfl⟩
  obtain ⟨v2, h2⟩ : ∃ v, decide (n ≤ 64) = v := ⟨_, rfl⟩
  obtain ⟨v3, h3⟩ : ∃ v, decide (0 ≤ s) = v := ⟨_, rfl⟩
  have HE := hide (show (v1 && (v2 && (v3 && decide (s < 16)))) = placeOk n s from by rw [← h1, ← h2, ← h3]; refine Bool.eq_iff_iff.2 ?_; rw [placeOk_iff]; simp [placeP, and_assoc])
  cases v1
  · clear h2 h3
    go_enter Try.func48, Try.ntmps48
    go_wp2
    go_ret
    exact ⟨ret_bool (unhide HE), (Kp.refl _ _).alloc _⟩
  cases v2
  · clear h3
    go_enter Try.func48, Try.ntmps48
    go_wp2
    go_ret
    exact ⟨ret_bool (unhide HE), (Kp.refl _ _).alloc _⟩
  cases v3 <;>
  · go_enter Try.func48, Try.ntmps48
    go_wp2
    go_ret
    exact ⟨ret_bool (unhide HE), (Kp.refl _ _).alloc _⟩
def freeB (L : List Sl) (n s : Int) : Bool := placeOk n s && !(lookS L n s).isSome
set_option maxHeartbeats 400000 in
theorem free_calls {w : World} {t : Nat} {m : Option Nat} {L : List Sl} (h : PT w t m L) {n s : Int} (hi : PIn (n, s)) :
    Calls Try.prog 29 #[.pointer (some ⟨t, 0, none⟩), .agg #[.int .i64 n, .int .i64 s]] w fun e w' => e = .returned (.bool (freeB L n s)) ∧ Kp [] w w' := by
  obtain ⟨v1, h1⟩ : ∃ v, placeOk n s = v := ⟨_, rfl⟩
  obtain ⟨v2, h2⟩ : ∃ v, (lookS L n s).isSome = v := ⟨_, rfl⟩
  have HE := hide (show freeB L n s = (v1 && !v2) from by unfold freeB; rw [h1, h2])
  have K0 := hide ((Kp.refl [] w).alloc (.cells #[.int .i64 n, .int .i64 s] 40))
  have H := hide h
  replace h1 := hide h1
  replace h2 := hide h2
  have P0 := hide (Bk.new w 40 [.int .i64 n, .int .i64 s])
  clear h
  go_enter Try.func29, Try.ntmps29
  go_wp2_with fail
  refine (canbe_calls n s _).mono ?_
  rintro e W1 ⟨rfl, K1⟩
  have K2 := hide ((unhide K0).then K1)
  have B := (unhide P0).kept K1 (by simp)
  have c0 := B.cell (i := 0) rfl
  have c1 := B.cell (i := 1) rfl
  clear B K1 P0 K0
  rw [unhide h1]
  cases v1
  · go_wp2
    go_ret
    exact ⟨ret_bool (unhide HE).symm, unhide K2⟩
  · go_wp2_with fail
    refine (has_calls ((unhide H).grew (unhide K2)) hi).mono ?_
    rintro e W2 ⟨rfl, K3⟩
    rw [unhide h2]
    have K4 := hide ((unhide K2).then K3)
    clear K3
    go_wp2
    go_ret
    exact ⟨ret_bool (unhide HE).symm, unhide K4⟩
theorem free_to {w : World} {t : Nat} {m : Option Nat} {L : List Sl} (h : PT w t m L) {n s : Int} (hi : PIn (n, s)) {v : Bool} (hv : freeB L n s = v) :
    Calls Try.prog 29 #[.pointer (some ⟨t, 0, none⟩), .agg #[.int .i64 n, .int .i64 s]] w fun e w' => e = .returned (.bool v) ∧ Kp [] w w' := by rw [← hv]; exact free_calls h hi
theorem has_to {w : World} {t : Nat} {m : Option Nat} {L : List Sl} (h : PT w t m L) {n s : Int} (hi : PIn (n, s)) {v : Bool} (hv : (lookS L n s).isSome = v) :
    Calls Try.prog 32 #[.pointer (some ⟨t, 0, none⟩), .agg #[.int .i64 n, .int .i64 s]] w fun e w' => e = .returned (.bool v) ∧ Kp [] w w' := by rw [← hv]; exact has_calls h hi
theorem isnone_to {n s : Int} {w : World} {v : Bool} (hv : isN n s = v) :
    Calls Try.prog 31 #[.agg #[.int .i64 n, .int .i64 s]] w fun e w' => e = .returned (.bool v) ∧ Kp [] w w' := by rw [← hv]; exact isnone_calls n s w
/-- What Get hands out. -/
def capO (o : Option Sl) : Value := match o with | some x => capV x.k x.o x.z x.b x.r | none => capV 0 0 0 0 0
def parO (o : Option Sl) : Value := match o with | some x => .agg #[.int .i64 x.u, .int .i64 x.v] | none => .agg #[.int .i64 0, .int .i64 0]
theorem hv_parts (o : Option Sl) : ∃ k ob z b r u v : Int, hv o = .agg #[.int .i64 k, .int .i64 ob, .int .i64 z, .int .i64 b, .int .i64 r, .int .i64 u, .int .i64 v] ∧ capO o = capV k ob z b r ∧ parO o = .agg #[.int .i64 u, .int .i64 v] := by
  cases o with
  | none => exact ⟨0, 0, 0, 0, 0, 0, 0, rfl, rfl, rfl⟩
  | some x => exact ⟨_, _, _, _, _, _, _, rfl, rfl, rfl⟩
set_option maxHeartbeats 1000000 in
theorem get_calls {w : World} {t : Nat} {m : Option Nat} {L : List Sl} (h : PT w t m L) {n s : Int} (hi : PIn (n, s)) :
    Calls Try.prog 26 #[.pointer (some ⟨t, 0, none⟩), .agg #[.int .i64 n, .int .i64 s]] w fun e w' => e = .returned (.tuple #[capO (lookS L n s), .bool (lookS L n s).isSome]) ∧ Kp [] w w' := by
  obtain ⟨k, ob, z, b, r, u, v, hV, hC, _⟩ := hv_parts (lookS L n s)
  obtain ⟨is, hIs⟩ : ∃ is, (lookS L n s).isSome = is := ⟨_, rfl⟩
  rw [hIs, hC]
  have hS : Hid (∀ w', Kp [] (w.alloc (.cells #[.int .i64 n, .int .i64 s] 40)) w' → w'.cell? ⟨t, 0, none⟩ = some (.map m) ∧ w'.cell? ⟨w.heap.size, 0, none⟩ = some (.int .i64 n) ∧ w'.cell? ⟨w.heap.size, 1, none⟩ = some (.int .i64 s) ∧ (Instr.lookup 25 (.map m) (.agg #[.int .i64 n, .int .i64 s]) true).run Try.prog w' = .ok (.tuple #[.agg #[.int .i64 k, .int .i64 ob, .int .i64 z, .int .i64 b, .int .i64 r, .int .i64 u, .int .i64 v], .bool is]) w') := fun w' K => by
    obtain ⟨B, K1⟩ := kp_box K
    have P1 := h.grew K1
    refine ⟨P1.head.cell rfl, B.cell rfl, B.cell rfl, ?_⟩
    rw [← hV, ← hIs]
    exact P1.look hi true
  have K0 := hide ((Kp.refl [] (w.alloc (.cells #[.int .i64 n, .int .i64 s] 40))).alloc (.cells #[.int .i64 0, .int .i64 0, .int .i64 0, .int .i64 0, .int .i64 0] 38))
  have KW := hide (((Kp.refl [] w).alloc (.cells #[.int .i64 n, .int .i64 s] 40)).alloc (.cells #[.int .i64 0, .int .i64 0, .int .i64 0, .int .i64 0, .int .i64 0] 38))
  clear h hV hIs hC
  go_enter Try.func26, Try.ntmps26
  go_wp2_with fail
  have BR := hide (Bk.next (p := w.heap.size + 1) (w.alloc (.cells #[.int .i64 n, .int .i64 s] 40)) 38 [.int .i64 0, .int .i64 0, .int .i64 0, .int .i64 0, .int .i64 0] (by simp))
  have hw1 : ((w.alloc (.cells #[.int .i64 n, .int .i64 s] 40)).alloc (.cells #[.int .i64 0, .int .i64 0, .int .i64 0, .int .i64 0, .int .i64 0] 38)).heap.size = w.heap.size + 2 := by simp
  generalize (w.alloc (.cells #[.int .i64 n, .int .i64 s] 40)).alloc (.cells #[.int .i64 0, .int .i64 0, .int .i64 0, .int .i64 0, .int .i64 0] 38) = w1 at *
  go_region_held3 (fun w' => w'.cell? ⟨t, 0, none⟩ = some (.map m) ∧ w'.cell? ⟨w.heap.size, 0, none⟩ = some (.int .i64 n) ∧ w'.cell? ⟨w.heap.size, 1, none⟩ = some (.int .i64 s) ∧ (Instr.lookup 25 (.map m) (.agg #[.int .i64 n, .int .i64 s]) true).run Try.prog w' = .ok (.tuple #[.agg #[.int .i64 k, .int .i64 ob, .int .i64 z, .int .i64 b, .int .i64 r, .int .i64 u, .int .i64 v], .bool is]) w') (first | exact unhide hS _ ((unhide K0).drew) | exact unhide hS _ (((unhide K0).alloc _).drew)) (fail)
  all_goals
    have B1 := (unhide BR).alloc (.cells #[.int .i64 k, .int .i64 ob, .int .i64 z, .int .i64 b, .int .i64 r, .int .i64 u, .int .i64 v] 74)
    have f0 := (unhide BR).frozen
    have e0 := (unhide BR).cell (i := 0) rfl
    have e1 := (unhide BR).cell (i := 1) rfl
    have e2 := (unhide BR).cell (i := 2) rfl
    have e3 := (unhide BR).cell (i := 3) rfl
    have e4 := (unhide BR).cell (i := 4) rfl
    clear B1
    go_wp2
    refine bodyPost_ret (v := .tuple #[capV k ob z b r, .bool is]) (by simp [results, Try.results26, go_sem, *]) rfl ⟨rfl, ?_⟩
    exact ((five (unhide KW) (by simp) _ _ _ _ _).alloc _).drew
set_option maxHeartbeats 1000000 in
theorem parent_calls {w : World} {t : Nat} {m : Option Nat} {L : List Sl} (h : PT w t m L) {n s : Int} (hi : PIn (n, s)) :
    Calls Try.prog 27 #[.pointer (some ⟨t, 0, none⟩), .agg #[.int .i64 n, .int .i64 s]] w fun e w' => e = .returned (parO (lookS L n s)) ∧ Kp [] w w' := by
  obtain ⟨k, ob, z, b, r, u, v, hV, _, hC⟩ := hv_parts (lookS L n s)
  rw [hC]
  have hS : Hid (∀ w', Kp [] (w.alloc (.cells #[.int .i64 n, .int .i64 s] 40)) w' → w'.cell? ⟨t, 0, none⟩ = some (.map m) ∧ w'.cell? ⟨w.heap.size, 0, none⟩ = some (.int .i64 n) ∧ w'.cell? ⟨w.heap.size, 1, none⟩ = some (.int .i64 s) ∧ (Instr.lookup 25 (.map m) (.agg #[.int .i64 n, .int .i64 s]) false).run Try.prog w' = .ok (.agg #[.int .i64 k, .int .i64 ob, .int .i64 z, .int .i64 b, .int .i64 r, .int .i64 u, .int .i64 v]) w') := fun w' K => by
    obtain ⟨B, K1⟩ := kp_box K
    have P1 := h.grew K1
    refine ⟨P1.head.cell rfl, B.cell rfl, B.cell rfl, ?_⟩
    rw [← hV]
    exact P1.look hi false
  have K0 := hide ((Kp.refl [] (w.alloc (.cells #[.int .i64 n, .int .i64 s] 40))).alloc (.cells #[.int .i64 0, .int .i64 0] 40))
  have KW := hide (((Kp.refl [] w).alloc (.cells #[.int .i64 n, .int .i64 s] 40)).alloc (.cells #[.int .i64 0, .int .i64 0] 40))
  have hF : ∀ w, (Instr.field 74 (.agg #[.int .i64 k, .int .i64 ob, .int .i64 z, .int .i64 b, .int .i64 r, .int .i64 u, .int .i64 v]) 1).run Try.prog w = .ok (.agg #[.int .i64 u, .int .i64 v]) w := fun w => by kernel_rfl
  clear h hV hC
  go_enter Try.func27, Try.ntmps27
  go_wp2_with fail
  have BR := hide (Bk.next (p := w.heap.size + 1) (w.alloc (.cells #[.int .i64 n, .int .i64 s] 40)) 40 [.int .i64 0, .int .i64 0] (by simp))
  have hw0 : Hid ((w.alloc (.cells #[.int .i64 n, .int .i64 s] 40)).heap.size ≤ w.heap.size + 1) := by unfold Hid; simp
  have hw1 : ((w.alloc (.cells #[.int .i64 n, .int .i64 s] 40)).alloc (.cells #[.int .i64 0, .int .i64 0] 40)).heap.size = w.heap.size + 2 := by simp
  generalize (w.alloc (.cells #[.int .i64 n, .int .i64 s] 40)).alloc (.cells #[.int .i64 0, .int .i64 0] 40) = w1 at *
  have f0 := (unhide BR).frozen
  have e0 := (unhide BR).cell (i := 0) rfl
  have e1 := (unhide BR).cell (i := 1) rfl
  go_region_held3 (fun w' => w'.cell? ⟨t, 0, none⟩ = some (.map m) ∧ w'.cell? ⟨w.heap.size, 0, none⟩ = some (.int .i64 n) ∧ w'.cell? ⟨w.heap.size, 1, none⟩ = some (.int .i64 s) ∧ (Instr.lookup 25 (.map m) (.agg #[.int .i64 n, .int .i64 s]) false).run Try.prog w' = .ok (.agg #[.int .i64 k, .int .i64 ob, .int .i64 z, .int .i64 b, .int .i64 r, .int .i64 u, .int .i64 v]) w') (first | exact unhide hS _ ((unhide K0).drew) | exact unhide hS _ ((((unhide K0).setCell (.inr (unhide hw0)) _).setCell (.inr (unhide hw0)) _).drew)) (fail)
  all_goals
    go_wp2
    refine bodyPost_ret (v := .agg #[.int .i64 u, .int .i64 v]) (by simp [results, Try.results27, go_sem, *]) rfl ⟨rfl, ?_⟩
    exact (((unhide KW).setCell (.inr (by simp)) _).setCell (.inr (by simp)) _).drew
end Go.Proofs.Ythjhpcbhkcmghaa
