/- The program's queue: the greatest row that has any (slices.Backward, a range over a function). -/
import Derived.Test.YtennmoaaieedpaaKRq0
import Derived.RangeFuncNested
import Derived.RangeFuncBound
import Derived.RangeFuncCalls
import Derived.RangeFuncLeaves
import Derived.Shelf.Abstract
import Derived.WalkKit
import Derived.OwnWalkIn
import Derived.TacticsInMore
import Derived.LoopNIn
import Derived.LoopIn
import Derived.Sort.LoopGhostIn
namespace Go.Proofs.Ytennmoaaieedpaa
open Go.RowKit Go.Shelf
set_option linter.unusedVariables false
attribute [local go_sem] Oper.semAt_some
/-- A row's slice: its address, its length, its capacity. -/
def slV (x : Option Addr × Nat × Nat) : Value := .slice x.1 x.2.1 x.2.2
/-- What has come when m are left: the last ones first. -/
def dnL (X : Nat → Option Addr × Nat × Nat) (m : Nat) : List (Nat × Option Addr × Nat × Nat) := (((List.range 8).drop m).reverse).map fun j => (j, X j)
theorem dnL_eight (X : Nat → Option Addr × Nat × Nat) : dnL X 8 = [] := rfl
theorem dnL_succ (X : Nat → Option Addr × Nat × Nat) {m : Nat} (h : m < 8) : dnL X m = dnL X (m + 1) ++ [(m, X m)] := by
  unfold dnL
  rw [List.drop_eq_getElem_cons (by simpa using h), List.reverse_cons, List.map_append]
  simp
theorem dnL_len (X : Nat → Option Addr × Nat × Nat) {m : Nat} (h : m ≤ 8) : (dnL X m).length = 8 - m := by simp [dnL]
def enV (x : Nat × Option Addr × Nat × Nat) : Array Value := #[.int .i64 (x.1 : Int), .slice x.2.1 x.2.2.1 x.2.2.2]
/-- Eight slices at block q. -/
def At8 (W : World) (q : Nat) (X : Nat → Option Addr × Nat × Nat) : Prop := ∀ j, j < 8 → W.cell? ⟨q, j, none⟩ = some (.slice (X j).1 (X j).2.1 (X j).2.2)
theorem At8.below {n₀ : Nat} {W W' : World} {q : Nat} {X : Nat → Option Addr × Nat × Nat} (h : At8 W q X) (b : Below n₀ W W') (hq : q < n₀) : At8 W' q X := fun j hj => (b.cell (p := ⟨q, j, none⟩) hq).trans (h j hj)
set_option maxRecDepth 100000 in
set_option maxHeartbeats 2000000 in
theorem back_in (n : Nat) (hn : 1 ≤ n) (l Bs n₀ q : Nat) (X : Nat → Option Addr × Nat × Nat) (hq : q < n₀) (hB : Bs < n₀) (J Jx : List (Nat × Option Addr × Nat × Nat) → World → Prop)
    (hY : ∀ pre x W, J pre W → pre.length < 8 → YieldAt Fence.wide (n - 1) Try.prog l (enV x) W fun e W' =>
      (e = .returned (.bool true) ∧ J (pre ++ [x]) W' ∧ Below n₀ W W') ∨ (e = .returned (.bool false) ∧ Jx (pre ++ [x]) W'))
    (W : World) (hBs : W.cell? ⟨Bs, 0, none⟩ = some (.slice (some ⟨q, 0, none⟩) 8 8)) (hc : At8 W q X) (h0 : J [] W) :
    CallsIn Fence.wide n Try.prog 30 #[.func (.yield l) #[] #[], .pointer (some ⟨Bs, 0, none⟩)] W fun e W' => (∃ v, e = .returned v) ∧
      ((∃ ys, ys = dnL X 0 ∧ J ys W') ∨ (∃ pre, (∃ m, m < 8 ∧ pre = dnL X m) ∧ Jx pre W')) := by
  refine callsIn_of_wp Try.func30 rfl trivial ?_ rfl
  simp only [Try.ntmps30, List.size_toArray, List.length_cons, List.length_nil, Nat.reduceAdd, Nat.reduceSub, Array.replicate_succ, Array.replicate_zero, List.push_toArray, List.append_toArray, List.nil_append, List.cons_append]
  gi_wp2
  gi_loopg [3] 8 (fun mm i wr => ∃ m : Nat, m ≤ 8 ∧ mm = m ∧ i = .int .i64 ((m : Int) - 1) ∧ J (dnL X m) wr ∧ Below n₀ W wr)
  case atStart => exact ⟨8, by omega, rfl, rfl, h0, Below.refl _ _⟩
  case round =>
    obtain ⟨m, hm, hmm, rfl, hJs, hnx⟩ := hrel
    have hbs := (hnx.cell (p := ⟨Bs, 0, none⟩) hB).trans hBs
    have hc' := hc.below hnx hq
    clear hBs
    rcases Nat.eq_zero_or_pos m with h0m | h0m
    · subst h0m
      clear hmm hc'
      gi_wp2
      go_end0
      exact ⟨⟨_, rfl⟩, .inl ⟨_, rfl, hJs⟩⟩
    · obtain ⟨k, rfl⟩ : ∃ k, m = k + 1 := ⟨m - 1, by omega⟩
      have e1 : (((k + 1 : Nat) : Int) - 1) = (k : Int) := by omega
      rw [e1]
      obtain ⟨fn, tmps, assign, body, hy, hR⟩ := hY (dnL X (k + 1)) (k, X k) wr hJs (by rw [dnL_len X hm]; omega)
      have hy' : (Instr.yield l #[.int .i64 (k : Int), .slice (X k).1 (X k).2.1 (X k).2.2]).run Try.prog wr = .ok (.round l fn tmps assign body) wr := hy
      have hcx := hc' k (by omega)
      have b1 : (0 : Int) ≤ (k : Int) := by omega
      have b2 : (k : Int) < 8 := by omega
      have b3 : ((k : Int)).toNat = k := Int.toNat_natCast k
      replace hmm := hide hmm
      clear hy hc' e1 h0m
      gi_wp2
      refine hR.mono ?_
      rintro e W3 (⟨rfl, hJ3, hk3⟩ | ⟨rfl, hJx3⟩)
      · gi_wp2
        gi_roundg k
        case measure => have := unhide hmm; omega
        case rel => exact ⟨k, by omega, rfl, by go_num, by rw [dnL_succ X (by omega)]; exact hJ3, hnx.trans hk3⟩
      · gi_wp2
        refine bodyPost_ret (results_none rfl _ _ _) rfl ?_
        exact ⟨⟨_, rfl⟩, .inr ⟨_, ⟨k, by omega, (dnL_succ X (by omega)).symm⟩, hJx3⟩⟩
set_option maxHeartbeats 1000000 in
theorem backward_in (n : Nat) (a : Option Addr) (len cap : Nat) (w : World) :
    CallsIn Fence.wide n Try.prog 29 #[.slice a len cap] w fun e w' => e = .returned (.func (.func 30) #[] #[.pointer (some ⟨w.heap.size, 0, none⟩)]) ∧ w' = w.alloc (.cells #[.slice a len cap] 56) := by
  refine callsIn_of_wp Try.func29 rfl trivial ?_ rfl
  simp only [Try.ntmps29, List.size_toArray, List.length_cons, List.length_nil, Nat.reduceAdd, Nat.reduceSub, Array.replicate_succ, Array.replicate_zero, List.push_toArray, List.append_toArray, List.nil_append, List.cons_append]
  gi_wp2
  go_ret
  exact ⟨rfl, rfl⟩
theorem back_stops (n : Nat) (hn : 1 ≤ n) (Bs n₀ q : Nat) (X : Nat → Option Addr × Nat × Nat) (w : World) (hq : q < n₀) (hB : Bs < n₀) (hn₀ : n₀ ≤ w.heap.size) (hc : w.cell? ⟨Bs, 0, none⟩ = some (.slice (some ⟨q, 0, none⟩) 8 8)) (h8 : At8 w q X) :
    SeqStopsK Fence.wide n Try.prog 30 #[.pointer (some ⟨Bs, 0, none⟩)] enV (Below n₀) (fun ys => ys = dnL X 0) (fun pre => ∃ m, m < 8 ∧ pre = dnL X m) 8 w := fun l J Jx W hW _ _ hY h0 =>
  back_in n hn l Bs n₀ q X hq hB J Jx hY W ((hW.cell (p := ⟨Bs, 0, none⟩) (show Bs < w.heap.size by omega)).trans hc) (h8.below hW (by omega)) h0
/-- The greatest row that has any, or none has. -/
def GrP (X : Nat → Option Addr × Nat × Nat) (x : Option Addr × Nat × Nat) : Prop := (∃ p, p < 8 ∧ x = X p ∧ 0 < (X p).2.1 ∧ ∀ j, p < j → j < 8 → (X j).2.1 = 0) ∨ (x = (none, 0, 0) ∧ ∀ j, j < 8 → (X j).2.1 = 0)
theorem dnL_mem {X : Nat → Option Addr × Nat × Nat} {m j : Nat} (h1 : m ≤ j) (h2 : j < 8) : (j, X j) ∈ dnL X m := by
  unfold dnL
  refine List.mem_map.2 ⟨j, ?_, rfl⟩
  rw [List.mem_reverse, List.mem_iff_getElem]
  exact ⟨j - m, by simp; omega, by simp; omega⟩
theorem dnL_inj {X : Nat → Option Addr × Nat × Nat} {m : Nat} {pre : List (Nat × Option Addr × Nat × Nat)} {x : Nat × Option Addr × Nat × Nat} (hm : m < 8) (h : dnL X m = pre ++ [x]) : x = (m, X m) ∧ pre = dnL X (m + 1) := by
  rw [dnL_succ X hm] at h
  obtain ⟨h1, h2⟩ := List.append_inj' h rfl
  cases h2
  exact ⟨rfl, h1.symm⟩
theorem cell_box {W : World} {B : Nat} {v : Value} {t : TypeId} (h : W.heap[B]? = some (.cells #[v] t (0, 0))) : W.cell? ⟨B, 0, none⟩ = some v ∧ W.frozen? ⟨B, 0, none⟩ = false := by
  constructor <;> simp [World.cell?, World.frozen?, h]
set_option maxRecDepth 100000 in
set_option maxHeartbeats 2000000 in
theorem greatest_in (n : Nat) (hn : 3 ≤ n) (q : Nat) (X : Nat → Option Addr × Nat × Nat) (w : World) (hq : q < w.heap.size) (h8 : At8 w q X) :
    CallsIn Fence.wide n Try.prog 26 #[.pointer (some ⟨q, 0, none⟩)] w fun e w' => ∃ x, e = .returned (.slice x.1 x.2.1 x.2.2) ∧ GrP X x ∧ Below w.heap.size w w' := by
  have h1 : 1 ≤ n := by omega
  refine callsIn_of_wp_marks Try.func26 rfl trivial ?_ rfl
  simp only [Try.ntmps26, List.size_toArray, List.length_cons, List.length_nil, Nat.reduceAdd, Nat.reduceSub, Array.replicate_succ, Array.replicate_zero, List.push_toArray, List.append_toArray, List.nil_append, List.cons_append]
  gi_wp2_with fail
  refine ⟨trivial, (backward_in (n - 1) _ _ _ _).mono ?_⟩
  rintro e w' ⟨rfl, rfl⟩
  gi_wp2_with fail
  have bx := cell_box (World.alloc_heap_new w (.cells #[.slice none 0 0] 24))
  have by' := cell_box (World.alloc_heap_new (w.alloc (.cells #[.slice none 0 0] 24)) (.cells #[.slice (some ⟨q, 0, none⟩) 8 8] 56))
  rw [World.size_alloc] at by'
  have hB0 : Below w.heap.size w ((w.alloc (.cells #[.slice none 0 0] 24)).alloc (.cells #[.slice (some ⟨q, 0, none⟩) 8 8] 56)) := ((Below.refl _ w).alloc (Nat.le_refl _) _).alloc (by simp) _
  have h8' : At8 ((w.alloc (.cells #[.slice none 0 0] 24)).alloc (.cells #[.slice (some ⟨q, 0, none⟩) 8 8] 56)) q X := h8.below hB0 hq
  have hr0 : ((w.alloc (.cells #[.slice none 0 0] 24)).alloc (.cells #[.slice (some ⟨q, 0, none⟩) 8 8] 56)).cell? ⟨w.heap.size, 0, none⟩ = some (.slice none 0 0) := cell_kept bx.1 (World.grownBy_alloc _ _ none) (fun r e => by cases e)
  have hf0 : ((w.alloc (.cells #[.slice none 0 0] 24)).alloc (.cells #[.slice (some ⟨q, 0, none⟩) 8 8] 56)).frozen? ⟨w.heap.size, 0, none⟩ = false := (frozen_kept bx.1 (World.grownBy_alloc _ _ none) (fun r e => by cases e)).trans bx.2
  refine wpIn_rangeFunc_ownF rfl h1 (gf := 30) (lb := #[.pointer (some ⟨w.heap.size + 1, 0, none⟩)]) rfl trivial (enters_of Try.func30 (by kernel_rfl) rfl)
    (back_stops (n - 1) (by omega) (w.heap.size + 1) (w.heap.size + 2) q X _ (by omega) (by omega) (by simp) by'.1 h8') belowK_t (belowK_b (by simp)) (Below.refl _ _) (fun _ => rfl)
    (fun pre W => (W.cell? ⟨w.heap.size, 0, none⟩ = some (.slice none 0 0) ∧ W.frozen? ⟨w.heap.size, 0, none⟩ = false ∧ (∀ y ∈ pre, y.2.2.1 = 0)) ∧ Below w.heap.size w W)
    (fun c pre W => (c = .ret ∧ ∃ pre' x, pre = pre' ++ [x] ∧ (∀ y ∈ pre', y.2.2.1 = 0) ∧ 0 < x.2.2.1 ∧ W.cell? ⟨w.heap.size, 0, none⟩ = some (.slice x.2.1 x.2.2.1 x.2.2.2)) ∧ Below w.heap.size w W)
    (OwnFrom.and (Own.from (fun s A B row hs hg hr => ⟨cell_kept hs.1 hg hr, (frozen_kept hs.1 hg hr).trans hs.2.1, hs.2.2⟩) _) (ownFrom_below (Nat.le_refl _) (by simp; omega)))
    (fun c => OwnFrom.and (Own.from (fun s A B row hs hg hr => by obtain ⟨e, pre', x, e1, e2, e3, e4⟩ := hs; exact ⟨e, pre', x, e1, e2, e3, cell_kept e4 hg hr⟩) _) (ownFrom_below (Nat.le_refl _) (by simp; omega)))
    ⟨⟨hr0, hf0, by simp⟩, hB0⟩
    (fun x => { tmps := #[.pointer (some ⟨q, 0, none⟩), undef, .pointer (some ⟨w.heap.size, 0, none⟩), undef, .slice x.2.1 x.2.2.1 x.2.2.2, .pointer (some ⟨q, 0, none⟩), .pointer (some ⟨q, 0, none⟩), .pointer (some ⟨q, 0, none⟩), .slice (some ⟨q, 0, none⟩) 8 8, .func (.func 30) #[] #[.pointer (some ⟨w.heap.size + 1, 0, none⟩)], .int .i64 (x.1 : Int), .slice x.2.1 x.2.2.1 x.2.2.2, undef, undef, undef, undef], defers := [] }) ?assign ?body ?done ?stop
  case assign =>
    intro l x W K hK
    unfold enV
    gi_wp2
    exact hK
  case body =>
    rintro l pre x W ⟨⟨hcr, hfr, hz⟩, hB⟩ _
    by_cases hx : 0 < x.2.2.1
    · have hx' : (0 : Int) < (x.2.2.1 : Int) := by omega
      gi_wp2
      exact ⟨KeepsOthers.setCell _ _ _, ⟨rfl, pre, x, rfl, hz, hx, World.cell?_setCell_same' _ _ _ (by rw [hcr]; rfl)⟩, hB.setCell (p := ⟨w.heap.size, 0, none⟩) (Nat.le_refl _) _⟩
    · have hx' : decide ((0 : Int) < (x.2.2.1 : Int)) = false := decide_eq_false (by omega)
      gi_wp2
      exact ⟨KeepsOthers.refl _, Below.refl _ _, ⟨hcr, hfr, fun y hy => (List.mem_append.1 hy).elim (hz y) (fun e => by rw [List.mem_singleton.1 e]; omega)⟩, hB⟩
  case done =>
    rintro D ys W hD rfl ⟨⟨hcr, hfr, hz⟩, hB⟩ hK
    gi_wp2
    have hK' := (KeepsOthers.setCell W ⟨w.heap.size, 0, none⟩ (.slice none 0 0)).same D _ hK rfl
    refine ⟨by simp, .inl ⟨_, _, rfl, run_takeDeferred hK', ?_⟩⟩
    have hc5 := cell_kept (World.cell?_setCell_same' W ⟨w.heap.size, 0, none⟩ (.slice none 0 0) (by rw [hcr]; rfl)) (grownBy_putObj' _ D (.deferred none)) (fun r e => by cases e; exact ⟨_, hK', rfl⟩)
    refine ⟨.slice none 0 0, ?_, (none, 0, 0), rfl, .inr ⟨rfl, fun j hj => hz _ (dnL_mem (Nat.zero_le _) hj)⟩, ?_⟩
    · simp [results, Try.results26, go_sem, hc5]
    · have hB2 := hB.setCell (p := ⟨w.heap.size, 0, none⟩) (Nat.le_refl _) (.slice none 0 0)
      exact hB2.trans (belowK_b (w := w) (Nat.le_refl _) _ D _ _ (by simp at hD; omega) hK' rfl rfl)
  case stop =>
    rintro D c pre W hD ⟨m, hm, hpre⟩ ⟨⟨rfl, pre', x, e1, hz, hx, hcr⟩, hB⟩ hK
    obtain ⟨rfl, rfl⟩ := dnL_inj hm (hpre.symm.trans e1)
    gi_wp2
    refine ⟨by simp, .inl ⟨_, _, rfl, run_takeDeferred hK, ?_⟩⟩
    have hc5 := cell_kept hcr (grownBy_putObj' _ D (.deferred none)) (fun r e => by cases e; exact ⟨_, hK, rfl⟩)
    refine ⟨.slice (X m).1 (X m).2.1 (X m).2.2, ?_, (X m).1, (X m).2.1, (X m).2.2, rfl, .inl ⟨m, hm, rfl, hx, fun j h1 h2 => hz _ (dnL_mem h1 h2)⟩, ?_⟩
    · simp [results, Try.results26, go_sem, hc5]
    · exact hB.trans (belowK_b (w := w) (Nat.le_refl _) W D _ _ (by simp at hD; omega) hK rfl rfl)
/-- The greatest row, at the queue. -/
theorem greatest_calls {base : Nat} {w : World} {q : Nat} {vs : List Value} {F : Nat → List Int} (h : QR base w q vs F) :
    Calls Try.prog 26 #[.pointer (some ⟨q, 0, none⟩)] w fun e w' => Kp [] w w' ∧ ((∃ p v, p < 8 ∧ vs[p]? = some v ∧ e = .returned v ∧ 0 < (F p).length ∧ ∀ j, p < j → j < 8 → F j = []) ∨ (e = .returned (.slice none 0 0) ∧ ∀ j, j < 8 → F j = [])) := by
  have hX : ∀ j, ∃ x : Option Addr × Nat × Nat, j < 8 → vs[j]? = some (.slice x.1 x.2.1 x.2.2) ∧ x.2.1 = (F j).length := by
    intro j
    by_cases hj : j < 8
    · obtain ⟨v, e, hr, _⟩ := h.at hj
      obtain ⟨a, c, rfl⟩ := hr.form
      exact ⟨(a, (F j).length, c), fun _ => ⟨e, rfl⟩⟩
    · exact ⟨(none, 0, 0), fun k => (hj k).elim⟩
  obtain ⟨X, hX⟩ := Classical.axiomOfChoice hX
  refine ((callsIn_wide (n := 3)).1 (greatest_in 3 (by decide) q X w h.head.lt (fun j hj => h.head.cell (hX j hj).1))).mono ?_
  rintro e w' ⟨x, rfl, hG, hB⟩
  refine ⟨Kp.ofBelow hB [], ?_⟩
  have hz : ∀ j, j < 8 → (X j).2.1 = 0 → F j = [] := fun j hj e => List.length_eq_zero_iff.1 ((hX j hj).2.symm.trans e)
  rcases hG with ⟨p, hp, rfl, h1, h2⟩ | ⟨rfl, h1⟩
  · exact .inl ⟨p, _, hp, (hX p hp).1, rfl, by rw [← (hX p hp).2]; exact h1, fun j q1 q2 => hz j q2 (h2 j q1 q2)⟩
  · exact .inr ⟨rfl, fun j hj => hz j hj (h1 j hj)⟩
end Go.Proofs.Ytennmoaaieedpaa
