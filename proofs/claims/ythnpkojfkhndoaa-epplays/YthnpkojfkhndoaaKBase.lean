/- Blocks of memory, what stays of them from one world to the next, and lists of bytes that lie in them. -/
import Derived.WalkKit
import Derived.WalkSpells
import Derived.WalkLawsBesides
import Derived.OpenShut
import Derived.Below
import Derived.Deep.OwnRows
import Derived.Deep.MidRow
import Derived.Laws.CopyOwn
import Derived.Deep.QuietTactic
import Derived.BigQuiet
namespace Go.Proofs.Ythnpkojfkhndoaa
open Go.RowKit
set_option linter.unusedVariables false
theorem hide {p : Prop} (h : p) : Hid p := h
theorem unhide {p : Prop} (h : Hid p) : p := h
theorem ret_int {k : IntKind} {a b : Int} (h : a = b) : Ending.returned (.int k a) = .returned (.int k b) := by rw [h]
theorem ret_bool {a b : Bool} (h : a = b) : Ending.returned (.bool a) = .returned (.bool b) := by rw [h]

/-- Block g is just these cells. -/
def Bk (w : World) (g : Nat) (T : TypeId) (vs : List Value) : Prop := w.heap[g]? = some (.cells vs.toArray T (0, 0))
theorem Bk.lt {w : World} {g : Nat} {T : TypeId} {vs : List Value} (h : Bk w g T vs) : g < w.heap.size := (Array.getElem?_eq_some_iff.1 h).1
theorem Bk.cell? {w : World} {g : Nat} {T : TypeId} {vs : List Value} (h : Bk w g T vs) (i : Nat) : w.cell? ⟨g, i, none⟩ = vs[i]? := by
  unfold Bk at h
  simp [World.cell?, h]
theorem Bk.cell {w : World} {g : Nat} {T : TypeId} {vs : List Value} (h : Bk w g T vs) {i : Nat} {v : Value} (hv : vs[i]? = some v) : w.cell? ⟨g, i, none⟩ = some v := (h.cell? i).trans hv
theorem Bk.frozen {w : World} {g : Nat} {T : TypeId} {vs : List Value} (h : Bk w g T vs) (i : Nat) : w.frozen? ⟨g, i, none⟩ = false := by
  unfold Bk at h
  simp [World.frozen?, h]
theorem Bk.drewN {w : World} {g : Nat} {T : TypeId} {vs : List Value} (h : Bk w g T vs) (k : Nat) : Bk (w.drewN k) g T vs := h
theorem Bk.new (w : World) (T : TypeId) (vs : List Value) : Bk (w.alloc (.cells vs.toArray T)) w.heap.size T vs := heap_alloc_new w _
theorem Bk.newA (w : World) (T : TypeId) (c : Array Value) : Bk (w.alloc (.cells c T)) w.heap.size T c.toList := heap_alloc_new w _
theorem Bk.alloc {w : World} {g : Nat} {T : TypeId} {vs : List Value} (h : Bk w g T vs) (o : Obj) : Bk (w.alloc o) g T vs := (Below.heap_alloc w o g h.lt).trans h
theorem Bk.set {w : World} {g : Nat} {T : TypeId} {vs : List Value} (h : Bk w g T vs) (i : Nat) (v : Value) : Bk (w.setCell ⟨g, i, none⟩ v) g T (vs.set i v) := by
  unfold Bk
  rw [setCell_eq_setRow w g i vs.toArray T (0, 0) v h, setRow_heap w g _ _ T _ h]
  simp
theorem Bk.setRow {w : World} {g : Nat} {T : TypeId} {vs : List Value} (h : Bk w g T vs) (us : List Value) : Bk (w.setRow g us.toArray) g T us := setRow_heap w g _ _ T _ h
theorem Bk.apart {w : World} {g g' : Nat} {T T' : TypeId} {vs vs' : List Value} (h : Bk w g T vs) (h' : Bk w g' T' vs') (hT : T ≠ T') : g ≠ g' := by
  rintro rfl
  unfold Bk at h h'
  rw [h] at h'
  simp at h'
  exact hT h'.2

/-- What was there is as it was, but for the blocks of S; nothing is gone. -/
structure Kp (S : List Nat) (w w' : World) : Prop where
  os : w'.os = w.os
  tape : w'.tape = w.tape
  output : w'.output = w.output
  size : w.heap.size ≤ w'.heap.size
  block : ∀ k, k < w.heap.size → k ∉ S → w'.heap[k]? = w.heap[k]?
theorem Kp.refl (S : List Nat) (w : World) : Kp S w w := ⟨rfl, rfl, rfl, Nat.le_refl _, fun _ _ _ => rfl⟩
theorem Kp.drewN {S : List Nat} {w w' : World} (h : Kp S w w') (k : Nat) : Kp S w (w'.drewN k) := ⟨h.os, h.tape, h.output, h.size, h.block⟩
theorem Kp.drew {S : List Nat} {w w' : World} (h : Kp S w w') : Kp S w w'.drew := ⟨h.os, h.tape, h.output, h.size, h.block⟩
theorem Kp.ofBelow {w w' : World} (h : Below w.heap.size w w') (S : List Nat) : Kp S w w' := ⟨h.os, h.tape, h.output, h.size, fun k hk _ => h.block k hk⟩
theorem Kp.below {S : List Nat} {w w' : World} (h : Kp S w w') {B : Nat} (hB : B ≤ w.heap.size) (hS : ∀ k ∈ S, B ≤ k) : Below B w w' :=
  ⟨h.os, h.tape, h.output, h.size, fun k hk => h.block k (by omega) (fun m => by have := hS k m; omega)⟩
theorem Kp.mono {S S' : List Nat} {w w' : World} (h : Kp S w w') (hS : ∀ k ∈ S, k ∈ S') : Kp S' w w' := ⟨h.os, h.tape, h.output, h.size, fun k hk hn => h.block k hk (fun m => hn (hS k m))⟩
/-- One behind the other; what is new since the first world counts for nothing. -/
theorem Kp.trans {S S' T : List Nat} {a b c : World} (h : Kp S a b) (k : Kp S' b c) (hS : ∀ i ∈ S, i ∈ T) (hS' : ∀ i ∈ S', i ∈ T ∨ a.heap.size ≤ i) : Kp T a c :=
  ⟨k.os.trans h.os, k.tape.trans h.tape, k.output.trans h.output, Nat.le_trans h.size k.size, fun i hi hn => by
    rw [k.block i (Nat.lt_of_lt_of_le hi h.size) (fun m => by rcases hS' i m with m | m; exact hn m; omega), h.block i hi (fun m => hn (hS i m))]⟩
theorem Kp.then {S : List Nat} {a b c : World} (h : Kp S a b) (k : Kp S b c) : Kp S a c := h.trans k (fun _ m => m) (fun _ m => .inl m)
theorem Kp.alloc {S : List Nat} {w w' : World} (h : Kp S w w') (o : Obj) : Kp S w (w'.alloc o) :=
  h.then ⟨rfl, rfl, rfl, by simp, fun k hk _ => Below.heap_alloc _ _ _ hk⟩
theorem Kp.setCell {S : List Nat} {w w' : World} (h : Kp S w w') {p : Addr} (hp : p.block ∈ S ∨ w.heap.size ≤ p.block) (u : Value) : Kp S w (w'.setCell p u) :=
  ⟨h.os, h.tape, h.output, by simpa [World.setCell] using h.size, fun k hk hn => by
    rw [Below.heap_setCell _ _ _ _ (fun e => by subst e; rcases hp with m | m; exact hn m; omega)]
    exact h.block k hk hn⟩
theorem Kp.setRow {S : List Nat} {w w' : World} (h : Kp S w w') {g : Nat} (hp : g ∈ S ∨ w.heap.size ≤ g) (cs : Array Value) : Kp S w (w'.setRow g cs) :=
  ⟨h.os, h.tape, h.output, by simpa [World.setRow] using h.size, fun k hk hn => by
    rw [setRow_other w' g k cs (fun e => by subst e; rcases hp with m | m; exact hn m; omega)]
    exact h.block k hk hn⟩
theorem Bk.kept {S : List Nat} {w w' : World} {g : Nat} {T : TypeId} {vs : List Value} (h : Bk w g T vs) (k : Kp S w w') (hn : g ∉ S) : Bk w' g T vs := (k.block g h.lt hn).trans h

theorem Kp.cell {w w' : World} (k : Kp [] w w') {p : Addr} {v : Value} (h : w.cell? p = some v) : w'.cell? p = some v := by
  have hlt := World.block_lt_of_cell? w _ h
  rw [(k.below (Nat.le_refl _) (by simp)).cell hlt]
  exact h
/-- Bytes, as numbers below 256. -/
def Small (bs : List Nat) : Prop := ∀ i, bs.getD i 0 < 256
theorem Small.nil : Small [] := fun i => by simp
theorem small_iff (bs : List Nat) : Small bs ↔ ∀ x ∈ bs, x < 256 := by
  constructor
  · intro h x hx
    obtain ⟨i, hi, rfl⟩ := List.mem_iff_getElem.1 hx
    have := h i
    rwa [List.getD_eq_getElem?_getD, List.getElem?_eq_getElem hi] at this
  · intro h i
    rw [List.getD_eq_getElem?_getD]
    by_cases hi : i < bs.length
    · rw [List.getElem?_eq_getElem hi]; exact h _ (List.getElem_mem hi)
    · rw [List.getElem?_eq_none (by omega)]; simp
theorem Small.append {a b : List Nat} (h : Small a) (k : Small b) : Small (a ++ b) := by
  rw [small_iff] at *
  intro x hx
  rcases List.mem_append.1 hx with m | m
  · exact h x m
  · exact k x m
theorem Small.take {a : List Nat} (h : Small a) (n : Nat) : Small (a.take n) := by
  rw [small_iff] at *
  exact fun x hx => h x (List.mem_of_mem_take hx)
theorem Small.drop {a : List Nat} (h : Small a) (n : Nat) : Small (a.drop n) := by
  rw [small_iff] at *
  exact fun x hx => h x (List.mem_of_mem_drop hx)
theorem Small.zeros (n : Nat) : Small (List.replicate n 0) := by
  rw [small_iff]
  intro x hx
  rw [(List.mem_replicate.1 hx).2]; omega
theorem Small.set {bs : List Nat} (h : Small bs) (j x : Nat) (hx : x < 256) : Small (bs.set j x) := by
  rw [small_iff] at *
  intro y hy
  rcases List.mem_or_eq_of_mem_set hy with m | m
  · exact h y m
  · omega
/-- So many of them from a place on. -/
def seg (bs : List Nat) (o n : Nat) : List Nat := (bs.drop o).take n
/-- Others in their place. -/
def splice (bs : List Nat) (o : Nat) (cs : List Nat) : List Nat := bs.take o ++ cs ++ bs.drop (o + cs.length)
theorem seg_len (bs : List Nat) (o n : Nat) (h : o + n ≤ bs.length) : (seg bs o n).length = n := by simp [seg]; omega
theorem seg_small {bs : List Nat} (h : Small bs) (o n : Nat) : Small (seg bs o n) := (h.drop o).take n
theorem seg_get (bs : List Nat) (o n i : Nat) (hi : i < n) : (seg bs o n).getD i 0 = bs.getD (o + i) 0 := by
  simp [seg, List.getD_eq_getElem?_getD, List.getElem?_drop, hi]
theorem seg_all (bs : List Nat) : seg bs 0 bs.length = bs := by simp [seg]
theorem splice_len (bs : List Nat) (o : Nat) (cs : List Nat) (h : o + cs.length ≤ bs.length) : (splice bs o cs).length = bs.length := by simp [splice]; omega
theorem splice_small {bs cs : List Nat} (h : Small bs) (k : Small cs) (o : Nat) : Small (splice bs o cs) := ((h.take o).append k).append (h.drop _)
theorem splice_get (bs : List Nat) (o : Nat) (cs : List Nat) (h : o + cs.length ≤ bs.length) (i : Nat) :
    (splice bs o cs).getD i 0 = if o ≤ i ∧ i < o + cs.length then cs.getD (i - o) 0 else bs.getD i 0 := by
  unfold splice
  simp only [List.getD_eq_getElem?_getD, List.append_assoc]
  by_cases h1 : i < o
  · rw [if_neg (by omega), List.getElem?_append_left (by simp; omega), List.getElem?_take, if_pos h1]
  · rw [List.getElem?_append_right (by simp; omega)]
    have e : (List.take o bs).length = o := by simp; omega
    rw [e]
    by_cases h2 : i < o + cs.length
    · rw [if_pos (by omega), List.getElem?_append_left (by omega)]
    · rw [if_neg (by omega), List.getElem?_append_right (by omega), List.getElem?_drop]
      congr 2; omega
theorem list_ext {a b : List Nat} (hl : a.length = b.length) (h : ∀ i, i < a.length → a.getD i 0 = b.getD i 0) : a = b := by
  apply List.ext_getElem hl
  intro i h1 h2
  have := h i h1
  simpa [List.getD_eq_getElem?_getD, h1, h2] using this
theorem seg_splice_in (bs cs : List Nat) (o : Nat) (h : o + cs.length ≤ bs.length) : seg (splice bs o cs) o cs.length = cs := by
  have hl := splice_len bs o cs h
  refine list_ext (by rw [seg_len _ _ _ (by omega)]) (fun i hi => ?_)
  rw [seg_len _ _ _ (by omega)] at hi
  rw [seg_get _ _ _ _ hi, splice_get _ _ _ h, if_pos (by omega)]
  congr 1; omega
theorem seg_splice_out (bs cs : List Nat) (o o' n : Nat) (h : o + cs.length ≤ bs.length) (h' : o' + n ≤ bs.length) (ha : o' + n ≤ o ∨ o + cs.length ≤ o') : seg (splice bs o cs) o' n = seg bs o' n := by
  have hl := splice_len bs o cs h
  refine list_ext (by rw [seg_len _ _ _ (by omega), seg_len _ _ _ (by omega)]) (fun i hi => ?_)
  rw [seg_len _ _ _ (by omega)] at hi
  rw [seg_get _ _ _ _ hi, seg_get _ _ _ _ hi, splice_get _ _ _ h, if_neg (by omega)]

/-- Bytes as the values of cells. -/
def vals (bs : List Nat) : List Value := bs.map fun (x : Nat) => Value.int .u8 (x : Int)
theorem vals_len (bs : List Nat) : (vals bs).length = bs.length := by simp [vals]
theorem vals_get (bs : List Nat) (j : Nat) (h : j < bs.length) : (vals bs)[j]? = some (.int .u8 ((bs.getD j 0 : Nat) : Int)) := by
  simp [vals, List.getD_eq_getElem?_getD, h]
theorem vals_one (bs : List Nat) : ∀ v ∈ vals bs, v.oneCell' = true := by
  intro v hv
  simp only [vals, List.mem_map] at hv
  obtain ⟨x, _, rfl⟩ := hv
  rfl
theorem vals_set (bs : List Nat) (j x : Nat) : (vals bs).set j (.int .u8 (x : Int)) = vals (bs.set j x) := by simp [vals, List.map_set]
theorem vals_splice (bs : List Nat) (o : Nat) (cs : List Nat) : (vals bs).take o ++ vals cs ++ (vals bs).drop (o + cs.length) = vals (splice bs o cs) := by simp [vals, splice, List.map_take, List.map_drop]
theorem vals_zeros (n : Nat) : List.replicate n (Value.int .u8 0) = vals (List.replicate n 0) := by simp [vals]

/-- A slice's bytes as they lie in memory (of a slice of no bytes nothing is asked). -/
def Row (w : World) (a : Option Addr) (bs : List Nat) : Prop :=
  Small bs ∧ bs.length ≤ 1152921504606846976 ∧ (bs.length = 0 ∨ ∃ b off, a = some ⟨b, off, none⟩ ∧ ∀ i, i < bs.length → w.cell? ⟨b, off + i, none⟩ = some (.int .u8 ((bs.getD i 0 : Nat) : Int)))
theorem Row.drewN {w : World} {a : Option Addr} {bs : List Nat} (h : Row w a bs) (k : Nat) : Row (w.drewN k) a bs := h
theorem Row.none (w : World) (a : Option Addr) : Row w a [] := ⟨Small.nil, by simp, .inl rfl⟩
theorem Row.src {w : World} {a : Option Addr} {bs : List Nat} (h : Row w a bs) (hp : 0 < bs.length) : ∃ ad, a = some ad ∧ ∀ j v, (vals bs)[j]? = some v → w.cell? (ad.add j) = some v := by
  obtain ⟨_, _, hz | ⟨b, off, rfl, hc⟩⟩ := h
  · omega
  · refine ⟨_, rfl, fun j v hv => ?_⟩
    have hj : j < bs.length := by
      rcases Nat.lt_or_ge j bs.length with h | h
      · exact h
      · rw [List.getElem?_eq_none (by rw [vals_len]; exact h)] at hv; cases hv
    rw [vals_get bs j hj] at hv
    cases hv
    rw [Addr.add_mid]
    exact hc j hj
theorem Row.below {w w' : World} {a : Option Addr} {bs : List Nat} (h : Row w a bs) {B : Nat} (hb : Below B w w') (hB : w.heap.size ≤ B) : Row w' a bs := by
  obtain ⟨h1, h2, h3⟩ := h
  refine ⟨h1, h2, ?_⟩
  rcases h3 with hz | ⟨b, off, rfl, hc⟩
  · exact .inl hz
  · refine .inr ⟨b, off, rfl, fun i hi => ?_⟩
    have h := hc i hi
    have hlt := World.block_lt_of_cell? w _ h
    rw [hb.cell (p := ⟨b, off + i, .none⟩) (Nat.lt_of_lt_of_le hlt hB)]
    exact h
/-- A block's bytes, as a slice of it tells them. -/
theorem Bk.row {w : World} {g : Nat} {T : TypeId} {bs : List Nat} (h : Bk w g T (vals bs)) (hs : Small bs) (o n : Nat) (hn : o + n ≤ bs.length) (hl : n ≤ 1152921504606846976) : Row w (some ⟨g, o, .none⟩) (seg bs o n) := by
  refine ⟨seg_small hs o n, by rw [seg_len _ _ _ hn]; exact hl, .inr ⟨g, o, rfl, fun i hi => ?_⟩⟩
  rw [seg_len _ _ _ hn] at hi
  rw [seg_get _ _ _ _ hi]
  exact h.cell (vals_get bs (o + i) (by omega))
theorem Bk.rowAll {w : World} {g : Nat} {T : TypeId} {bs : List Nat} (h : Bk w g T (vals bs)) (hs : Small bs) (hl : bs.length ≤ 1152921504606846976) : Row w (some ⟨g, 0, .none⟩) bs := by
  have := h.row hs 0 bs.length (by omega) hl
  rwa [seg_all] at this
/-- What the law was handed, out of the shell's words. -/
theorem row_of {w : World} {a : Option Addr} {len cap : Nat} {zs : List Int}
    (h : (a = none ∧ len = 0 ∧ cap = 0 ∧ zs = []) ∨ ∃ x, a = some x ∧ len ≤ cap ∧ cap ≤ maxLen ∧ zs.length = cap ∧ (∀ i, i < zs.length → w.cell? (x.add i) = some (.int .u8 (zs.getD i 0))) ∧ ∀ n ∈ zs, (Lit.int .u8 n).wf = true)
    (hl : len ≤ 1152921504606846976) : ∃ bs : List Nat, bs.length = len ∧ Row w a bs := by
  rcases h with ⟨rfl, rfl, rfl, rfl⟩ | ⟨x, rfl, h1, h2, h3, h4, h5⟩
  · exact ⟨[], rfl, fun i => by simp, by simp, .inl rfl⟩
  · refine ⟨(zs.take len).map Int.toNat, by simp; omega, ?_, by simp; omega, ?_⟩
    · intro i
      rw [List.getD_eq_getElem?_getD, List.getElem?_map, List.getElem?_take]
      split
      · by_cases hi : i < zs.length
        · have hb := bounds_u8 (h5 _ (List.getElem_mem hi))
          simp [hi]; omega
        · simp [hi]
      · simp
    · by_cases hz : len = 0
      · exact .inl (by simp [hz])
      · obtain ⟨b, off, rfl, hc⟩ := ints_at h4 (by omega)
        refine .inr ⟨b, off, rfl, fun i hi => ?_⟩
        have hi2 : i < len := by simp at hi; omega
        have hi3 : i < zs.length := by omega
        have hb := bounds_u8 (h5 _ (List.getElem_mem hi3))
        rw [hc i hi3]
        have e : ((((zs.take len).map Int.toNat).getD i 0 : Nat) : Int) = zs.getD i 0 := by
          rw [List.getD_eq_getElem?_getD, List.getD_eq_getElem?_getD, List.getElem?_map, List.getElem?_take, if_pos hi2]
          simp [hi3]; omega
        rw [e]
end Go.Proofs.Ythnpkojfkhndoaa
