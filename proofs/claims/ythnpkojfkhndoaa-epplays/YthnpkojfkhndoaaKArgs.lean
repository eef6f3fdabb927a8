/- Arguments of a law, as they lie in memory, out of the reader's words: slices of numbers, of bools, of structs of these. -/
import Derived.Test.YthnpkojfkhndoaaKBase
import Derived.ProofKit
import Derived.ShutString
import Derived.ChangeOld
import Derived.ChangeArms
import Derived.Deep.Slices
namespace Go.Proofs.Ythnpkojfkhndoaa
open Go.RowKit Go.ChangeShapes Go.WideShapes Go.ChangeAt
set_option linter.unusedVariables false
/-- A slice of len structs of c cells each, as it lies in memory. -/
def Recs (w : World) (a : Option Addr) (len c : Nat) (V : Nat → Nat → Value) : Prop :=
  len ≤ 9223372036854775807 ∧ (len = 0 ∨ ∃ b off, a = some ⟨b, off, none⟩ ∧ ∀ i j, i < len → j < c → w.cell? ⟨b, off + (i * c + j), none⟩ = some (V i j))
/-- A slice of numbers. -/
def Ints (k : IntKind) (w : World) (a : Option Addr) (zs : List Int) : Prop :=
  zs.length ≤ 9223372036854775807 ∧ (∀ n ∈ zs, (Lit.int k n).wf = true) ∧ (zs.length = 0 ∨ ∃ b off, a = some ⟨b, off, none⟩ ∧ ∀ i, i < zs.length → w.cell? ⟨b, off + i, none⟩ = some (.int k (zs.getD i 0)))
/-- A slice of bools. -/
def Bools (w : World) (a : Option Addr) (zs : List Bool) : Prop :=
  zs.length ≤ 9223372036854775807 ∧ (zs.length = 0 ∨ ∃ b off, a = some ⟨b, off, none⟩ ∧ ∀ i, i < zs.length → w.cell? ⟨b, off + i, none⟩ = some (.bool (zs.getD i false)))
theorem Recs.below {w w' : World} {a : Option Addr} {len c : Nat} {V : Nat → Nat → Value} (h : Recs w a len c V) {B : Nat} (hb : Below B w w') (hB : w.heap.size ≤ B) : Recs w' a len c V := by
  obtain ⟨h2, h3⟩ := h
  refine ⟨h2, ?_⟩
  rcases h3 with hz | ⟨b, off, rfl, hc⟩
  · exact .inl hz
  · refine .inr ⟨b, off, rfl, fun i j hi hj => ?_⟩
    have h := hc i j hi hj
    rw [hb.cell (p := ⟨b, _, .none⟩) (Nat.lt_of_lt_of_le (World.block_lt_of_cell? w _ h) hB)]
    exact h
theorem Ints.below {k : IntKind} {w w' : World} {a : Option Addr} {zs : List Int} (h : Ints k w a zs) {B : Nat} (hb : Below B w w') (hB : w.heap.size ≤ B) : Ints k w' a zs := by
  obtain ⟨h1, h2, h3⟩ := h
  refine ⟨h1, h2, ?_⟩
  rcases h3 with hz | ⟨b, off, rfl, hc⟩
  · exact .inl hz
  · refine .inr ⟨b, off, rfl, fun i hi => ?_⟩
    have h := hc i hi
    rw [hb.cell (p := ⟨b, _, .none⟩) (Nat.lt_of_lt_of_le (World.block_lt_of_cell? w _ h) hB)]
    exact h
theorem Bools.below {w w' : World} {a : Option Addr} {zs : List Bool} (h : Bools w a zs) {B : Nat} (hb : Below B w w') (hB : w.heap.size ≤ B) : Bools w' a zs := by
  obtain ⟨h1, h3⟩ := h
  refine ⟨h1, ?_⟩
  rcases h3 with hz | ⟨b, off, rfl, hc⟩
  · exact .inl hz
  · refine .inr ⟨b, off, rfl, fun i hi => ?_⟩
    have h := hc i hi
    rw [hb.cell (p := ⟨b, _, .none⟩) (Nat.lt_of_lt_of_le (World.block_lt_of_cell? w _ h) hB)]
    exact h
/-- An address at which a cell is read is a plain one. -/
theorem plain_addr {w : World} {a : Addr} {v : Value} (h : w.cell? (a.add 0) = some v) : ∃ b off, a = ⟨b, off, none⟩ := by
  cases a with
  | mk b off spot =>
    cases spot with
    | none => exact ⟨b, off, rfl⟩
    | some s =>
      simp only [Addr.add, if_pos, World.cell?] at h
      split at h <;> simp at h
theorem maxLen_le {n : Nat} (h : n ≤ maxLen) : n ≤ 9223372036854775807 := by unfold maxLen at h; omega
section
variable {H : Type} {enc : TypeId × Value → H} {P : Program} {w : World} {base : Nat} {spare : Nat → Bool} {held : Bool}
theorem recs_of {t e : TypeId} {fs : Array Field} {a : Option Addr} {len cap : Nat} {d : DataW H} {ps : List MemPlace} (ht : P.underlying t = some (.slice e)) (he : P.underlying e = some (.struct fs)) (ce : P.cellsOf e = fs.size)
    (hpos : 0 < fs.size) (hfs : ∀ (j : Nat) (f : Field), fs[j]? = some f → f.offset = j ∧ P.cellsOf f.type = 1) (h : DataW.Trod enc P w base spare held t (.slice a len cap) d ps) :
    ∃ V : Nat → Nat → Value, Recs w a len fs.size V ∧ ∀ i, i < len → ∀ j f, fs[j]? = some f → ∃ n x, DataW.trod enc P w base spare held n f.type [V i j] = some x := by
  obtain ⟨fuel, hf⟩ := h
  rcases Go.Deep.open_slice ht hf with ⟨h0, _⟩ | ⟨ad, l, c, m, n, D, Pl, hcs, hb, hl, hm, hmm, hx, hel⟩
  · simp [Value.cells] at h0
    obtain ⟨rfl, rfl, rfl⟩ := h0
    exact ⟨fun _ _ => .bool false, ⟨Nat.zero_le _, .inl rfl⟩, fun i hi => by omega⟩
  · simp [Value.cells] at hcs
    obtain ⟨rfl, rfl, rfl⟩ := hcs
    have hlm : len ≤ m := by rw [hmm]; split <;> omega
    have each : ∀ i, i < len → ∃ cs' : List Value, cs'.length = fs.size ∧ (∀ j, j < fs.size → w.cell? (ad.add (i * fs.size + j)) = cs'[j]?) ∧ ∀ j f, fs[j]? = some f → ∃ n x, DataW.trod enc P w base spare held n f.type ((cs'.drop j).take 1) = some x := by
      intro i hi
      obtain ⟨cs', h1, h2⟩ := hel i (by omega)
      rw [ce] at h1
      obtain ⟨_, hlen, hcell⟩ := World.cells?_some h1
      obtain ⟨xs, k, hk, _, _, hxl, hff⟩ := DataW.trod_struct he h2
      refine ⟨cs', hlen, fun j hj => ?_, fun j f hjf => ?_⟩
      · have := hcell j hj
        rwa [Go.Deep.add_add] at this
      · have g := hff j f hjf
        obtain ⟨o1, c1⟩ := hfs j f hjf
        rw [o1, c1] at g
        have hj : j < fs.size := (Array.getElem?_eq_some_iff.1 hjf).1
        rw [List.getElem?_eq_getElem (by omega)] at g
        exact ⟨k, _, g⟩
    obtain ⟨q, hq⟩ := Go.Deep.choose_lt each
    refine ⟨fun i j => (q i).getD j (.bool false), ⟨maxLen_le (by omega), ?_⟩, fun i hi j f hjf => ?_⟩
    · by_cases hz : len = 0
      · exact .inl hz
      · have h00 := (hq 0 (by omega)).2.1 0 (by omega)
        have hl0 := (hq 0 (by omega)).1
        rw [List.getElem?_eq_getElem (by omega), Nat.zero_mul, Nat.zero_add] at h00
        obtain ⟨b, off, rfl⟩ := plain_addr h00
        refine .inr ⟨b, off, rfl, fun i j hi hj => ?_⟩
        have h := (hq i hi).2.1 j hj
        have hl1 := (hq i hi).1
        rw [Addr.add_mid] at h
        rw [h]
        simp [List.getD_eq_getElem?_getD, List.getElem?_eq_getElem (show j < (q i).length by omega)]
    · obtain ⟨n, x, hx⟩ := (hq i hi).2.2 j f hjf
      have hj : j < fs.size := (Array.getElem?_eq_some_iff.1 hjf).1
      have hl1 := (hq i hi).1
      have e : ((q i).drop j).take 1 = [(q i).getD j (.bool false)] := by
        rw [List.drop_eq_getElem_cons (show j < (q i).length by omega), List.getD_eq_getElem?_getD, List.getElem?_eq_getElem (show j < (q i).length by omega)]
        rfl
      rw [e] at hx
      exact ⟨n, x, hx⟩
theorem ints_of {t e : TypeId} {k : IntKind} {a : Option Addr} {len cap : Nat} {d : DataW H} {ps : List MemPlace} (ht : P.underlying t = some (.slice e)) (he : P.underlying e = some (.int k)) (hc : P.cellsOf e = 1)
    (h : DataW.Trod enc P w base spare held t (.slice a len cap) d ps) : ∃ zs : List Int, zs.length = len ∧ Ints k w a zs := by
  obtain ⟨fuel, hf⟩ := h
  rcases Go.ChangeShapes.open_ints ht he hc hf with ⟨h0, _⟩ | ⟨x, l, c, zs, hcs, _, hl, hm, hz, _, hcell, hwz⟩
  · simp [Value.cells] at h0
    obtain ⟨rfl, rfl, rfl⟩ := h0
    exact ⟨[], rfl, by simp, by simp, .inl rfl⟩
  · simp [Value.cells] at hcs
    obtain ⟨rfl, rfl, rfl⟩ := hcs
    have hlz : len ≤ zs.length := by rw [hz]; split <;> omega
    refine ⟨zs.take len, by simp; omega, ?_, fun n hn => hwz n (List.mem_of_mem_take hn), ?_⟩
    · have := maxLen_le hm; simp; omega
    · by_cases h0 : len = 0
      · exact .inl (by simp [h0])
      · obtain ⟨b, off, rfl⟩ := plain_addr (hcell 0 (by omega))
        refine .inr ⟨b, off, rfl, fun i hi => ?_⟩
        have hi' : i < len := by simp at hi; omega
        have := hcell i (by omega)
        rw [Addr.add_mid] at this
        rw [this]
        simp [List.getD_eq_getElem?_getD, hi']
theorem bools_of {t e : TypeId} {a : Option Addr} {len cap : Nat} {d : DataW H} {ps : List MemPlace} (ht : P.underlying t = some (.slice e)) (he : P.underlying e = some .bool) (hc : P.cellsOf e = 1)
    (h : DataW.Trod enc P w base spare held t (.slice a len cap) d ps) : ∃ zs : List Bool, zs.length = len ∧ Bools w a zs := by
  obtain ⟨fuel, hf⟩ := h
  rcases Go.Deep.open_slice ht hf with ⟨h0, _⟩ | ⟨ad, l, c, m, n, D, Pl, hcs, hb, hl, hm, hmm, hx, hel⟩
  · simp [Value.cells] at h0
    obtain ⟨rfl, rfl, rfl⟩ := h0
    exact ⟨[], rfl, by simp, .inl rfl⟩
  · simp [Value.cells] at hcs
    obtain ⟨rfl, rfl, rfl⟩ := hcs
    have hlm : len ≤ m := by rw [hmm]; split <;> omega
    have each : ∀ i, i < len → ∃ b : Bool, w.cell? (ad.add i) = some (.bool b) := by
      intro i hi
      obtain ⟨cs', h1, h2⟩ := hel i (by omega)
      rw [hc, Nat.mul_one] at h1
      obtain ⟨_, hlen, hcell⟩ := World.cells?_some h1
      obtain ⟨b, rfl, _⟩ := DataW.trod_bool he h2
      have := hcell 0 (by omega)
      rw [Go.Deep.add_add, Nat.add_zero] at this
      exact ⟨b, this⟩
    obtain ⟨q, hq⟩ := Go.Deep.choose_lt each
    refine ⟨(List.range len).map q, by simp, by simpa using maxLen_le (by omega), ?_⟩
    by_cases hz : len = 0
    · exact .inl (by simp [hz])
    · obtain ⟨b, off, rfl⟩ := plain_addr (hq 0 (by omega))
      refine .inr ⟨b, off, rfl, fun i hi => ?_⟩
      have hi' : i < len := by simpa using hi
      have := hq i hi'
      rw [Addr.add_mid] at this
      rw [this]
      simp [List.getD_eq_getElem?_getD, hi']
end
/-- A slice of bytes. -/
theorem Ints.bytes {w : World} {a : Option Addr} {zs : List Int} (h : Ints .u8 w a zs) (hl : zs.length ≤ 1152921504606846976) : ∃ bs : List Nat, bs.length = zs.length ∧ Row w a bs := by
  obtain ⟨h1, h2, h3⟩ := h
  refine ⟨zs.map Int.toNat, by simp, ?_, by simpa using hl, ?_⟩
  · rw [small_iff]
    intro x hx
    obtain ⟨z, hz, rfl⟩ := List.mem_map.1 hx
    have := bounds_u8 (h2 z hz)
    omega
  · rcases h3 with h3 | ⟨b, off, rfl, hc⟩
    · exact .inl (by simpa using h3)
    · refine .inr ⟨b, off, rfl, fun i hi => ?_⟩
      have hi' : i < zs.length := by simpa using hi
      rw [hc i hi']
      have hb := bounds_u8 (h2 _ (List.getElem_mem hi'))
      simp [List.getD_eq_getElem?_getD, hi']
      omega
end Go.Proofs.Ythnpkojfkhndoaa
