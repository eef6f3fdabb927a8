/- Maps keyed by places: a map's block as a list of keys with their values, in whatever order. -/
import Derived.Test.YtjjgjgncnifjmaaKTab3
import Derived.DeepKeys4
import Derived.Maps.RangeRun
import Derived.WideKeyEntry
namespace Go.Proofs.Ytjjgjgncnifjmaa
open Go.RowKit
open Go.ChangeMaps (setBlock)
set_option linter.unusedVariables false
def plV (q : Int × Int) : Value := .agg #[.int .i64 q.1, .int .i64 q.2]
theorem plV_inj {q q' : Int × Int} (h : plV q = plV q') : q = q' := by
  unfold plV at h
  simp at h
  exact Prod.ext h.1 h.2
def In64 (x : Int) : Prop := (Lit.int .i64 x).wf = true
def PIn (q : Int × Int) : Prop := In64 q.1 ∧ In64 q.2
theorem in64_of {x : Int} (h1 : -9223372036854775808 ≤ x) (h2 : x ≤ 9223372036854775807) : In64 x := WalkArith.wf_i64 (by omega)
theorem Try.laidOutK : laidOutB Try.prog = true := by kernel_rfl
theorem Try.rowP : (40 : TypeId) < Try.prog.types.size := of_decide_eq_true (by kernel_rfl)
theorem Try.keyAtP : Try.prog.keyTypeAt 2 40 = true := by kernel_rfl
theorem Try.three : 2 + 1 ≤ 10000 := of_decide_eq_true (by kernel_rfl)
theorem Try.lawP : WideMaps.KeyLaw Try.prog 40 := deep_law_laid (m := 2) Try.laidOutK Try.three Try.rowP Try.keyAtP (by rw [Try.underlying40])
theorem Try.keyTypeP : Try.prog.keyType 40 = true := by kernel_rfl
theorem Try.cellsP : Try.prog.cellsOf 40 = 2 := by kernel_rfl
theorem Try.cellsI : Try.prog.cellsOf 3 = 1 := by kernel_rfl
theorem one_more {k n : Nat} (h : k < n) : ∃ m, n = m + 1 := ⟨n - 1, by omega⟩
theorem Try.sizeT : ∃ m, Try.prog.types.size = m + 1 := one_more Try.rowP
theorem key_of {q : Int × Int} (h : PIn q) : ∃ l, keyOf Try.prog 40 (plV q) = some l := by
  obtain ⟨m, hm⟩ := Try.sizeT
  obtain ⟨h1, h2⟩ := h
  unfold In64 at h1 h2
  have hf : (plV q).formed Try.prog 40 = true := by unfold plV; simp [Value.formed, Try.underlying40, Try.cellsP]
  have hk : ∃ ls, Try.prog.keyLits (Try.prog.types.size + 1) 40 (plV q).cells.toList = some ls := by
    rw [hm]
    refine ⟨[.int .i64 q.1, .int .i64 q.2], ?_⟩
    unfold plV
    simp [Program.keyLits, Try.underlying40, Try.underlying3, Try.cellsP, Try.cellsI, Value.cells, h1, h2]
  obtain ⟨ls, hls⟩ := hk
  refine ⟨.string (keyBytes ls), ?_⟩
  unfold keyOf
  rw [Try.underlying40]
  simp only [Try.keyTypeP, hf, Bool.and_self, if_true, hls, Option.map_some]
/-- An entry's key and value. -/
def kvE (e : MapEntry) : Value × Value := (e.key, e.val)
def kvG (p : (Int × Int) × Value) : Value × Value := (plV p.1, p.2)
/-- The entries are these, in whatever order. -/
structure Ent (es : Array MapEntry) (clock : Nat) (G : List ((Int × Int) × Value)) : Prop where
  kv : (es.toList.map kvE).Perm (G.map kvG)
  nd : (G.map Prod.fst).Nodup
  rng : ∀ p ∈ G, PIn p.1
  old : ∀ x ∈ es.toList, x.born < clock
  born : (es.toList.map (·.born)).Nodup
theorem Ent.perm {es : Array MapEntry} {clock : Nat} {G G' : List ((Int × Int) × Value)} (h : Ent es clock G) (p : G.Perm G') : Ent es clock G' :=
  ⟨h.kv.trans (p.map _), (p.map _).nodup_iff.1 h.nd, fun q hq => h.rng q (p.mem_iff.2 hq), h.old, h.born⟩
theorem Ent.keys {es : Array MapEntry} {clock : Nat} {G : List ((Int × Int) × Value)} (h : Ent es clock G) : ∀ e ∈ es.toList, ∃ l, keyOf Try.prog 40 e.key = some l := by
  intro e he
  have := h.kv.mem_iff.1 (List.mem_map.2 ⟨e, he, rfl⟩)
  obtain ⟨p, hp, hpe⟩ := List.mem_map.1 this
  obtain ⟨l, hl⟩ := key_of (h.rng p hp)
  refine ⟨l, ?_⟩
  have : plV p.1 = e.key := congrArg Prod.fst hpe
  rw [← this]
  exact hl
theorem Ent.of_entry {es : Array MapEntry} {clock : Nat} {G : List ((Int × Int) × Value)} (h : Ent es clock G) {e : MapEntry} (he : e ∈ es.toList) {q : Int × Int} (hk : e.key = plV q) : (q, e.val) ∈ G := by
  obtain ⟨p, hp, hpe⟩ := List.mem_map.1 (h.kv.mem_iff.1 (List.mem_map.2 ⟨e, he, rfl⟩))
  have h1 : plV p.1 = e.key := congrArg Prod.fst hpe
  have h2 : p.2 = e.val := congrArg Prod.snd hpe
  have h3 : p.1 = q := plV_inj (h1.trans hk)
  rw [← h2, ← h3]
  exact hp
theorem Ent.to_entry {es : Array MapEntry} {clock : Nat} {G : List ((Int × Int) × Value)} (h : Ent es clock G) {q : Int × Int} {v : Value} (hq : (q, v) ∈ G) : ∃ e ∈ es.toList, e.key = plV q ∧ e.val = v := by
  obtain ⟨e, he, h1⟩ := List.mem_map.1 (h.kv.mem_iff.2 (List.mem_map.2 ⟨_, hq, rfl⟩))
  exact ⟨e, he, congrArg Prod.fst h1, congrArg Prod.snd h1⟩
theorem nd_val {G : List ((Int × Int) × Value)} (h : (G.map Prod.fst).Nodup) {q : Int × Int} {v v' : Value} (h1 : (q, v) ∈ G) (h2 : (q, v') ∈ G) : v = v' := by
  induction G with
  | nil => cases h1
  | cons p G ih =>
    rw [List.map_cons, List.nodup_cons] at h
    rcases List.mem_cons.1 h1 with e1 | m1 <;> rcases List.mem_cons.1 h2 with e2 | m2
    · rw [← e2] at e1; cases e1; rfl
    · exact absurd (List.mem_map.2 ⟨_, m2, by rw [← e1]⟩) h.1
    · exact absurd (List.mem_map.2 ⟨_, m1, by rw [← e2]⟩) h.1
    · exact ih h.2 m1 m2
/-- Block b is a map that has these. -/
def Mp (w : World) (b : Nat) (G : List ((Int × Int) × Value)) : Prop := ∃ es clock, w.heap[b]? = some (.map es clock) ∧ Ent es clock G
theorem Mp.lt {w : World} {b : Nat} {G : List ((Int × Int) × Value)} (h : Mp w b G) : b < w.heap.size := by
  obtain ⟨es, clock, hb, _⟩ := h
  exact (Array.getElem?_eq_some_iff.1 hb).1
theorem Mp.perm {w : World} {b : Nat} {G G' : List ((Int × Int) × Value)} (h : Mp w b G) (p : G.Perm G') : Mp w b G' := by
  obtain ⟨es, clock, hb, E⟩ := h
  exact ⟨es, clock, hb, E.perm p⟩
theorem Mp.kept {S : List Nat} {w w' : World} {b : Nat} {G : List ((Int × Int) × Value)} (h : Mp w b G) (k : Kp S w w') (hn : b ∉ S) : Mp w' b G := by
  have hlt := h.lt
  obtain ⟨es, clock, hb, E⟩ := h
  exact ⟨es, clock, (k.block b hlt hn).trans hb, E⟩
theorem Mp.drewN {w : World} {b : Nat} {G : List ((Int × Int) × Value)} (h : Mp w b G) (k : Nat) : Mp (w.drewN k) b G := h
theorem Mp.made (w : World) : Mp (w.alloc (.map #[] 0)) w.heap.size [] := ⟨#[], 0, heap_alloc_new w _, by simp, by simp, by simp, by simp, by simp⟩
theorem Mp.nd {w : World} {b : Nat} {G : List ((Int × Int) × Value)} (h : Mp w b G) : (G.map Prod.fst).Nodup := by
  obtain ⟨es, clock, hb, E⟩ := h
  exact E.nd
theorem Mp.rng {w : World} {b : Nat} {G : List ((Int × Int) × Value)} (h : Mp w b G) : ∀ p ∈ G, PIn p.1 := by
  obtain ⟨es, clock, hb, E⟩ := h
  exact E.rng
theorem kp_set {w : World} {b : Nat} {o o' : Obj} (hb : w.heap[b]? = some o) : Kp [b] w (setBlock w b o') :=
  ⟨rfl, rfl, rfl, by simp [setBlock], fun k hk hn => (MapKept.heap_set hb).2 k (by simpa using hn)⟩
/-- What comes of a look-up. -/
def lookV (c : Bool) (v : Value) (is : Bool) : Value := if c then .tuple #[v, .bool is] else v
theorem Mp.hit {w : World} {b : Nat} {G : List ((Int × Int) × Value)} (h : Mp w b G) {t e : TypeId} (ht : Try.prog.underlying t = some (.map 40 e)) {q : Int × Int} {v : Value} (hq : (q, v) ∈ G) (c : Bool) :
    (Instr.lookup t (.map (some b)) (plV q) c).run Try.prog w = .ok (lookV c v true) w := by
  obtain ⟨es, clock, hb, E⟩ := h
  obtain ⟨l, hl⟩ := key_of (E.rng _ hq)
  rcases Try.lawP.find w hl es.toList E.keys with ⟨_, h2⟩ | ⟨j, e0, h1, h2, h3⟩
  · obtain ⟨e0, he, hk, _⟩ := E.to_entry hq
    exact absurd hk (h2 e0 he)
  · have hv := nd_val E.nd (E.of_entry (List.mem_of_getElem? h2) h3) hq
    simp [Instr.lookup, run_underlying ht, MapKept.run_getObj_map hb, Try.lawP.check w _ hl, h1, Result.andThen, lookV, hv]
theorem Mp.miss {w : World} {b : Nat} {G : List ((Int × Int) × Value)} (h : Mp w b G) {t e : TypeId} (ht : Try.prog.underlying t = some (.map 40 e)) {z : Value} (hz : (zeroValue e).run Try.prog w = .ok z w) {q : Int × Int} (hi : PIn q) (hq : ∀ p ∈ G, p.1 ≠ q) (c : Bool) :
    (Instr.lookup t (.map (some b)) (plV q) c).run Try.prog w = .ok (lookV c z false) w := by
  obtain ⟨es, clock, hb, E⟩ := h
  obtain ⟨l, hl⟩ := key_of hi
  rcases Try.lawP.find w hl es.toList E.keys with ⟨h1, _⟩ | ⟨j, e0, _, h2, h3⟩
  · simp [Instr.lookup, run_underlying ht, MapKept.run_getObj_map hb, Try.lawP.check w _ hl, h1, hz, Result.andThen, lookV]
  · exact absurd rfl (hq _ (E.of_entry (List.mem_of_getElem? h2) h3))
theorem look_nil {w : World} {t e : TypeId} (ht : Try.prog.underlying t = some (.map 40 e)) {z : Value} (hz : (zeroValue e).run Try.prog w = .ok z w) {q : Int × Int} (hi : PIn q) (c : Bool) :
    (Instr.lookup t (.map none) (plV q) c).run Try.prog w = .ok (lookV c z false) w := by
  obtain ⟨l, hl⟩ := key_of hi
  rcases Try.lawP.find w hl [] (by simp) with ⟨h1, _⟩ | ⟨j, e0, _, h2, h3⟩
  · simp [Instr.lookup, run_underlying ht, Try.lawP.check w _ hl, h1, hz, Result.andThen, lookV]
  · simp at h2
/-- Another value at a key. -/
def setF (q : Int × Int) (v : Value) (p : (Int × Int) × Value) : (Int × Int) × Value := if p.1 = q then (q, v) else p
theorem setF_key (q : Int × Int) (v : Value) (p : (Int × Int) × Value) : (setF q v p).1 = p.1 := by
  unfold setF
  split
  · rename_i h; exact h.symm
  · rfl
theorem setF_keys (q : Int × Int) (v : Value) (G : List ((Int × Int) × Value)) : (G.map (setF q v)).map Prod.fst = G.map Prod.fst := by
  rw [List.map_map]
  exact List.map_congr_left fun p _ => setF_key q v p
/-- At the list of entries: one set is the same as that at its key. -/
theorem set_is {G : List ((Int × Int) × Value)} {l : List (Value × Value)} (hp : l.Perm (G.map kvG)) (hn : (G.map Prod.fst).Nodup) {j : Nat} {q : Int × Int} {v0 v : Value} (hj : l[j]? = some (plV q, v0)) : (l.set j (plV q, v)).Perm ((G.map (setF q v)).map kvG) := by
  obtain ⟨hlt, hje⟩ := List.getElem?_eq_some_iff.1 hj
  have e1 : l = l.take j ++ (plV q, v0) :: l.drop (j + 1) := by rw [← hje, List.getElem_cons_drop, List.take_append_drop]
  have e2 : l.set j (plV q, v) = l.take j ++ (plV q, v) :: l.drop (j + 1) := by rw [List.set_eq_take_append_cons_drop, if_pos hlt]
  have hm : (plV q, v0) ∈ G.map kvG := hp.mem_iff.1 (List.mem_of_getElem? hj)
  obtain ⟨p, hpG, hpe⟩ := List.mem_map.1 hm
  have p1 : p.1 = q := plV_inj (congrArg Prod.fst hpe)
  have p2 : p.2 = v0 := congrArg Prod.snd hpe
  obtain ⟨A, B, rfl⟩ := List.append_of_mem hpG
  rw [List.map_append, List.map_cons] at hn
  have hnot : ∀ x ∈ A ++ B, x.1 ≠ q := by
    intro x hx
    rw [← p1]
    have hn' : ((A.map Prod.fst) ++ p.1 :: B.map Prod.fst).Nodup := hn
    have hn2 := (List.perm_middle.nodup_iff).1 hn'
    rw [List.nodup_cons] at hn2
    intro e
    apply hn2.1
    rw [← List.map_append, ← e]
    exact List.mem_map.2 ⟨x, hx, rfl⟩
  have same : ∀ C : List ((Int × Int) × Value), (∀ x ∈ C, x.1 ≠ q) → C.map (setF q v) = C := by
    intro C hC
    conv => rhs; rw [← List.map_id C]
    refine List.map_congr_left fun x hx => ?_
    unfold setF
    rw [if_neg (hC x hx)]
    rfl
  rw [e2]
  have e3 : (A ++ p :: B).map (setF q v) = A ++ (q, v) :: B := by
    rw [List.map_append, List.map_cons, same A (fun x hx => hnot x (by simp [hx])), same B (fun x hx => hnot x (by simp [hx]))]
    unfold setF
    rw [if_pos p1]
  rw [e3, List.map_append, List.map_cons]
  rw [e1, List.map_append, List.map_cons] at hp
  have e4 : kvG p = (plV q, v0) := hpe
  rw [e4] at hp
  have hrest : (l.take j ++ l.drop (j + 1)).Perm (A.map kvG ++ B.map kvG) := by
    have := (List.perm_middle.symm.trans hp).trans List.perm_middle
    exact List.Perm.cons_inv this
  exact List.perm_middle.trans ((hrest.cons _).trans List.perm_middle.symm)
theorem Ent.set {es : Array MapEntry} {clock : Nat} {G : List ((Int × Int) × Value)} (h : Ent es clock G) {j : Nat} {e0 : MapEntry} {q : Int × Int} (hj : es.toList[j]? = some e0) (hk : e0.key = plV q) (v : Value) :
    Ent (es.modify j fun e => { e with key := plV q, val := v }) clock (G.map (setF q v)) := by
  have e1 : (es.modify j fun e => { e with key := plV q, val := v }).toList = es.toList.set j { e0 with key := plV q, val := v } := by
    rw [Array.toList_modify]
    apply List.ext_getElem?
    intro i
    rw [List.getElem?_modify, List.getElem?_set]
    by_cases hi : j = i
    · subst hi
      obtain ⟨hlt, hje⟩ := List.getElem?_eq_some_iff.1 hj
      simp [hj]
      simpa using hlt
    · simp [hi]
  refine ⟨?_, by rw [setF_keys]; exact h.nd, ?_, ?_, ?_⟩
  · rw [e1, List.map_set]
    refine set_is h.kv h.nd (v0 := e0.val) ?_
    rw [List.getElem?_map, hj, ← hk]
    rfl
  · intro p hp
    obtain ⟨p0, hp0, rfl⟩ := List.mem_map.1 hp
    rw [setF_key]
    exact h.rng p0 hp0
  · intro x hx
    rw [e1] at hx
    rcases List.mem_or_eq_of_mem_set hx with m | m
    · exact h.old x m
    · rw [m]; exact h.old e0 (List.mem_of_getElem? hj)
  · rw [e1, List.map_set]
    have : (es.toList.map (·.born)).set j e0.born = es.toList.map (·.born) := WideElems.set_self _ _ _ (by rw [List.getElem?_map, hj]; rfl)
    show ((es.toList.map (·.born)).set j e0.born).Nodup
    rw [this]
    exact h.born
theorem Ent.push {es : Array MapEntry} {clock : Nat} {G : List ((Int × Int) × Value)} (h : Ent es clock G) {q : Int × Int} (hi : PIn q) (hq : ∀ p ∈ G, p.1 ≠ q) (v : Value) :
    Ent (es.push ⟨plV q, v, clock⟩) (clock + 1) (G ++ [(q, v)]) := by
  refine ⟨?_, ?_, ?_, ?_, ?_⟩
  · rw [Array.toList_push, List.map_append, List.map_append]
    exact h.kv.append (List.Perm.refl _)
  · rw [List.map_append]
    refine List.nodup_append.2 ⟨h.nd, by simp, fun a ha c hc e => ?_⟩
    obtain ⟨p, hp, rfl⟩ := List.mem_map.1 ha
    simp at hc
    exact hq p hp (e.trans hc)
  · intro p hp
    rcases List.mem_append.1 hp with m | m
    · exact h.rng p m
    · simp at m; rw [m]; exact hi
  · intro x hx
    rw [Array.toList_push] at hx
    rcases List.mem_append.1 hx with m | m
    · have := h.old x m; omega
    · simp at m; rw [m]; show clock < clock + 1; omega
  · rw [Array.toList_push, List.map_append]
    refine List.nodup_append.2 ⟨h.born, by simp, fun a ha c hc e => ?_⟩
    obtain ⟨p, hp, rfl⟩ := List.mem_map.1 ha
    simp at hc
    have := h.old p hp
    omega
theorem es_key {es : Array MapEntry} {j : Nat} {e0 : MapEntry} (hj : es.toList[j]? = some e0) (d : Value) : ((es[j]?).map (·.key)).getD d = e0.key := by
  rw [← Array.getElem?_toList, hj]; rfl
/-- 'm[k] = v' at a key that is there. -/
theorem Mp.put_hit {w : World} {b : Nat} {G : List ((Int × Int) × Value)} (h : Mp w b G) {t e : TypeId} (ht : Try.prog.underlying t = some (.map 40 e)) {q : Int × Int} {v0 : Value} (hq : (q, v0) ∈ G) (v : Value) :
    ∃ w', (Instr.mapUpdate t (.map (some b)) (plV q) v).run Try.prog w = .ok () w' ∧ Mp w' b (G.map (setF q v)) ∧ Kp [b] w w' := by
  obtain ⟨es, clock, hb, E⟩ := h
  obtain ⟨l, hl⟩ := key_of (E.rng _ hq)
  rcases Try.lawP.find w hl es.toList E.keys with ⟨_, h2⟩ | ⟨j, e0, h1, h2, h3⟩
  · obtain ⟨e0, he, hk, _⟩ := E.to_entry hq
    exact absurd hk (h2 e0 he)
  · refine ⟨setBlock w b (.map (es.modify j fun e => { e with key := plV q, val := v }) clock), ?_, ⟨_, clock, (MapKept.heap_set hb).1, E.set h2 h3 v⟩, kp_set hb⟩
    simp [Instr.mapUpdate, run_underlying ht, MapKept.run_getObj_map hb, Try.lawP.check w _ hl, h1, es_key h2, h3, Try.lawP.stays w hl, MapKept.run_setObj_map _ hb, Result.andThen, setBlock]
/-- .. at one that is not. -/
theorem Mp.put_miss {w : World} {b : Nat} {G : List ((Int × Int) × Value)} (h : Mp w b G) {t e : TypeId} (ht : Try.prog.underlying t = some (.map 40 e)) {q : Int × Int} (hi : PIn q) (hq : ∀ p ∈ G, p.1 ≠ q) (v : Value) :
    ∃ w', (Instr.mapUpdate t (.map (some b)) (plV q) v).run Try.prog w = .ok () w' ∧ Mp w' b (G ++ [(q, v)]) ∧ Kp [b] w w' := by
  obtain ⟨es, clock, hb, E⟩ := h
  obtain ⟨l, hl⟩ := key_of hi
  rcases Try.lawP.find w hl es.toList E.keys with ⟨h1, _⟩ | ⟨j, e0, _, h2, h3⟩
  · refine ⟨setBlock w b (.map (es.push ⟨plV q, v, clock⟩) (clock + 1)), ?_, ⟨_, clock + 1, (MapKept.heap_set hb).1, E.push hi hq v⟩, kp_set hb⟩
    simp [Instr.mapUpdate, run_underlying ht, MapKept.run_getObj_map hb, Try.lawP.check w _ hl, h1, MapKept.run_setObj_map _ hb, Result.andThen, setBlock]
  · exact absurd rfl (hq _ (E.of_entry (List.mem_of_getElem? h2) h3))
end Go.Proofs.Ytjjgjgncnifjmaa
