/- Maps, whatever their keys: a map's block as a list of keys with their values, in whatever order. -/
import Derived.Test.YtgahekhlbcnmaaaRows
import Derived.Test.YtgahekhlbcnmaaaKBase
import Derived.DeepKeys4
import Derived.Maps.RangeRun
import Derived.WideKeyEntry
namespace Go.Proofs.Ytgahekhlbcnmaaa.Gm
open Go.RowKit
open Go.ChangeMaps (setBlock)
set_option linter.unusedVariables false
set_option linter.unusedSectionVars false
/-- A key type: how a key stands as a value, which keys can be. -/
structure Key (T : TypeId) (Q : Type) where
  val : Q → Value
  ok : Q → Prop
  inj : ∀ {q q' : Q}, val q = val q' → q = q'
  law : WideMaps.KeyLaw Try.prog T
  key : ∀ {q : Q}, ok q → ∃ l, keyOf Try.prog T (val q) = some l
variable {T : TypeId} {Q : Type} [DecidableEq Q] {K : Key T Q}
/-- An entry's key and value. -/
def kvE (e : MapEntry) : Value × Value := (e.key, e.val)
def kvG (K : Key T Q) (p : Q × Value) : Value × Value := (K.val p.1, p.2)
/-- The entries are these, in whatever order. -/
structure Ent (K : Key T Q) (es : Array MapEntry) (clock : Nat) (G : List (Q × Value)) : Prop where
  kv : (es.toList.map kvE).Perm (G.map (kvG K))
  nd : (G.map Prod.fst).Nodup
  rng : ∀ p ∈ G, K.ok p.1
  old : ∀ x ∈ es.toList, x.born < clock
  born : (es.toList.map (·.born)).Nodup
theorem Ent.perm {es : Array MapEntry} {clock : Nat} {G G' : List (Q × Value)} (h : Ent K es clock G) (p : G.Perm G') : Ent K es clock G' :=
  ⟨h.kv.trans (p.map _), (p.map _).nodup_iff.1 h.nd, fun q hq => h.rng q (p.mem_iff.2 hq), h.old, h.born⟩
theorem Ent.keys {es : Array MapEntry} {clock : Nat} {G : List (Q × Value)} (h : Ent K es clock G) : ∀ e ∈ es.toList, ∃ l, keyOf Try.prog T e.key = some l := by
  intro e he
  have := h.kv.mem_iff.1 (List.mem_map.2 ⟨e, he, rfl⟩)
  obtain ⟨p, hp, hpe⟩ := List.mem_map.1 this
  obtain ⟨l, hl⟩ := K.key (h.rng p hp)
  refine ⟨l, ?_⟩
  have : K.val p.1 = e.key := congrArg Prod.fst hpe
  rw [← this]
  exact hl
theorem Ent.of_entry {es : Array MapEntry} {clock : Nat} {G : List (Q × Value)} (h : Ent K es clock G) {e : MapEntry} (he : e ∈ es.toList) {q : Q} (hk : e.key = K.val q) : (q, e.val) ∈ G := by
  obtain ⟨p, hp, hpe⟩ := List.mem_map.1 (h.kv.mem_iff.1 (List.mem_map.2 ⟨e, he, rfl⟩))
  have h1 : K.val p.1 = e.key := congrArg Prod.fst hpe
  have h2 : p.2 = e.val := congrArg Prod.snd hpe
  have h3 : p.1 = q := K.inj (h1.trans hk)
  rw [← h2, ← h3]
  exact hp
theorem Ent.to_entry {es : Array MapEntry} {clock : Nat} {G : List (Q × Value)} (h : Ent K es clock G) {q : Q} {v : Value} (hq : (q, v) ∈ G) : ∃ e ∈ es.toList, e.key = K.val q ∧ e.val = v := by
  obtain ⟨e, he, h1⟩ := List.mem_map.1 (h.kv.mem_iff.2 (List.mem_map.2 ⟨_, hq, rfl⟩))
  exact ⟨e, he, congrArg Prod.fst h1, congrArg Prod.snd h1⟩
theorem nd_val {G : List (Q × Value)} (h : (G.map Prod.fst).Nodup) {q : Q} {v v' : Value} (h1 : (q, v) ∈ G) (h2 : (q, v') ∈ G) : v = v' := by
  induction G with
  | nil => cases h1
  | cons p G ih =>
    rw [List.map_cons, List.nodup_cons] at h
    rcases List.mem_cons.1 h1 with e1 | m1 <;> rcases List.mem_cons.1 h2 with e2 | m2
    · rw [← e2] at e1; cases e1; rfl
    · exact absurd (List.mem_map.2 ⟨_, m2, by rw [← e1]⟩) h.1
    · exact absurd (List.mem_map.2 ⟨_, m1, by rw [← e2]⟩) h.1
    · exact ih h.2 m1 m2
/-- Block b is a map that has these. -/
def Mp (K : Key T Q) (w : World) (b : Nat) (G : List (Q × Value)) : Prop := ∃ es clock, w.heap[b]? = some (.map es clock) ∧ Ent K es clock G
theorem Mp.lt {w : World} {b : Nat} {G : List (Q × Value)} (h : Mp K w b G) : b < w.heap.size := by
  obtain ⟨es, clock, hb, _⟩ := h
  exact (Array.getElem?_eq_some_iff.1 hb).1
theorem Mp.perm {w : World} {b : Nat} {G G' : List (Q × Value)} (h : Mp K w b G) (p : G.Perm G') : Mp K w b G' := by
  obtain ⟨es, clock, hb, E⟩ := h
  exact ⟨es, clock, hb, E.perm p⟩
theorem Mp.kept {S : List Nat} {w w' : World} {b : Nat} {G : List (Q × Value)} (h : Mp K w b G) (k : Kp S w w') (hn : b ∉ S) : Mp K w' b G := by
  have hlt := h.lt
  obtain ⟨es, clock, hb, E⟩ := h
  exact ⟨es, clock, (k.block b hlt hn).trans hb, E⟩
theorem Mp.drewN {w : World} {b : Nat} {G : List (Q × Value)} (h : Mp K w b G) (k : Nat) : Mp K (w.drewN k) b G := h
theorem Mp.made (w : World) : Mp K (w.alloc (.map #[] 0)) w.heap.size [] := ⟨#[], 0, heap_alloc_new w _, by simp, by simp, by simp, by simp, by simp⟩
theorem Mp.nd {w : World} {b : Nat} {G : List (Q × Value)} (h : Mp K w b G) : (G.map Prod.fst).Nodup := by
  obtain ⟨es, clock, hb, E⟩ := h
  exact E.nd
theorem Mp.rng {w : World} {b : Nat} {G : List (Q × Value)} (h : Mp K w b G) : ∀ p ∈ G, K.ok p.1 := by
  obtain ⟨es, clock, hb, E⟩ := h
  exact E.rng
theorem kp_set {w : World} {b : Nat} {o o' : Obj} (hb : w.heap[b]? = some o) : Kp [b] w (setBlock w b o') :=
  ⟨rfl, rfl, rfl, by simp [setBlock], fun k hk hn => (MapKept.heap_set hb).2 k (by simpa using hn)⟩
/-- What comes of a look-up. -/
def lookV (c : Bool) (v : Value) (is : Bool) : Value := if c then .tuple #[v, .bool is] else v
theorem Mp.hit {w : World} {b : Nat} {G : List (Q × Value)} (h : Mp K w b G) {t e : TypeId} (ht : Try.prog.underlying t = some (.map T e)) {q : Q} {v : Value} (hq : (q, v) ∈ G) (c : Bool) :
    (Instr.lookup t (.map (some b)) (K.val q) c).run Try.prog w = .ok (lookV c v true) w := by
  obtain ⟨es, clock, hb, E⟩ := h
  obtain ⟨l, hl⟩ := K.key (E.rng _ hq)
  rcases K.law.find w hl es.toList E.keys with ⟨_, h2⟩ | ⟨j, e0, h1, h2, h3⟩
  · obtain ⟨e0, he, hk, _⟩ := E.to_entry hq
    exact absurd hk (h2 e0 he)
  · have hv := nd_val E.nd (E.of_entry (List.mem_of_getElem? h2) h3) hq
    simp [Instr.lookup, run_underlying ht, MapKept.run_getObj_map hb, K.law.check w _ hl, h1, Result.andThen, lookV, hv]
theorem Mp.miss {w : World} {b : Nat} {G : List (Q × Value)} (h : Mp K w b G) {t e : TypeId} (ht : Try.prog.underlying t = some (.map T e)) {z : Value} (hz : (zeroValue e).run Try.prog w = .ok z w) {q : Q} (hi : K.ok q) (hq : ∀ p ∈ G, p.1 ≠ q) (c : Bool) :
    (Instr.lookup t (.map (some b)) (K.val q) c).run Try.prog w = .ok (lookV c z false) w := by
  obtain ⟨es, clock, hb, E⟩ := h
  obtain ⟨l, hl⟩ := K.key hi
  rcases K.law.find w hl es.toList E.keys with ⟨h1, _⟩ | ⟨j, e0, _, h2, h3⟩
  · simp [Instr.lookup, run_underlying ht, MapKept.run_getObj_map hb, K.law.check w _ hl, h1, hz, Result.andThen, lookV]
  · exact absurd rfl (hq _ (E.of_entry (List.mem_of_getElem? h2) h3))
theorem look_nil {w : World} {t e : TypeId} (ht : Try.prog.underlying t = some (.map T e)) {z : Value} (hz : (zeroValue e).run Try.prog w = .ok z w) {q : Q} (hi : K.ok q) (c : Bool) :
    (Instr.lookup t (.map none) (K.val q) c).run Try.prog w = .ok (lookV c z false) w := by
  obtain ⟨l, hl⟩ := K.key hi
  rcases K.law.find w hl [] (by simp) with ⟨h1, _⟩ | ⟨j, e0, _, h2, h3⟩
  · simp [Instr.lookup, run_underlying ht, K.law.check w _ hl, h1, hz, Result.andThen, lookV]
  · simp at h2
/-- Another value at a key. -/
def setF (q : Q) (v : Value) (p : Q × Value) : Q × Value := if p.1 = q then (q, v) else p
theorem setF_key (q : Q) (v : Value) (p : Q × Value) : (setF q v p).1 = p.1 := by
  unfold setF
  split
  · rename_i h; exact h.symm
  · rfl
theorem setF_keys (q : Q) (v : Value) (G : List (Q × Value)) : (G.map (setF q v)).map Prod.fst = G.map Prod.fst := by
  rw [List.map_map]
  exact List.map_congr_left fun p _ => setF_key q v p
/-- At the list of entries: one set is the same as that at its key. -/
theorem set_is {G : List (Q × Value)} {l : List (Value × Value)} (hp : l.Perm (G.map (kvG K))) (hn : (G.map Prod.fst).Nodup) {j : Nat} {q : Q} {v0 v : Value} (hj : l[j]? = some (K.val q, v0)) : (l.set j (K.val q, v)).Perm ((G.map (setF q v)).map (kvG K)) := by
  obtain ⟨hlt, hje⟩ := List.getElem?_eq_some_iff.1 hj
  have e1 : l = l.take j ++ (K.val q, v0) :: l.drop (j + 1) := by rw [← hje, List.getElem_cons_drop, List.take_append_drop]
  have e2 : l.set j (K.val q, v) = l.take j ++ (K.val q, v) :: l.drop (j + 1) := by rw [List.set_eq_take_append_cons_drop, if_pos hlt]
  have hm : (K.val q, v0) ∈ G.map (kvG K) := hp.mem_iff.1 (List.mem_of_getElem? hj)
  obtain ⟨p, hpG, hpe⟩ := List.mem_map.1 hm
  have p1 : p.1 = q := K.inj (congrArg Prod.fst hpe)
  have p2 : p.2 = v0 := congrArg Prod.snd hpe
  obtain ⟨A, B, rfl⟩ := List.append_of_mem hpG
  rw [List.map_append, List.map_cons] at hn
  have hnot : ∀ x ∈ A ++ B, x.1 ≠ q := by
    intro x hx
    rw [← p1]
    have hn' : ((A.map Prod.fst) ++ p.1 :: B.map Prod.fst).Nodup := hn
    have hn2 := (List.perm_middle.nodup_iff).1 hn'
    rw [List.nodup_cons] at hn2
    intro e
    apply hn2.1
    rw [← List.map_append, ← e]
    exact List.mem_map.2 ⟨x, hx, rfl⟩
  have same : ∀ C : List (Q × Value), (∀ x ∈ C, x.1 ≠ q) → C.map (setF q v) = C := by
    intro C hC
    conv => rhs; rw [← List.map_id C]
    refine List.map_congr_left fun x hx => ?_
    unfold setF
    rw [if_neg (hC x hx)]
    rfl
  rw [e2]
  have e3 : (A ++ p :: B).map (setF q v) = A ++ (q, v) :: B := by
    rw [List.map_append, List.map_cons, same A (fun x hx => hnot x (by simp [hx])), same B (fun x hx => hnot x (by simp [hx]))]
    unfold setF
    rw [if_pos p1]
  rw [e3, List.map_append, List.map_cons]
  rw [e1, List.map_append, List.map_cons] at hp
  have e4 : kvG K p = (K.val q, v0) := hpe
  rw [e4] at hp
  have hrest : (l.take j ++ l.drop (j + 1)).Perm (A.map (kvG K) ++ B.map (kvG K)) := by
    have := (List.perm_middle.symm.trans hp).trans List.perm_middle
    exact List.Perm.cons_inv this
  exact List.perm_middle.trans ((hrest.cons _).trans List.perm_middle.symm)
theorem Ent.set {es : Array MapEntry} {clock : Nat} {G : List (Q × Value)} (h : Ent K es clock G) {j : Nat} {e0 : MapEntry} {q : Q} (hj : es.toList[j]? = some e0) (hk : e0.key = K.val q) (v : Value) :
    Ent K (es.modify j fun e => { e with key := K.val q, val := v }) clock (G.map (setF q v)) := by
  have e1 : (es.modify j fun e => { e with key := K.val q, val := v }).toList = es.toList.set j { e0 with key := K.val q, val := v } := by
    rw [Array.toList_modify]
    apply List.ext_getElem?
    intro i
    rw [List.getElem?_modify, List.getElem?_set]
    by_cases hi : j = i
    · subst hi
      obtain ⟨hlt, hje⟩ := List.getElem?_eq_some_iff.1 hj
      simp [hj]
      simpa using hlt
    · simp [hi]
  refine ⟨?_, by rw [setF_keys]; exact h.nd, ?_, ?_, ?_⟩
  · rw [e1, List.map_set]
    refine set_is h.kv h.nd (v0 := e0.val) ?_
    rw [List.getElem?_map, hj, ← hk]
    rfl
  · intro p hp
    obtain ⟨p0, hp0, rfl⟩ := List.mem_map.1 hp
    rw [setF_key]
    exact h.rng p0 hp0
  · intro x hx
    rw [e1] at hx
    rcases List.mem_or_eq_of_mem_set hx with m | m
    · exact h.old x m
    · rw [m]; exact h.old e0 (List.mem_of_getElem? hj)
  · rw [e1, List.map_set]
    have : (es.toList.map (·.born)).set j e0.born = es.toList.map (·.born) := WideElems.set_self _ _ _ (by rw [List.getElem?_map, hj]; rfl)
    show ((es.toList.map (·.born)).set j e0.born).Nodup
    rw [this]
    exact h.born
theorem Ent.push {es : Array MapEntry} {clock : Nat} {G : List (Q × Value)} (h : Ent K es clock G) {q : Q} (hi : K.ok q) (hq : ∀ p ∈ G, p.1 ≠ q) (v : Value) :
    Ent K (es.push ⟨K.val q, v, clock⟩) (clock + 1) (G ++ [(q, v)]) := by
  refine ⟨?_, ?_, ?_, ?_, ?_⟩
  · rw [Array.toList_push, List.map_append, List.map_append]
    exact h.kv.append (List.Perm.refl _)
  · rw [List.map_append]
    refine List.nodup_append.2 ⟨h.nd, by simp, fun a ha c hc e => ?_⟩
    obtain ⟨p, hp, rfl⟩ := List.mem_map.1 ha
    simp at hc
    exact hq p hp (e.trans hc)
  · intro p hp
    rcases List.mem_append.1 hp with m | m
    · exact h.rng p m
    · simp at m; rw [m]; exact hi
  · intro x hx
    rw [Array.toList_push] at hx
    rcases List.mem_append.1 hx with m | m
    · have := h.old x m; omega
    · simp at m; rw [m]; show clock < clock + 1; omega
  · rw [Array.toList_push, List.map_append]
    refine List.nodup_append.2 ⟨h.born, by simp, fun a ha c hc e => ?_⟩
    obtain ⟨p, hp, rfl⟩ := List.mem_map.1 ha
    simp at hc
    have := h.old p hp
    omega
theorem es_key {es : Array MapEntry} {j : Nat} {e0 : MapEntry} (hj : es.toList[j]? = some e0) (d : Value) : ((es[j]?).map (·.key)).getD d = e0.key := by
  rw [← Array.getElem?_toList, hj]; rfl
/-- 'm[k] = v' at a key that is there. -/
theorem Mp.put_hit {w : World} {b : Nat} {G : List (Q × Value)} (h : Mp K w b G) {t e : TypeId} (ht : Try.prog.underlying t = some (.map T e)) {q : Q} {v0 : Value} (hq : (q, v0) ∈ G) (v : Value) :
    ∃ w', (Instr.mapUpdate t (.map (some b)) (K.val q) v).run Try.prog w = .ok () w' ∧ Mp K w' b (G.map (setF q v)) ∧ Kp [b] w w' := by
  obtain ⟨es, clock, hb, E⟩ := h
  obtain ⟨l, hl⟩ := K.key (E.rng _ hq)
  rcases K.law.find w hl es.toList E.keys with ⟨_, h2⟩ | ⟨j, e0, h1, h2, h3⟩
  · obtain ⟨e0, he, hk, _⟩ := E.to_entry hq
    exact absurd hk (h2 e0 he)
  · refine ⟨setBlock w b (.map (es.modify j fun e => { e with key := K.val q, val := v }) clock), ?_, ⟨_, clock, (MapKept.heap_set hb).1, E.set h2 h3 v⟩, kp_set hb⟩
    simp [Instr.mapUpdate, run_underlying ht, MapKept.run_getObj_map hb, K.law.check w _ hl, h1, es_key h2, h3, K.law.stays w hl, MapKept.run_setObj_map _ hb, Result.andThen, setBlock]
/-- .. at one that is not. -/
theorem Mp.put_miss {w : World} {b : Nat} {G : List (Q × Value)} (h : Mp K w b G) {t e : TypeId} (ht : Try.prog.underlying t = some (.map T e)) {q : Q} (hi : K.ok q) (hq : ∀ p ∈ G, p.1 ≠ q) (v : Value) :
    ∃ w', (Instr.mapUpdate t (.map (some b)) (K.val q) v).run Try.prog w = .ok () w' ∧ Mp K w' b (G ++ [(q, v)]) ∧ Kp [b] w w' := by
  obtain ⟨es, clock, hb, E⟩ := h
  obtain ⟨l, hl⟩ := K.key hi
  rcases K.law.find w hl es.toList E.keys with ⟨h1, _⟩ | ⟨j, e0, _, h2, h3⟩
  · refine ⟨setBlock w b (.map (es.push ⟨K.val q, v, clock⟩) (clock + 1)), ?_, ⟨_, clock + 1, (MapKept.heap_set hb).1, E.push hi hq v⟩, kp_set hb⟩
    simp [Instr.mapUpdate, run_underlying ht, MapKept.run_getObj_map hb, K.law.check w _ hl, h1, MapKept.run_setObj_map _ hb, Result.andThen, setBlock]
  · exact absurd rfl (hq _ (E.of_entry (List.mem_of_getElem? h2) h3))
/-- What is left without a key. -/
def without (q : Q) (G : List (Q × Value)) : List (Q × Value) := G.filter fun p => !decide (p.1 = q)
theorem erase_is2 {G : List (Q × Value)} {l : List (Value × Value)} (hp : l.Perm (G.map (kvG K))) (hn : (G.map Prod.fst).Nodup) {j : Nat} {q : Q} {v0 : Value} (hj : l[j]? = some (K.val q, v0)) : (l.eraseIdx j).Perm ((without q G).map (kvG K)) := by
  obtain ⟨hlt, hje⟩ := List.getElem?_eq_some_iff.1 hj
  have e1 : l = l.take j ++ (K.val q, v0) :: l.drop (j + 1) := by rw [← hje, List.getElem_cons_drop, List.take_append_drop]
  have e2 : l.eraseIdx j = l.take j ++ l.drop (j + 1) := List.eraseIdx_eq_take_drop_succ l j
  have hm : (K.val q, v0) ∈ G.map (kvG K) := hp.mem_iff.1 (List.mem_of_getElem? hj)
  obtain ⟨p, hpG, hpe⟩ := List.mem_map.1 hm
  have p1 : p.1 = q := K.inj (congrArg Prod.fst hpe)
  obtain ⟨A, B, rfl⟩ := List.append_of_mem hpG
  rw [List.map_append, List.map_cons] at hn
  have hnot : ∀ x ∈ A ++ B, x.1 ≠ q := by
    intro x hx
    rw [← p1]
    have hn2 := (List.perm_middle.nodup_iff).1 hn
    rw [List.nodup_cons] at hn2
    intro e
    apply hn2.1
    rw [← List.map_append, ← e]
    exact List.mem_map.2 ⟨x, hx, rfl⟩
  have e3 : without q (A ++ p :: B) = A ++ B := by
    unfold without
    rw [List.filter_append, List.filter_cons]
    have hp' : (!decide (p.1 = q)) = false := by simp [p1]
    rw [if_neg (by simp [p1]), ← List.filter_append]
    exact List.filter_eq_self.2 fun x hx => by simpa using hnot x hx
  rw [e3, e2, List.map_append]
  rw [e1, List.map_append, List.map_cons] at hp
  have e4 : kvG K p = (K.val q, v0) := hpe
  rw [e4] at hp
  exact List.Perm.cons_inv ((List.perm_middle.symm.trans hp).trans List.perm_middle)
theorem without_sub (q : Q) (G : List (Q × Value)) : (without q G).Sublist G := List.filter_sublist
/-- 'delete(m, k)' at a key that is there. -/
theorem Mp.del {w : World} {b : Nat} {G : List (Q × Value)} (h : Mp K w b G) {t e : TypeId} (ht : Try.prog.underlying t = some (.map T e)) {q : Q} {v0 : Value} (hq : (q, v0) ∈ G) (ty : TypeId) :
    ∃ w', (Builtin.delete_ #[t, T] ty #[.map (some b), K.val q]).run Try.prog w = .ok (.tuple #[]) w' ∧ Mp K w' b (without q G) ∧ Kp [b] w w' := by
  obtain ⟨es, clock, hb, E⟩ := h
  obtain ⟨l, hl⟩ := K.key (E.rng _ hq)
  rcases K.law.find w hl es.toList E.keys with ⟨_, h2⟩ | ⟨j, e0, h1, h2, h3⟩
  · obtain ⟨e0, he, hk, _⟩ := E.to_entry hq
    exact absurd hk (h2 e0 he)
  · have hsub := without_sub q G
    have el : (es.eraseIdxIfInBounds j).toList = es.toList.eraseIdx j := by simp
    refine ⟨setBlock w b (.map (es.eraseIdxIfInBounds j) clock), ?_, ⟨_, clock, (MapKept.heap_set hb).1, ?_, ?_, ?_, ?_, ?_⟩, kp_set hb⟩
    · simp [Builtin.delete_, run_underlying ht, MapKept.run_getObj_map hb, K.law.check w _ hl, h1, MapKept.run_setObj_map _ hb, Result.andThen, setBlock]
    · rw [el, ChangeMaps.map_eraseIdx]
      exact erase_is2 E.kv E.nd (v0 := e0.val) (by rw [List.getElem?_map, h2, ← h3]; rfl)
    · exact (hsub.map _).nodup E.nd
    · exact fun p hp => E.rng p (hsub.subset hp)
    · intro x hx
      rw [el] at hx
      exact E.old x (List.mem_of_mem_eraseIdx hx)
    · rw [el, ChangeMaps.map_eraseIdx]
      exact (List.eraseIdx_sublist _ _).nodup E.born
theorem del_nil {t e : TypeId} (ht : Try.prog.underlying t = some (.map T e)) {w : World} {q : Q} (hi : K.ok q) (ty : TypeId) :
    (Builtin.delete_ #[t, T] ty #[.map none, K.val q]).run Try.prog w = .ok (.tuple #[]) w := by
  obtain ⟨l, hl⟩ := K.key hi
  simp [Builtin.delete_, run_underlying ht, K.law.check w _ hl, Result.andThen]
theorem Mp.del_miss {w : World} {b : Nat} {G : List (Q × Value)} (h : Mp K w b G) {t e : TypeId} (ht : Try.prog.underlying t = some (.map T e)) {q : Q} (hi : K.ok q) (hq : ∀ p ∈ G, p.1 ≠ q) (ty : TypeId) :
    ∃ w', (Builtin.delete_ #[t, T] ty #[.map (some b), K.val q]).run Try.prog w = .ok (.tuple #[]) w' ∧ Mp K w' b G ∧ Kp [b] w w' := by
  obtain ⟨es, clock, hb, E⟩ := h
  obtain ⟨l, hl⟩ := K.key hi
  rcases K.law.find w hl es.toList E.keys with ⟨h1, _⟩ | ⟨j, e0, h1, h2, h3⟩
  · refine ⟨setBlock w b (.map es clock), ?_, ⟨es, clock, (MapKept.heap_set hb).1, E⟩, kp_set hb⟩
    simp [Builtin.delete_, run_underlying ht, MapKept.run_getObj_map hb, K.law.check w _ hl, h1, MapKept.run_setObj_map _ hb, Result.andThen, setBlock]
  · exact absurd rfl (hq _ (E.of_entry (List.mem_of_getElem? h2) h3))
/-- The entry with that stamp is the one at key q. -/
def Me (K : Key T Q) (w : World) (b : Nat) (G : List (Q × Value)) (q : Q) (st : Nat) : Prop := ∃ es clock, w.heap[b]? = some (.map es clock) ∧ Ent K es clock G ∧ ∃ (j : Nat) (e0 : MapEntry), es.toList[j]? = some e0 ∧ e0.born = st ∧ e0.key = K.val q
theorem Me.mp {w : World} {b : Nat} {G : List (Q × Value)} {q : Q} {st : Nat} (h : Me K w b G q st) : Mp K w b G := by
  obtain ⟨es, clock, hb, E, _⟩ := h
  exact ⟨es, clock, hb, E⟩
theorem Me.kept {S : List Nat} {w w' : World} {b : Nat} {G : List (Q × Value)} {q : Q} {st : Nat} (h : Me K w b G q st) (k : Kp S w w') (hn : b ∉ S) : Me K w' b G q st := by
  have hlt := h.mp.lt
  obtain ⟨es, clock, hb, E⟩ := h
  exact ⟨es, clock, (k.block b hlt hn).trans hb, E⟩
theorem modify_same {es : Array MapEntry} {j : Nat} {e0 : MapEntry} (hj : es.toList[j]? = some e0) : es.modify j (fun e => { e with key := e0.key }) = es := by
  apply Array.ext_getElem?
  intro i
  rw [Array.getElem?_modify]
  by_cases hi : j = i
  · subst hi
    rw [if_pos rfl, ← Array.getElem?_toList, hj]
    rfl
  · rw [if_neg hi]
theorem Mp.entry_hit {w : World} {b : Nat} {G : List (Q × Value)} (h : Mp K w b G) {t e : TypeId} (ht : Try.prog.underlying t = some (.map T e)) {q : Q} {v : Value} (hq : (q, v) ∈ G) :
    ∃ (st : Nat) (w' : World), (Instr.mapEntry t (.map (some b)) (K.val q)).run Try.prog w = .ok (.tuple #[v, goInt st]) w' ∧ Me K w' b G q st ∧ Kp [b] w w' := by
  obtain ⟨es, clock, hb, E⟩ := h
  obtain ⟨l, hl⟩ := K.key (E.rng _ hq)
  rcases K.law.find w hl es.toList E.keys with ⟨_, h2⟩ | ⟨j, e0, h1, h2, h3⟩
  · obtain ⟨e0, he, hk, _⟩ := E.to_entry hq
    exact absurd hk (h2 e0 he)
  · have hv := nd_val E.nd (E.of_entry (List.mem_of_getElem? h2) h3) hq
    have hm := modify_same h2
    rw [h3] at hm
    refine ⟨e0.born, setBlock w b (.map es clock), ?_, ⟨es, clock, (MapKept.heap_set hb).1, E, j, e0, h2, rfl, h3⟩, kp_set hb⟩
    have hborn : ((es[j]?).map (fun x => (x.born : Int))).getD 0 = (e0.born : Int) := by rw [← Array.getElem?_toList, h2]; rfl
    simp [Instr.mapEntry, run_underlying ht, MapKept.run_getObj_map hb, K.law.check w _ hl, h1, es_key h2, h3, K.law.stays w hl, MapKept.run_setObj_map _ hb, Result.andThen, setBlock, hm, hborn, hv]
theorem Mp.entry_miss {w : World} {b : Nat} {G : List (Q × Value)} (h : Mp K w b G) {t e : TypeId} (ht : Try.prog.underlying t = some (.map T e)) {z : Value} (hz : ∀ u : World, (zeroValue e).run Try.prog u = .ok z u) {q : Q} (hi : K.ok q) (hq : ∀ p ∈ G, p.1 ≠ q) :
    ∃ (st : Nat) (w' : World), (Instr.mapEntry t (.map (some b)) (K.val q)).run Try.prog w = .ok (.tuple #[z, goInt st]) w' ∧ Me K w' b (G ++ [(q, z)]) q st ∧ Kp [b] w w' := by
  obtain ⟨es, clock, hb, E⟩ := h
  obtain ⟨l, hl⟩ := K.key hi
  rcases K.law.find w hl es.toList E.keys with ⟨h1, _⟩ | ⟨j, e0, _, h2, h3⟩
  · refine ⟨clock, setBlock w b (.map (es.push ⟨K.val q, z, clock⟩) (clock + 1)), ?_, ⟨_, clock + 1, (MapKept.heap_set hb).1, E.push hi hq z, es.size, ⟨K.val q, z, clock⟩, by simp, rfl, rfl⟩, kp_set hb⟩
    simp [Instr.mapEntry, run_underlying ht, MapKept.run_getObj_map hb, K.law.check w _ hl, h1, hz, MapKept.run_setObj_map _ hb, Result.andThen, setBlock]
  · exact absurd rfl (hq _ (E.of_entry (List.mem_of_getElem? h2) h3))
theorem Me.store {w : World} {b : Nat} {G : List (Q × Value)} {q : Q} {st : Nat} (h : Me K w b G q st) (t : TypeId) (v : Value) :
    ∃ w', (Instr.entryStore t (.map (some b)) (goInt st) v).run Try.prog w = .ok () w' ∧ Mp K w' b (G.map (setF q v)) ∧ Kp [b] w w' := by
  obtain ⟨es, clock, hb, E, j, e0, h2, rfl, h3⟩ := h
  have hidx : es.findIdx? (fun e => ((e.born : Nat) : Int) == ((e0.born : Nat) : Int)) = some j := by
    rw [WideElems.findIdx_arr]
    exact WideElems.findIdx_born E.born h2
  have hm : (es.modify j fun e => { e with val := v }) = es.modify j fun e => { e with key := K.val q, val := v } := by
    apply Array.ext_getElem?
    intro i
    rw [Array.getElem?_modify, Array.getElem?_modify]
    by_cases hi : j = i
    · subst hi
      rw [if_pos rfl, if_pos rfl, ← Array.getElem?_toList, h2, ← h3]
      rfl
    · rw [if_neg hi, if_neg hi]
  refine ⟨setBlock w b (.map (es.modify j fun e => { e with val := v }) clock), ?_, ⟨_, clock, (MapKept.heap_set hb).1, by rw [hm]; exact E.set h2 h3 v⟩, kp_set hb⟩
  simp [Instr.entryStore, MapKept.run_getObj_map hb, asInt, asIntOf, goInt, hidx, MapKept.run_setObj_map _ hb, Result.andThen, setBlock]
/-- A range under way over the map at b: these of it are still to come. -/
def Rg (K : Key T Q) (w : World) (b r : Nat) (G T : List (Q × Value)) : Prop :=
  ∃ es clock since seen c0, w.heap[b]? = some (.map es clock) ∧ Ent K es clock G ∧ w.heap[r]? = some (.mapIter (some b) since seen c0) ∧ (∀ x ∈ es.toList, x.born < since) ∧ since ≤ c0 ∧ since ≤ clock ∧ ((leftOf es seen).toList.map kvE).Perm (T.map (kvG K))
theorem Rg.mp {w : World} {b r : Nat} {G T : List (Q × Value)} (h : Rg K w b r G T) : Mp K w b G := by
  obtain ⟨es, clock, since, seen, c0, hb, E, _⟩ := h
  exact ⟨es, clock, hb, E⟩
theorem Rg.lt {w : World} {b r : Nat} {G T : List (Q × Value)} (h : Rg K w b r G T) : r < w.heap.size := by
  obtain ⟨es, clock, since, seen, c0, hb, E, hr, _⟩ := h
  exact (Array.getElem?_eq_some_iff.1 hr).1
theorem Rg.kept {S : List Nat} {w w' : World} {b r : Nat} {G T : List (Q × Value)} (h : Rg K w b r G T) (k : Kp S w w') (hb' : b ∉ S) (hr' : r ∉ S) : Rg K w' b r G T := by
  have h1 := h.mp.lt
  have h2 := h.lt
  obtain ⟨es, clock, since, seen, c0, hb, E, hr, rest⟩ := h
  exact ⟨es, clock, since, seen, c0, (k.block b h1 hb').trans hb, E, (k.block r h2 hr').trans hr, rest⟩
theorem Mp.range {w : World} {b : Nat} {G : List (Q × Value)} (h : Mp K w b G) {t e : TypeId} (ht : Try.prog.underlying t = some (.map T e)) :
    ∃ w', (Instr.range t (.map (some b))).run Try.prog w = .ok (.pointer (some ⟨w.heap.size, 0, none⟩)) w' ∧ Rg K w' b w.heap.size G G ∧ Kp [] w w' ∧ w'.heap.size = w.heap.size + 1 := by
  have hlt := h.lt
  obtain ⟨es, clock, hb, E⟩ := h
  refine ⟨_, run_range_map w t _ e b es clock ht hb, ⟨es, clock, clock, #[], clock, ((MapKept.heap_alloc w _).2 b hlt).trans hb, E, (MapKept.heap_alloc w _).1, E.old, Nat.le_refl _, Nat.le_refl _, ?_⟩, (Kp.refl [] w).alloc _, by simp⟩
  have : leftOf es #[] = es := by unfold leftOf; simp
  rw [this]
  exact E.kv
theorem take_one {M : List MapEntry} (hn : (M.map (·.born)).Nodup) {e : MapEntry} (he : e ∈ M) : M.Perm (e :: M.filter fun x => !(x.born == e.born)) := by
  induction M with
  | nil => cases he
  | cons a M ih =>
    rw [List.map_cons, List.nodup_cons] at hn
    rcases List.mem_cons.1 he with rfl | m
    · rw [List.filter_cons_of_neg (by simp)]
      refine List.Perm.cons _ ?_
      rw [List.filter_eq_self.2]
      intro x hx
      have : x.born ≠ e.born := fun q => hn.1 (List.mem_map.2 ⟨x, hx, q⟩)
      simpa using this
    · have hne : a.born ≠ e.born := fun q => hn.1 (List.mem_map.2 ⟨e, m, q.symm⟩)
      rw [List.filter_cons_of_pos (by simpa using hne)]
      exact ((ih hn.2 m).cons a).trans (List.Perm.swap _ _ _)
/-- The step: nothing is left, or one that is left has come. -/
theorem Rg.next {w : World} {b r : Nat} {G T : List (Q × Value)} (h : Rg K w b r G T) (ty : TypeId) :
    (T = [] ∧ (Instr.next (.pointer (some ⟨r, 0, none⟩)) false ty).run Try.prog w = .ok (.tuple #[.bool false]) w) ∨
    ∃ q v T' w', T.Perm ((q, v) :: T') ∧ (q, v) ∈ G ∧ (Instr.next (.pointer (some ⟨r, 0, none⟩)) false ty).run Try.prog w = .ok (.tuple #[.bool true, K.val q, v]) w' ∧ Rg K w' b r G T' ∧ Kp [r] w w' ∧ w'.heap.size = w.heap.size ∧
      (Instr.entry (.pointer (some ⟨r, 0, none⟩))).run Try.prog w' = .ok (.tuple #[K.val q, v]) w' := by
  obtain ⟨es, clock, since, seen, c0, hb, E, hr, hold, hsc, hsk, hT⟩ := h
  have hne : r ≠ b := fun e => by rw [e, hb] at hr; cases hr
  rcases run_next_at (P := Try.prog) w ty r b since c0 seen es clock hr hb hold hsc with ⟨h0, hrun⟩ | ⟨e, he, w1, hal, hrun⟩
  · refine .inl ⟨?_, hrun⟩
    have : (leftOf es seen).toList = [] := List.length_eq_zero_iff.1 (by simpa using h0)
    rw [this, List.map_nil] at hT
    exact List.map_eq_nil_iff.1 hT.nil_eq.symm
  · have hmem : e ∈ es.toList := by unfold leftOf at he; simp at he; simpa using he.1
    have hr1 : w1.heap[r]? = some (.mapIter (some b) since seen c0) := by rcases hal with rfl | rfl <;> exact hr
    have hb1 : w1.heap[b]? = some (.map es clock) := by rcases hal with rfl | rfl <;> exact hb
    have hset := MapKept.heap_set (o' := .mapIter (some b) since (seen.push e.born) clock) hr1
    have hb' : (setBlock w1 r (.mapIter (some b) since (seen.push e.born) clock)).heap[b]? = some (.map es clock) := (hset.2 b (fun e1 => hne e1.symm)).trans hb1
    have hin : kvE e ∈ T.map (kvG K) := hT.mem_iff.1 (List.mem_map.2 ⟨e, he, rfl⟩)
    obtain ⟨p, hpT, hpe⟩ := List.mem_map.1 hin
    obtain ⟨q, v⟩ := p
    have e1 : K.val q = e.key := congrArg Prod.fst hpe
    have e2 : v = e.val := congrArg Prod.snd hpe
    have hsplit := List.append_of_mem hpT
    obtain ⟨A, B, hAB⟩ := hsplit
    have hfil : (leftOf es (seen.push e.born)).toList = (leftOf es seen).toList.filter fun x => !(x.born == e.born) := by
      unfold leftOf
      rw [Array.toList_filter, Array.toList_filter, List.filter_filter]
      refine List.filter_congr fun x _ => ?_
      rw [contains_push]
      cases seen.contains x.born <;> cases (x.born == e.born) <;> rfl
    have hnd : ((leftOf es seen).toList.map (·.born)).Nodup := by
      have hs : ((leftOf es seen).toList).Sublist es.toList := by unfold leftOf; rw [Array.toList_filter]; exact List.filter_sublist
      exact (hs.map _).nodup E.born
    have hp := take_one hnd he
    rw [← hfil] at hp
    refine .inr ⟨q, v, A ++ B, _, by rw [hAB]; exact List.perm_middle, ?_, by rw [e1, e2]; exact hrun, ⟨es, clock, since, seen.push e.born, clock, hb', E, hset.1, hold, hsk, hsk, ?_⟩, ?_, ?_, ?_⟩
    · rw [e2]
      exact E.of_entry hmem e1.symm
    · have h1 := (hp.map kvE).symm.trans hT
      rw [hAB, List.map_append, List.map_cons, List.map_cons, hpe] at h1
      rw [List.map_append]
      have h2 := h1.trans List.perm_middle
      exact List.Perm.cons_inv h2
    · rcases hal with rfl | rfl <;> exact ⟨rfl, rfl, rfl, by simp [setBlock], fun i _ hi => hset.2 i (by simpa using hi)⟩
    · rcases hal with rfl | rfl <;> simp [setBlock]
    · rw [e1, e2]
      exact run_entry_at _ r b since seen es clock e hset.1 hb' hmem E.born
end Go.Proofs.Ytgahekhlbcnmaaa.Gm
