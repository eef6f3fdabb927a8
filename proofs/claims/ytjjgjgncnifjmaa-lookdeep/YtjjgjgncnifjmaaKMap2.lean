/- Maps keyed by places: a key goes, an entry that is met once for all, a range. -/
import Derived.Test.YtjjgjgncnifjmaaKMap
namespace Go.Proofs.Ytjjgjgncnifjmaa
open Go.RowKit
open Go.ChangeMaps (setBlock)
set_option linter.unusedVariables false
/-- What is left without a key. -/
def without (q : Int × Int) (G : List ((Int × Int) × Value)) : List ((Int × Int) × Value) := G.filter fun p => !(p.1 == q)
theorem erase_is2 {G : List ((Int × Int) × Value)} {l : List (Value × Value)} (hp : l.Perm (G.map kvG)) (hn : (G.map Prod.fst).Nodup) {j : Nat} {q : Int × Int} {v0 : Value} (hj : l[j]? = some (plV q, v0)) : (l.eraseIdx j).Perm ((without q G).map kvG) := by
  obtain ⟨hlt, hje⟩ := List.getElem?_eq_some_iff.1 hj
  have e1 : l = l.take j ++ (plV q, v0) :: l.drop (j + 1) := by rw [← hje, List.getElem_cons_drop, List.take_append_drop]
  have e2 : l.eraseIdx j = l.take j ++ l.drop (j + 1) := List.eraseIdx_eq_take_drop_succ l j
  have hm : (plV q, v0) ∈ G.map kvG := hp.mem_iff.1 (List.mem_of_getElem? hj)
  obtain ⟨p, hpG, hpe⟩ := List.mem_map.1 hm
  have p1 : p.1 = q := plV_inj (congrArg Prod.fst hpe)
  obtain ⟨A, B, rfl⟩ := List.append_of_mem hpG
  rw [List.map_append, List.map_cons] at hn
  have hnot : ∀ x ∈ A ++ B, x.1 ≠ q := by
    intro x hx
    rw [← p1]
    have hn2 := (List.perm_middle.nodup_iff).1 hn
    rw [List.nodup_cons] at hn2
    intro e
    apply hn2.1
    rw [← List.map_append, ← e]
    exact List.mem_map.2 ⟨x, hx, rfl⟩
  have e3 : without q (A ++ p :: B) = A ++ B := by
    unfold without
    rw [List.filter_append, List.filter_cons]
    have hp' : (!(p.1 == q)) = false := by simp [p1]
    rw [if_neg (by simp [p1]), ← List.filter_append]
    exact List.filter_eq_self.2 fun x hx => by simpa using hnot x hx
  rw [e3, e2, List.map_append]
  rw [e1, List.map_append, List.map_cons] at hp
  have e4 : kvG p = (plV q, v0) := hpe
  rw [e4] at hp
  exact List.Perm.cons_inv ((List.perm_middle.symm.trans hp).trans List.perm_middle)
theorem without_sub (q : Int × Int) (G : List ((Int × Int) × Value)) : (without q G).Sublist G := List.filter_sublist
/-- 'delete(m, k)' at a key that is there. -/
theorem Mp.del {w : World} {b : Nat} {G : List ((Int × Int) × Value)} (h : Mp w b G) {t e : TypeId} (ht : Try.prog.underlying t = some (.map 40 e)) {q : Int × Int} {v0 : Value} (hq : (q, v0) ∈ G) (ty : TypeId) :
    ∃ w', (Builtin.delete_ #[t, 40] ty #[.map (some b), plV q]).run Try.prog w = .ok (.tuple #[]) w' ∧ Mp w' b (without q G) ∧ Kp [b] w w' := by
  obtain ⟨es, clock, hb, E⟩ := h
  obtain ⟨l, hl⟩ := key_of (E.rng _ hq)
  rcases Try.lawP.find w hl es.toList E.keys with ⟨_, h2⟩ | ⟨j, e0, h1, h2, h3⟩
  · obtain ⟨e0, he, hk, _⟩ := E.to_entry hq
    exact absurd hk (h2 e0 he)
  · have hsub := without_sub q G
    have el : (es.eraseIdxIfInBounds j).toList = es.toList.eraseIdx j := by simp
    refine ⟨setBlock w b (.map (es.eraseIdxIfInBounds j) clock), ?_, ⟨_, clock, (MapKept.heap_set hb).1, ?_, ?_, ?_, ?_, ?_⟩, kp_set hb⟩
    · simp [Builtin.delete_, run_underlying ht, MapKept.run_getObj_map hb, Try.lawP.check w _ hl, h1, MapKept.run_setObj_map _ hb, Result.andThen, setBlock]
    · rw [el, ChangeMaps.map_eraseIdx]
      exact erase_is2 E.kv E.nd (v0 := e0.val) (by rw [List.getElem?_map, h2, ← h3]; rfl)
    · exact (hsub.map _).nodup E.nd
    · exact fun p hp => E.rng p (hsub.subset hp)
    · intro x hx
      rw [el] at hx
      exact E.old x (List.mem_of_mem_eraseIdx hx)
    · rw [el, ChangeMaps.map_eraseIdx]
      exact (List.eraseIdx_sublist _ _).nodup E.born
/-- The entry with that stamp is the one at key q. -/
def Me (w : World) (b : Nat) (G : List ((Int × Int) × Value)) (q : Int × Int) (st : Nat) : Prop := ∃ es clock, w.heap[b]? = some (.map es clock) ∧ Ent es clock G ∧ ∃ (j : Nat) (e0 : MapEntry), es.toList[j]? = some e0 ∧ e0.born = st ∧ e0.key = plV q
theorem Me.mp {w : World} {b : Nat} {G : List ((Int × Int) × Value)} {q : Int × Int} {st : Nat} (h : Me w b G q st) : Mp w b G := by
  obtain ⟨es, clock, hb, E, _⟩ := h
  exact ⟨es, clock, hb, E⟩
theorem Me.kept {S : List Nat} {w w' : World} {b : Nat} {G : List ((Int × Int) × Value)} {q : Int × Int} {st : Nat} (h : Me w b G q st) (k : Kp S w w') (hn : b ∉ S) : Me w' b G q st := by
  have hlt := h.mp.lt
  obtain ⟨es, clock, hb, E⟩ := h
  exact ⟨es, clock, (k.block b hlt hn).trans hb, E⟩
theorem modify_same {es : Array MapEntry} {j : Nat} {e0 : MapEntry} (hj : es.toList[j]? = some e0) : es.modify j (fun e => { e with key := e0.key }) = es := by
  apply Array.ext_getElem?
  intro i
  rw [Array.getElem?_modify]
  by_cases hi : j = i
  · subst hi
    rw [if_pos rfl, ← Array.getElem?_toList, hj]
    rfl
  · rw [if_neg hi]
theorem Mp.entry_hit {w : World} {b : Nat} {G : List ((Int × Int) × Value)} (h : Mp w b G) {t e : TypeId} (ht : Try.prog.underlying t = some (.map 40 e)) {q : Int × Int} {v : Value} (hq : (q, v) ∈ G) :
    ∃ (st : Nat) (w' : World), (Instr.mapEntry t (.map (some b)) (plV q)).run Try.prog w = .ok (.tuple #[v, goInt st]) w' ∧ Me w' b G q st ∧ Kp [b] w w' := by
  obtain ⟨es, clock, hb, E⟩ := h
  obtain ⟨l, hl⟩ := key_of (E.rng _ hq)
  rcases Try.lawP.find w hl es.toList E.keys with ⟨_, h2⟩ | ⟨j, e0, h1, h2, h3⟩
  · obtain ⟨e0, he, hk, _⟩ := E.to_entry hq
    exact absurd hk (h2 e0 he)
  · have hv := nd_val E.nd (E.of_entry (List.mem_of_getElem? h2) h3) hq
    have hm := modify_same h2
    rw [h3] at hm
    refine ⟨e0.born, setBlock w b (.map es clock), ?_, ⟨es, clock, (MapKept.heap_set hb).1, E, j, e0, h2, rfl, h3⟩, kp_set hb⟩
    have hborn : ((es[j]?).map (fun x => (x.born : Int))).getD 0 = (e0.born : Int) := by rw [← Array.getElem?_toList, h2]; rfl
    simp [Instr.mapEntry, run_underlying ht, MapKept.run_getObj_map hb, Try.lawP.check w _ hl, h1, es_key h2, h3, Try.lawP.stays w hl, MapKept.run_setObj_map _ hb, Result.andThen, setBlock, hm, hborn, hv]
theorem Mp.entry_miss {w : World} {b : Nat} {G : List ((Int × Int) × Value)} (h : Mp w b G) {t e : TypeId} (ht : Try.prog.underlying t = some (.map 40 e)) {z : Value} (hz : ∀ u : World, (zeroValue e).run Try.prog u = .ok z u) {q : Int × Int} (hi : PIn q) (hq : ∀ p ∈ G, p.1 ≠ q) :
    ∃ (st : Nat) (w' : World), (Instr.mapEntry t (.map (some b)) (plV q)).run Try.prog w = .ok (.tuple #[z, goInt st]) w' ∧ Me w' b (G ++ [(q, z)]) q st ∧ Kp [b] w w' := by
  obtain ⟨es, clock, hb, E⟩ := h
  obtain ⟨l, hl⟩ := key_of hi
  rcases Try.lawP.find w hl es.toList E.keys with ⟨h1, _⟩ | ⟨j, e0, _, h2, h3⟩
  · refine ⟨clock, setBlock w b (.map (es.push ⟨plV q, z, clock⟩) (clock + 1)), ?_, ⟨_, clock + 1, (MapKept.heap_set hb).1, E.push hi hq z, es.size, ⟨plV q, z, clock⟩, by simp, rfl, rfl⟩, kp_set hb⟩
    simp [Instr.mapEntry, run_underlying ht, MapKept.run_getObj_map hb, Try.lawP.check w _ hl, h1, hz, MapKept.run_setObj_map _ hb, Result.andThen, setBlock]
  · exact absurd rfl (hq _ (E.of_entry (List.mem_of_getElem? h2) h3))
theorem Me.store {w : World} {b : Nat} {G : List ((Int × Int) × Value)} {q : Int × Int} {st : Nat} (h : Me w b G q st) (t : TypeId) (v : Value) :
    ∃ w', (Instr.entryStore t (.map (some b)) (goInt st) v).run Try.prog w = .ok () w' ∧ Mp w' b (G.map (setF q v)) ∧ Kp [b] w w' := by
  obtain ⟨es, clock, hb, E, j, e0, h2, rfl, h3⟩ := h
  have hidx : es.findIdx? (fun e => ((e.born : Nat) : Int) == ((e0.born : Nat) : Int)) = some j := by
    rw [WideElems.findIdx_arr]
    exact WideElems.findIdx_born E.born h2
  have hm : (es.modify j fun e => { e with val := v }) = es.modify j fun e => { e with key := plV q, val := v } := by
    apply Array.ext_getElem?
    intro i
    rw [Array.getElem?_modify, Array.getElem?_modify]
    by_cases hi : j = i
    · subst hi
      rw [if_pos rfl, if_pos rfl, ← Array.getElem?_toList, h2, ← h3]
      rfl
    · rw [if_neg hi, if_neg hi]
  refine ⟨setBlock w b (.map (es.modify j fun e => { e with val := v }) clock), ?_, ⟨_, clock, (MapKept.heap_set hb).1, by rw [hm]; exact E.set h2 h3 v⟩, kp_set hb⟩
  simp [Instr.entryStore, MapKept.run_getObj_map hb, asInt, asIntOf, goInt, hidx, MapKept.run_setObj_map _ hb, Result.andThen, setBlock]
/-- A range under way over the map at b: these of it are still to come. -/
def Rg (w : World) (b r : Nat) (G T : List ((Int × Int) × Value)) : Prop :=
  ∃ es clock since seen c0, w.heap[b]? = some (.map es clock) ∧ Ent es clock G ∧ w.heap[r]? = some (.mapIter (some b) since seen c0) ∧ (∀ x ∈ es.toList, x.born < since) ∧ since ≤ c0 ∧ since ≤ clock ∧ ((leftOf es seen).toList.map kvE).Perm (T.map kvG)
theorem Rg.mp {w : World} {b r : Nat} {G T : List ((Int × Int) × Value)} (h : Rg w b r G T) : Mp w b G := by
  obtain ⟨es, clock, since, seen, c0, hb, E, _⟩ := h
  exact ⟨es, clock, hb, E⟩
theorem Rg.lt {w : World} {b r : Nat} {G T : List ((Int × Int) × Value)} (h : Rg w b r G T) : r < w.heap.size := by
  obtain ⟨es, clock, since, seen, c0, hb, E, hr, _⟩ := h
  exact (Array.getElem?_eq_some_iff.1 hr).1
theorem Rg.kept {S : List Nat} {w w' : World} {b r : Nat} {G T : List ((Int × Int) × Value)} (h : Rg w b r G T) (k : Kp S w w') (hb' : b ∉ S) (hr' : r ∉ S) : Rg w' b r G T := by
  have h1 := h.mp.lt
  have h2 := h.lt
  obtain ⟨es, clock, since, seen, c0, hb, E, hr, rest⟩ := h
  exact ⟨es, clock, since, seen, c0, (k.block b h1 hb').trans hb, E, (k.block r h2 hr').trans hr, rest⟩
theorem Mp.range {w : World} {b : Nat} {G : List ((Int × Int) × Value)} (h : Mp w b G) {t e : TypeId} (ht : Try.prog.underlying t = some (.map 40 e)) :
    ∃ w', (Instr.range t (.map (some b))).run Try.prog w = .ok (.pointer (some ⟨w.heap.size, 0, none⟩)) w' ∧ Rg w' b w.heap.size G G ∧ Kp [] w w' ∧ w'.heap.size = w.heap.size + 1 := by
  have hlt := h.lt
  obtain ⟨es, clock, hb, E⟩ := h
  refine ⟨_, run_range_map w t _ e b es clock ht hb, ⟨es, clock, clock, #[], clock, ((MapKept.heap_alloc w _).2 b hlt).trans hb, E, (MapKept.heap_alloc w _).1, E.old, Nat.le_refl _, Nat.le_refl _, ?_⟩, (Kp.refl [] w).alloc _, by simp⟩
  have : leftOf es #[] = es := by unfold leftOf; simp
  rw [this]
  exact E.kv
theorem take_one {M : List MapEntry} (hn : (M.map (·.born)).Nodup) {e : MapEntry} (he : e ∈ M) : M.Perm (e :: M.filter fun x => !(x.born == e.born)) := by
  induction M with
  | nil => cases he
  | cons a M ih =>
    rw [List.map_cons, List.nodup_cons] at hn
    rcases List.mem_cons.1 he with rfl | m
    · rw [List.filter_cons_of_neg (by simp)]
      refine List.Perm.cons _ ?_
      rw [List.filter_eq_self.2]
      intro x hx
      have : x.born ≠ e.born := fun q => hn.1 (List.mem_map.2 ⟨x, hx, q⟩)
      simpa using this
    · have hne : a.born ≠ e.born := fun q => hn.1 (List.mem_map.2 ⟨e, m, q.symm⟩)
      rw [List.filter_cons_of_pos (by simpa using hne)]
      exact ((ih hn.2 m).cons a).trans (List.Perm.swap _ _ _)
/-- The step: nothing is left, or one that is left has come. -/
theorem Rg.next {w : World} {b r : Nat} {G T : List ((Int × Int) × Value)} (h : Rg w b r G T) (ty : TypeId) :
    (T = [] ∧ (Instr.next (.pointer (some ⟨r, 0, none⟩)) false ty).run Try.prog w = .ok (.tuple #[.bool false]) w) ∨
    ∃ q v T' w', T.Perm ((q, v) :: T') ∧ (q, v) ∈ G ∧ (Instr.next (.pointer (some ⟨r, 0, none⟩)) false ty).run Try.prog w = .ok (.tuple #[.bool true, plV q, v]) w' ∧ Rg w' b r G T' ∧ Kp [r] w w' ∧ w'.heap.size = w.heap.size ∧
      (Instr.entry (.pointer (some ⟨r, 0, none⟩))).run Try.prog w' = .ok (.tuple #[plV q, v]) w' := by
  obtain ⟨es, clock, since, seen, c0, hb, E, hr, hold, hsc, hsk, hT⟩ := h
  have hne : r ≠ b := fun e => by rw [e, hb] at hr; cases hr
  rcases run_next_at (P := Try.prog) w ty r b since c0 seen es clock hr hb hold hsc with ⟨h0, hrun⟩ | ⟨e, he, w1, hal, hrun⟩
  · refine .inl ⟨?_, hrun⟩
    have : (leftOf es seen).toList = [] := List.length_eq_zero_iff.1 (by simpa using h0)
    rw [this, List.map_nil] at hT
    exact List.map_eq_nil_iff.1 hT.nil_eq.symm
  · have hmem : e ∈ es.toList := by unfold leftOf at he; simp at he; simpa using he.1
    have hr1 : w1.heap[r]? = some (.mapIter (some b) since seen c0) := by rcases hal with rfl | rfl <;> exact hr
    have hb1 : w1.heap[b]? = some (.map es clock) := by rcases hal with rfl | rfl <;> exact hb
    have hset := MapKept.heap_set (o' := .mapIter (some b) since (seen.push e.born) clock) hr1
    have hb' : (setBlock w1 r (.mapIter (some b) since (seen.push e.born) clock)).heap[b]? = some (.map es clock) := (hset.2 b (fun e1 => hne e1.symm)).trans hb1
    have hin : kvE e ∈ T.map kvG := hT.mem_iff.1 (List.mem_map.2 ⟨e, he, rfl⟩)
    obtain ⟨p, hpT, hpe⟩ := List.mem_map.1 hin
    obtain ⟨q, v⟩ := p
    have e1 : plV q = e.key := congrArg Prod.fst hpe
    have e2 : v = e.val := congrArg Prod.snd hpe
    have hsplit := List.append_of_mem hpT
    obtain ⟨A, B, hAB⟩ := hsplit
    have hfil : (leftOf es (seen.push e.born)).toList = (leftOf es seen).toList.filter fun x => !(x.born == e.born) := by
      unfold leftOf
      rw [Array.toList_filter, Array.toList_filter, List.filter_filter]
      refine List.filter_congr fun x _ => ?_
      rw [contains_push]
      cases seen.contains x.born <;> cases (x.born == e.born) <;> rfl
    have hnd : ((leftOf es seen).toList.map (·.born)).Nodup := by
      have hs : ((leftOf es seen).toList).Sublist es.toList := by unfold leftOf; rw [Array.toList_filter]; exact List.filter_sublist
      exact (hs.map _).nodup E.born
    have hp := take_one hnd he
    rw [← hfil] at hp
    refine .inr ⟨q, v, A ++ B, _, by rw [hAB]; exact List.perm_middle, ?_, by rw [e1, e2]; exact hrun, ⟨es, clock, since, seen.push e.born, clock, hb', E, hset.1, hold, hsk, hsk, ?_⟩, ?_, ?_, ?_⟩
    · rw [e2]
      exact E.of_entry hmem e1.symm
    · have h1 := (hp.map kvE).symm.trans hT
      rw [hAB, List.map_append, List.map_cons, List.map_cons, hpe] at h1
      rw [List.map_append]
      have h2 := h1.trans List.perm_middle
      exact List.Perm.cons_inv h2
    · rcases hal with rfl | rfl <;> exact ⟨rfl, rfl, rfl, by simp [setBlock], fun i _ hi => hset.2 i (by simpa using hi)⟩
    · rcases hal with rfl | rfl <;> simp [setBlock]
    · rw [e1, e2]
      exact run_entry_at _ r b since seen es clock e hset.1 hb' hmem E.born
end Go.Proofs.Ytjjgjgncnifjmaa
