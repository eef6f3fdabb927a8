/- Places appended to a list of places; a map of lists of places, each its own. -/
import Derived.Test.YtdlkaaiedfikoaaKSlots6
import Derived.Maps.AppendAt
import Derived.Laws.OwnMore
import Derived.Test.YtdlkaaiedfikoaaKSlots9
import Derived.Laws.IdiomRangeMap
namespace Go.Proofs.Ytdlkaaiedfikoaa
open Go.RowKit
set_option linter.unusedVariables false
theorem Pl.src {base : Nat} {w : World} {v : Value} {ps : List (Int × Int)} (h : Pl base w v ps) : PSrc w v ps := by
  rcases h.addr with ⟨e, e2⟩ | ⟨g, cap, e, _⟩
  · exact .inl ⟨e, e2⟩
  · subst e
    refine .inr ⟨_, cap, rfl, fun j u hu => ?_⟩
    have hj := (List.getElem?_eq_some_iff.1 hu).1
    rw [prow_len] at hj
    rw [Addr.add_mid, Nat.zero_add, World.ownsRow.cellAt h j hj]
    exact hu
theorem papp_run {w : World} {base : Nat} {v x : Value} {ps qs : List (Int × Int)} (hown : Pl base w v ps) (hsrc : PSrc w x qs) (hb : ps.length + qs.length ≤ 1048576) (hbase : base ≤ w.heap.size) (ty : TypeId) :
    ∃ v' w', (Builtin.append_ #[36, 36] ty #[v, x]).run Try.prog w = .ok v' w' ∧ Pl base w' v' (ps ++ qs) ∧ w.grownBy w' v.ownBlock ∧ (v'.ownBlock = v.ownBlock ∨ v'.ownBlock = some w.heap.size) := by
  obtain ⟨i0, hi, hinf⟩ := Option.map_eq_some_iff.1 Try.infoPlace
  simp only [Prod.mk.injEq] at hinf
  obtain ⟨hz0, hz1, hz2⟩ := hinf
  rcases hsrc with ⟨rfl, rfl⟩ | ⟨ad, c, rfl, hc⟩
  · refine ⟨v, w, run_append_owned_none w base _ ty _ i0 2 Try.underlying36 hi v ps.length (prow ps) hown, ?_, ⟨rfl, rfl, rfl, Nat.le_refl _, fun _ _ _ => rfl⟩, .inl rfl⟩
    rw [List.append_nil]
    exact hown
  · obtain ⟨v', w', hr, h2, h3, _, h5⟩ := run_append_own_at (P := Try.prog) w base 36 ty 28 i0 _ 2 16 Try.underlying36 hi hz0 hz1 hz2 rfl (by decide) v ps.length (prow ps) hown ad qs.length c (prow qs) (prow_len qs) hc (prow_one qs) (by unfold maxLen; omega) (by omega) hbase
    refine ⟨v', w', hr, ?_, h3, h5⟩
    unfold Pl
    rw [prow_app, List.length_append]
    exact h2
theorem plist_app {w : World} {ops : Array Oper} {rest : List Oper} {o : Oper} {a : Act} {Q : Exit → Act → World → Prop} (hgd : o.guard = none) (s x : Operand)
    (ho : o.op = .call { callee := .builtin .append, args := #[s, x], argTypes := #[36, 36] })
    (base : Nat) (v xv : Value) (ps qs : List (Int × Int)) (hs : a.eval s = v) (hx : a.eval x = xv) (hown : Pl base w v ps) (hsrc : PSrc w xv qs) (hb : ps.length + qs.length ≤ 1048576) (hbase : base ≤ w.heap.size)
    (h : ∀ v' w', Pl base w' v' (ps ++ qs) → w.grownBy w' v.ownBlock → (v'.ownBlock = v.ownBlock ∨ v'.ownBlock = some w.heap.size) → wpList Try.prog ops Q rest (a.put o.dst v') w') : wpList Try.prog ops Q (o :: rest) a w :=
  wpList_plain hgd fun _ hK => by
    obtain ⟨v', w', hr, h2, h3, h5⟩ := papp_run hown hsrc hb hbase o.type
    unfold Oper.wp execOp
    simp only [ho, resolve, invoke, builtin, Sem.run_bind, Sem.run_pure, Result.andThen_ok, List.map_toArray, List.map_cons, List.map_nil, hs, hx, hr]
    exact hK _ _ (h v' w' h2 h3 h5)
theorem psrc_one (w : World) (n s : Int) (c : Nat) : PSrc (w.alloc (.cells #[.int .i64 n, .int .i64 s] 28)) (.slice (some ⟨w.heap.size, 0, none⟩) 1 c) [(n, s)] :=
  .inr ⟨_, c, rfl, fun j u hu => place_new w n s j u hu⟩
/-- Two slices that do not share a block. -/
def Apart (v v' : Value) : Prop := ∀ g, v.ownBlock = some g → v'.ownBlock ≠ some g
theorem Apart.symm {v v' : Value} (h : Apart v v') : Apart v' v := fun g h1 h2 => h g h2 h1
/-- The map at cb has, at each place, the list of those of D whose parent it is. -/
structure Grp (base : Nat) (w : World) (cb : Nat) (C : List ((Int × Int) × Value)) (D : List Sl) : Prop where
  own : ∀ c ∈ C, isN c.1.1 c.1.2 = false ∧ Pl base w c.2 (sel (sonF c.1.1 c.1.2) D)
  apart : C.Pairwise fun c c' => Apart c.2 c'.2
  all : ∀ x ∈ D, isN x.u x.v = false → ∃ c ∈ C, c.1 = (x.u, x.v)
theorem sel_other {D : List Sl} {x : Sl} {q : Int × Int} (h : (x.u, x.v) ≠ q) : sel (sonF q.1 q.2) (D ++ [x]) = sel (sonF q.1 q.2) D := by
  rw [sel_app]
  have : sonF q.1 q.2 x = false := by
    unfold sonF
    cases hb : (x.u == q.1 && x.v == q.2) with
    | false => rfl
    | true =>
      simp at hb
      exact absurd (Prod.ext hb.1 hb.2) h
  rw [this]
  simp
theorem sel_own {D : List Sl} {x : Sl} {q : Int × Int} (h : (x.u, x.v) = q) : sel (sonF q.1 q.2) (D ++ [x]) = sel (sonF q.1 q.2) D ++ [(x.n, x.s)] := by
  rw [sel_app]
  have : sonF q.1 q.2 x = true := by unfold sonF; rw [← h]; simp
  rw [this]
  simp
theorem Grp.kept {base : Nat} {w w' : World} {cb : Nat} {C : List ((Int × Int) × Value)} {D : List Sl} {S : List Nat} (h : Grp base w cb C D) (k : Kp S w w') (hS : ∀ i ∈ S, ∀ cur e, w.heap[i]? ≠ some (.cells cur e (0, 0))) : Grp base w' cb C D :=
  ⟨fun c hc => ⟨(h.own c hc).1, (h.own c hc).2.kept k fun g hg hm => by
    obtain ⟨cur, e⟩ := (h.own c hc).2.cells hg
    exact hS g hm _ _ e⟩, h.apart, h.all⟩
theorem Grp.skip {base : Nat} {w : World} {cb : Nat} {C : List ((Int × Int) × Value)} {D : List Sl} (h : Grp base w cb C D) {x : Sl} (hx : isN x.u x.v = true) : Grp base w cb C (D ++ [x]) := by
  refine ⟨fun c hc => ⟨(h.own c hc).1, ?_⟩, h.apart, fun y hy hn => ?_⟩
  · rw [sel_other]
    · exact (h.own c hc).2
    · intro e
      have := (h.own c hc).1
      rw [← e] at this
      simp only at this
      rw [hx] at this
      cases this
  · rcases List.mem_append.1 hy with m | m
    · exact h.all y m hn
    · simp at m
      rw [m, hx] at hn
      cases hn
/-- A key more, with nothing at it yet. -/
theorem Grp.blank {base : Nat} {w : World} {cb : Nat} {C : List ((Int × Int) × Value)} {D : List Sl} (h : Grp base w cb C D) {q : Int × Int} (hq : isN q.1 q.2 = false) (hn : ∀ p ∈ C, p.1 ≠ q) : Grp base w cb (C ++ [(q, .slice none 0 0)]) D := by
  have hno : sel (sonF q.1 q.2) D = [] := by
    cases hs : sel (sonF q.1 q.2) D with
    | nil => rfl
    | cons a l =>
      exfalso
      obtain ⟨x, hx, hf, _⟩ := mem_sel.1 (show a ∈ sel (sonF q.1 q.2) D from by rw [hs]; simp)
      unfold sonF at hf
      simp at hf
      have e : (x.u, x.v) = q := Prod.ext hf.1 hf.2
      have hz : isN x.u x.v = false := by rw [← e] at hq; exact hq
      obtain ⟨c, hc, e2⟩ := h.all x hx hz
      exact hn c hc (e2.trans e)
  refine ⟨fun c hc => ?_, ?_, fun y hy hz => ?_⟩
  · rcases List.mem_append.1 hc with m | m
    · exact h.own c m
    · simp at m
      subst m
      refine ⟨hq, ?_⟩
      simp only
      rw [hno]
      exact Pl.nil _ _
  · refine List.pairwise_append.2 ⟨h.apart, by simp, fun c hc c' hc' g _ => ?_⟩
    simp at hc'
    subst hc'
    intro e
    cases e
  · obtain ⟨c, hc, e⟩ := h.all y hy hz
    exact ⟨c, List.mem_append.2 (.inl hc), e⟩
theorem pw_keys {C : List ((Int × Int) × Value)} (hnd : (C.map Prod.fst).Nodup) (hpw : C.Pairwise fun c c' => Apart c.2 c'.2) : ∀ a ∈ C, ∀ b ∈ C, a.1 ≠ b.1 → Apart a.2 b.2 := by
  induction C with
  | nil => intro a ha; cases ha
  | cons d C ih =>
    rw [List.pairwise_cons] at hpw
    rw [List.map_cons, List.nodup_cons] at hnd
    intro a ha b hb hab
    rcases List.mem_cons.1 ha with rfl | ma <;> rcases List.mem_cons.1 hb with rfl | mb
    · exact absurd rfl hab
    · exact hpw.1 b mb
    · exact (hpw.1 a ma).symm
    · exact ih hnd.2 hpw.2 a ma b mb hab
theorem Pl.lt {base : Nat} {w : World} {v : Value} {ps : List (Int × Int)} (h : Pl base w v ps) {g : Nat} (hg : v.ownBlock = some g) : g < w.heap.size := by
  obtain ⟨cur, e⟩ := h.cells hg
  exact (Array.getElem?_eq_some_iff.1 e).1
theorem Pl.grown {base : Nat} {w w' : World} {v : Value} {ps : List (Int × Int)} {row : Option Nat} (h : Pl base w v ps) (hg : w.grownBy w' row) (hn : ∀ g, v.ownBlock = some g → some g ≠ row) : Pl base w' v ps := by
  refine ⟨h.1, ?_⟩
  rcases h.2 with hz | ⟨g, c, cur, e, hb, hgg, rest⟩
  · exact .inl hz
  · exact .inr ⟨g, c, cur, e, hb, (hg.block g (Array.getElem?_eq_some_iff.1 hgg).1 (hn g (by rw [e]; rfl))).trans hgg, rest⟩
/-- What is appended at a key. -/
theorem Grp.more {base : Nat} {w1 w2 w3 : World} {cb : Nat} {C : List ((Int × Int) × Value)} {D : List Sl} (h : Grp base w1 cb C D) (hnd : (C.map Prod.fst).Nodup) {q : Int × Int} {v v' : Value} (hv : (q, v) ∈ C) {x : Sl} (hx : (x.u, x.v) = q)
    (hP : Pl base w2 v' (sel (sonF q.1 q.2) D ++ [(x.n, x.s)])) (hg : w1.grownBy w2 v.ownBlock) (hat : v'.ownBlock = v.ownBlock ∨ v'.ownBlock = some w1.heap.size) (hk : Kp [cb] w2 w3) (hcb : ∀ cur e, w2.heap[cb]? ≠ some (.cells cur e (0, 0))) :
    Grp base w3 cb (C.map (setF q v')) (D ++ [x]) := by
  have hPk : ∀ (u : Value) ps, Pl base w2 u ps → Pl base w3 u ps := fun u ps hu => hu.kept hk fun g hgg hm => by
    simp at hm
    subst hm
    obtain ⟨cur, e⟩ := hu.cells hgg
    exact hcb _ _ e
  have hap : ∀ c ∈ C, c.1 ≠ q → Apart c.2 v := fun c hc hne => pw_keys hnd h.apart c hc (q, v) hv hne
  have hap' : ∀ c ∈ C, c.1 ≠ q → Apart c.2 v' := by
    intro c hc hne g h1 h2
    rcases hat with e | e
    · exact hap c hc hne g h1 (e ▸ h2)
    · rw [e] at h2
      cases h2
      exact Nat.lt_irrefl _ ((h.own c hc).2.lt h1)
  refine ⟨fun c' hc' => ?_, ?_, fun y hy hz => ?_⟩
  · obtain ⟨c, hc, rfl⟩ := List.mem_map.1 hc'
    unfold setF
    by_cases e : c.1 = q
    · rw [if_pos e]
      refine ⟨(h.own _ hv).1, ?_⟩
      show Pl base w3 v' (sel (sonF q.1 q.2) (D ++ [x]))
      rw [sel_own hx]
      exact hPk _ _ hP
    · rw [if_neg e]
      refine ⟨(h.own c hc).1, ?_⟩
      rw [sel_other (by rw [hx]; exact fun q1 => e q1.symm)]
      exact hPk _ _ ((h.own c hc).2.grown hg (fun g h1 h2 => hap c hc e g h1 h2.symm))
  · rw [List.pairwise_map]
    have hne : C.Pairwise fun c c' => c.1 ≠ c'.1 := by
      have : (C.map Prod.fst).Pairwise (· ≠ ·) := hnd
      rwa [List.pairwise_map] at this
    refine (h.apart.and hne).imp_of_mem ?_
    intro c c' hc hc' hcc
    unfold setF
    by_cases e : c.1 = q
    · have e' : c'.1 ≠ q := fun q1 => hcc.2 (e.trans q1.symm)
      rw [if_pos e, if_neg e']
      exact (hap' c' hc' e').symm
    · rw [if_neg e]
      by_cases e' : c'.1 = q
      · rw [if_pos e']
        exact hap' c hc e
      · rw [if_neg e']
        exact hcc.1
  · have : ∃ c ∈ C, c.1 = (y.u, y.v) := by
      rcases List.mem_append.1 hy with m | m
      · exact h.all y m hz
      · simp at m
        rw [m, hx]
        exact ⟨_, hv, rfl⟩
    obtain ⟨c, hc, e⟩ := this
    exact ⟨setF q v' c, List.mem_map.2 ⟨c, hc, rfl⟩, by rw [setF_key]; exact e⟩
def ByP (w : World) (L : List Sl) (e : Ending) (w' : World) : Prop := ∃ cb C D, e = .returned (.map (some cb)) ∧ D.Perm L ∧ Mp w' cb C ∧ Grp w.heap.size w' cb C D ∧ Kp [] w w'
theorem Try.zeroPls (w : World) : (zeroValue 36).run Try.prog w = .ok (.slice none 0 0) w := by kernel_rfl
theorem Mp.noCells {w : World} {b : Nat} {G : List ((Int × Int) × Value)} (h : Mp w b G) : ∀ cur e, w.heap[b]? ≠ some (.cells cur e (0, 0)) := by
  obtain ⟨es, clock, hb, _⟩ := h
  intro cur e q
  rw [hb] at q
  cases q
theorem psrc_bk {w : World} {g : Nat} {n s : Int} (h : Bk w g 28 [.int .i64 n, .int .i64 s]) (c : Nat) : PSrc w (.slice (some ⟨g, 0, none⟩) 1 c) [(n, s)] :=
  .inr ⟨_, c, rfl, fun j u hu => by rw [Addr.add_mid, Nat.zero_add]; exact h.cell hu⟩
theorem Me.grown {w w' : World} {b : Nat} {G : List ((Int × Int) × Value)} {q : Int × Int} {st : Nat} {row : Option Nat} (h : Me w b G q st) (hg : w.grownBy w' row) (hn : some b ≠ row) : Me w' b G q st := by
  have hlt := h.mp.lt
  obtain ⟨es, clock, hb, E⟩ := h
  exact ⟨es, clock, (hg.block b hlt hn).trans hb, E⟩
/-- The entry at a place, met. -/
theorem Grp.meet {base : Nat} {w : World} {cb : Nat} {C : List ((Int × Int) × Value)} {D : List Sl} (hM : Mp w cb C) (h : Grp base w cb C D) {u v : Int} (hi : PIn (u, v)) (hz : isN u v = false) :
    ∃ (v0 : Value) (st : Nat) (C1 : List ((Int × Int) × Value)) (w' : World), (Instr.mapEntry 74 (.map (some cb)) (.agg #[.int .i64 u, .int .i64 v])).run Try.prog w = .ok (.tuple #[v0, .int .i64 (st : Int)]) w' ∧ Me w' cb C1 (u, v) st ∧ Kp [cb] w w' ∧ Grp base w' cb C1 D ∧ ((u, v), v0) ∈ C1 := by
  by_cases hq : ∃ v0, ((u, v), v0) ∈ C
  · obtain ⟨v0, hv⟩ := hq
    obtain ⟨st, w', hr, hE, hK⟩ := hM.entry_hit Try.underlying74 hv
    exact ⟨v0, st, C, w', hr, hE, hK, h.kept hK (fun i hi' => by simp at hi'; subst hi'; exact hM.noCells), hv⟩
  · have hn : ∀ p ∈ C, p.1 ≠ (u, v) := fun p hp e => hq ⟨p.2, by rw [← e]; exact hp⟩
    obtain ⟨st, w', hr, hE, hK⟩ := hM.entry_miss Try.underlying74 Try.zeroPls hi hn
    exact ⟨_, st, _, w', hr, hE, hK, (h.blank hz hn).kept hK (fun i hi' => by simp at hi'; subst hi'; exact hM.noCells), by simp⟩
theorem Rg.keptBy {w w' : World} {b r : Nat} {G T : List ((Int × Int) × Value)} {S : List Nat} (h : Rg w b r G T) (k : Kp S w w') (hb' : b ∉ S) (hr' : r ∉ S) : Rg w' b r G T := h.kept k hb' hr'
/-- What lies aside while a range goes on: the map that is filled is another block than the map that is gone over and the range itself. -/
theorem Rg.apart {w : World} {b r cb : Nat} {G T C : List ((Int × Int) × Value)} (h : Rg w b r G T) (hM : Mp w cb C) : cb ≠ r := by
  obtain ⟨es, clock, since, seen, c0, hb, E, hr, _⟩ := h
  obtain ⟨es', clock', hb', _⟩ := hM
  intro e
  rw [e, hr] at hb'
  cases hb'
set_option maxRecDepth 4000 in
set_option maxHeartbeats 4000000 in
theorem byparent_calls {w : World} {t : Nat} {m : Option Nat} {L : List Sl} (h : PT w t m L) (hpar : ∀ x ∈ L, PIn (x.u, x.v)) :
    Calls Try.prog 35 #[.pointer (some ⟨t, 0, none⟩)] w (ByP w L) := by
  have hs := h.small
  have hmm := @run_makeMap Try.prog
  have K0 := hide ((Kp.refl [] w).alloc (.map #[] 0))
  have M0 := hide (Mp.made w)
  have c0 : (w.alloc (.map #[] 0)).cell? ⟨t, 0, none⟩ = some (.map m) := (h.head.alloc _).cell rfl
  have hsz0 : (w.alloc (.map #[] 0)).heap.size = w.heap.size + 1 := by simp
  cases m with
  | none =>
    have e : L = [] := h.mo
    subst e
    clear h
    have hrg : ∀ w, (Instr.range 24 (.map none)).run Try.prog w = .ok (.pointer (some ⟨w.heap.size, 0, none⟩)) (w.alloc (.mapIter none 0 #[] 0)) := fun w => run_range_nilMap w _ _ _ Try.underlying24
    go_enter Try.func35, Try.ntmps35
    go_wp2_with fail
    generalize w.alloc (.map #[] 0) = w0 at *
    go_loopg [12] 0 (fun m v wx => wx = w0.alloc (.mapIter none 0 #[] 0))
    case atStart => rfl
    case round =>
      subst hrel
      have hnx : ∀ ty, (Instr.next (.pointer (some ⟨w.heap.size + 1, 0, none⟩)) false ty).run Try.prog (w0.alloc (.mapIter none 0 #[] 0)) = .ok (.tuple #[.bool false]) (w0.alloc (.mapIter none 0 #[] 0)) := fun ty => by
        have := run_next_nilMap (P := Try.prog) w0 ty 0 0 #[]
        rw [hsz0] at this
        exact this
      go_wp2
      go_ret
      exact ⟨w.heap.size, [], [], rfl, List.Perm.refl _, (unhide M0).kept ((Kp.refl [] w0).alloc _) (by simp), ⟨by simp, by simp, by simp⟩, (unhide K0).alloc _⟩
  | some b =>
    have hMb : Mp (w.alloc (.map #[] 0)) b (L.map slKV) := Mp.kept h.mo (unhide K0) (by simp)
    obtain ⟨w1, hrg, hR1, K1, hs1⟩ := hMb.range Try.underlying24
    have K1' := hide ((unhide K0).then K1)
    have M1 := hide ((unhide M0).kept K1 (by simp))
    rw [hsz0] at hR1 hrg
    have hR1' := hide hR1
    have hlt := hide h.mo.lt
    have hpar' := hide hpar
    clear h hpar K1 hR1 hMb M0 K0
    go_enter Try.func35, Try.ntmps35
    go_wp2_with fail
    go_loopg [12] L.length (fun mm v wx => ∃ D T C, (D ++ T).Perm L ∧ mm = T.length ∧ Rg wx b (w.heap.size + 1) (L.map slKV) (T.map slKV) ∧ Mp wx w.heap.size C ∧ Grp w.heap.size wx w.heap.size C D ∧ Kp [] w wx)
    case atStart => exact ⟨[], L, [], List.Perm.refl _, rfl, unhide hR1', unhide M1, ⟨by simp, by simp, by simp⟩, unhide K1'⟩
    case round =>
      obtain ⟨D, T, C, hDT, rfl, hRg, hM, hG, hK⟩ := hrel
      clear hrg c0 hs1 hR1' K1' M1 hmm hsz0
      have hlen := hDT.length_eq
      rw [List.length_append] at hlen
      have hap := hRg.apart hM
      rcases hRg.step with ⟨rfl, hnx⟩ | ⟨x, T', w2, hT, hnx, hRg2, hK2, hsz, hen⟩
      · rw [List.append_nil] at hDT
        replace hM := hide hM
        replace hG := hide hG
        replace hK := hide hK
        replace hDT := hide hDT
        clear hRg
        go_wp2
        go_ret
        exact ⟨w.heap.size, C, D, rfl, unhide hDT, unhide hM, unhide hG, unhide hK⟩
      · obtain ⟨k, o, z, bb, r, u, v, xn, xs, hV⟩ : ∃ k o z bb r u v xn xs : Int, x = ⟨xn, xs, u, v, k, o, z, bb, r⟩ := ⟨_, _, _, _, _, _, _, _, _, rfl⟩
        have hxL : x ∈ L := hDT.mem_iff.1 (by simp [hT.mem_iff])
        have hpi : Hid (PIn (u, v)) := by have := unhide hpar' x hxL; rw [hV] at this; exact this
        have hxu : Hid ((x.u, x.v) = (u, v)) := by unfold Hid; rw [hV]
        have hxn : Hid ((x.n, x.s) = (xn, xs)) := by unfold Hid; rw [hV]
        have hVV : holdV x = .agg #[.int .i64 k, .int .i64 o, .int .i64 z, .int .i64 bb, .int .i64 r, .int .i64 u, .int .i64 v] := by rw [hV]; rfl
        have hN1 : x.n = xn := by rw [hV]
        have hN2 : x.s = xs := by rw [hV]
        rw [hVV, hN1, hN2] at hnx hen
        have hDT' : Hid ((D ++ [x] ++ T').Perm L) := by
          unfold Hid
          rw [List.append_assoc]
          exact ((hT.symm.append_left D).trans hDT)
        have hTl : Hid (T'.length < T.length) := by unfold Hid; rw [hT.length_eq]; simp
        have hDl : D.length + 1 ≤ 65536 := by have := hT.length_eq; simp at this; omega
        have KA := hide (hK.trans hK2 (T := []) (by simp) (by intro i hi; simp at hi; subst hi; exact .inr (by omega)))
        have hM2 := hide (hM.kept hK2 (by simp))
        have hG2 := hide (hG.kept hK2 (by
          intro i hi cur e
          simp at hi
          subst hi
          obtain ⟨es, clock, since, seen, cc, _, _, hr, _⟩ := hRg
          rw [hr]
          simp))
        have hRg2' := hide hRg2
        have hszr := hide hK.size
        clear hDT hK hK2 hRg hT hN1 hN2 hVV hM hG hRg2 hxL hlen hV
        have KB := hide (((Kp.refl [] w2).alloc (.cells #[.int .i64 xn, .int .i64 xs] 28)).alloc (.cells #[.int .i64 k, .int .i64 o, .int .i64 z, .int .i64 bb, .int .i64 r, .int .i64 u, .int .i64 v] 71))
        have BB := hide ((Bk.new w2 28 [.int .i64 xn, .int .i64 xs]).alloc (.cells #[.int .i64 k, .int .i64 o, .int .i64 z, .int .i64 bb, .int .i64 r, .int .i64 u, .int .i64 v] 71))
        have BC := hide (Bk.next (p := w2.heap.size + 1) (w2.alloc (.cells #[.int .i64 xn, .int .i64 xs] 28)) 71 [.int .i64 k, .int .i64 o, .int .i64 z, .int .i64 bb, .int .i64 r, .int .i64 u, .int .i64 v] (by simp))
        obtain ⟨is, hIs⟩ : ∃ is, isN u v = is := ⟨_, rfl⟩
        replace hIs := hide hIs
        go_wp2_with fail
        refine (isnone_to (unhide hIs)).mono ?_
        rintro e W3 ⟨rfl, K3⟩
        have B3 := (unhide BB).kept K3 (by simp)
        have B4 := (unhide BC).kept K3 (by simp)
        have KC := (unhide KB).then K3
        have R3 := hide ((unhide hRg2').kept KC (by simp) (by simp))
        have M3 := hide ((unhide hM2).kept KC (by simp))
        have G3 := hide ((unhide hG2).kept KC (by simp))
        have KD := hide ((unhide KA).then KC)
        have d0 := B3.cell (i := 0) rfl
        have d1 := B3.cell (i := 1) rfl
        have d5 := B4.cell (i := 5) rfl
        have d6 := B4.cell (i := 6) rfl
        rw [hsz] at d0 d1 d5 d6
        clear B3 B4 K3 KC BB BC KB KA hRg2' hM2 hG2
        cases is
        · have KE := (Kp.refl [] W3).alloc (.cells #[.int .i64 xn, .int .i64 xs] 28)
          obtain ⟨v0, st, C1, W4, hme, hE4, hK4, hG4, hv0⟩ := Grp.meet ((unhide M3).kept KE (by simp)) ((unhide G3).kept KE (by simp)) (unhide hpi) (unhide hIs)
          have hap3 := hide ((unhide R3).apart (unhide M3))
          have hbl := hide (unhide hlt)
          have R4 := hide (((unhide R3).kept KE (by simp) (by simp)).kept hK4 (by have := unhide hlt; simp; omega) (by have := unhide hap3; simp))
          have K4 := hide (((unhide KD).then KE).trans hK4 (T := []) (by simp) (by simp))
          have S4 := hide (psrc_bk ((Bk.new W3 28 [.int .i64 xn, .int .i64 xs]).kept hK4 (by have := (unhide M3).lt; simp; omega)) 1)
          have P4 := hide (hG4.own _ hv0).2
          have P4l := sel_len (sonF u v) D
          have nd4 := hide hE4.mp.nd
          replace hE4 := hide hE4
          replace hG4 := hide hG4
          replace hv0 := hide hv0
          clear hK4 KE M3 G3 R3 KD
          go_wp2_with (first
            | (at_builtin; refine plist_app rfl _ _ rfl w.heap.size v0 (.slice (some ⟨W3.heap.size, 0, none⟩) 1 1) (sel (sonF u v) D) [(xn, xs)] rfl rfl (unhide P4) (unhide S4) ?c1 ?c2 ?_)
            | go_in)
          case c1 => simp; omega
          case c2 => exact (unhide K4).size
          intro v' W5 hP5 hg5 hat5
          have hE5 := (unhide hE4).grown hg5 (fun e => by
            obtain ⟨cur, hc⟩ := (unhide P4).cells e.symm
            exact (unhide hE4).mp.noCells _ _ hc)
          obtain ⟨W6, hst0, hM6, hK6⟩ := hE5.store 74 v'
          have hst : (Instr.entryStore 74 (.map (some w.heap.size)) (.int .i64 (st : Int)) v').run Try.prog W5 = .ok () W6 := hst0
          have hG6 := hide ((unhide hG4).more (unhide nd4) (unhide hv0) (x := x) (unhide hxu) (by rw [unhide hxn]; exact hP5) hg5 hat5 hK6 hE5.mp.noCells)
          have R5 := (unhide R4).grown hg5 (unhide P4) (fun k _ => rfl)
          have R6 := hide (R5.kept hK6 (by have := unhide hlt; simp; omega) (by have := R5.apart hE5.mp; simp))
          have K5 := kp_grown (unhide K4) hg5 (fun g hg => (World.ownsRow.lt (unhide P4) g hg).1)
          have K6 := hide (K5.trans hK6 (T := []) (by simp) (by simp))
          replace hM6 := hide hM6
          clear hst0 hK6 hE5 R5 K5 hP5 hg5 hat5 hme
          go_wp2
          go_roundg T'.length
          case measure => exact unhide hTl
          case rel => exact ⟨D ++ [x], T', _, unhide hDT', rfl, unhide R6, unhide hM6, unhide hG6, unhide K6⟩
        · have hG4 := hide ((unhide G3).skip (x := x) (by have := unhide hxu; simp at this; rw [this.1, this.2]; exact unhide hIs))
          go_wp2
          go_roundg T'.length
          case measure => exact unhide hTl
          case rel => exact ⟨D ++ [x], T', C, unhide hDT', rfl, unhide R3, unhide M3, unhide hG4, unhide KD⟩
end Go.Proofs.Ytdlkaaiedfikoaa
