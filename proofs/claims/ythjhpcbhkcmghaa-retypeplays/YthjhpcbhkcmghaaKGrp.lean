/- Places appended to a list of places; a map of lists of places, each its own. -/
import Derived.Test.YthjhpcbhkcmghaaKSlots6
import Derived.Maps.AppendAt
import Derived.Laws.OwnMore
import Derived.Test.YthjhpcbhkcmghaaKSlots9
import Derived.Laws.IdiomRangeMap
namespace Go.Proofs.Ythjhpcbhkcmghaa
open Go.RowKit
set_option linter.unusedVariables false
theorem Pl.src {base : Nat} {w : World} {v : Value} {ps : List (Int × Int)} (h : Pl base w v ps) : PSrc w v ps := by
  rcases h.addr with ⟨e, e2⟩ | ⟨g, cap, e, _⟩
  · exact .inl ⟨e, e2⟩
  · subst e
    refine .inr ⟨_, cap, rfl, fun j u hu => ?_⟩
    have hj := (List.getElem?_eq_some_iff.1 hu).1
    rw [prow_len] at hj
    rw [Addr.add_mid, Nat.zero_add, World.ownsRow.cellAt h j hj]
    exact hu
theorem papp_run {w : World} {base : Nat} {v x : Value} {ps qs : List (Int × Int)} (hown : Pl base w v ps) (hsrc : PSrc w x qs) (hb : ps.length + qs.length ≤ 1048576) (hbase : base ≤ w.heap.size) (ty : TypeId) :
    ∃ v' w', (Builtin.append_ #[59, 59] ty #[v, x]).run Try.prog w = .ok v' w' ∧ Pl base w' v' (ps ++ qs) ∧ w.grownBy w' v.ownBlock ∧ (v'.ownBlock = v.ownBlock ∨ v'.ownBlock = some w.heap.size) := by
  obtain ⟨i0, hi, hinf⟩ := Option.map_eq_some_iff.1 Try.infoPlace
  simp only [Prod.mk.injEq] at hinf
  obtain ⟨hz0, hz1, hz2⟩ := hinf
  rcases hsrc with ⟨rfl, rfl⟩ | ⟨ad, c, rfl, hc⟩
  · refine ⟨v, w, run_append_owned_none w base _ ty _ i0 2 Try.underlying59 hi v ps.length (prow ps) hown, ?_, ⟨rfl, rfl, rfl, Nat.le_refl _, fun _ _ _ => rfl⟩, .inl rfl⟩
    rw [List.append_nil]
    exact hown
  · obtain ⟨v', w', hr, h2, h3, _, h5⟩ := run_append_own_at (P := Try.prog) w base 59 ty 40 i0 _ 2 16 Try.underlying59 hi hz0 hz1 hz2 rfl (by decide) v ps.length (prow ps) hown ad qs.length c (prow qs) (prow_len qs) hc (prow_one qs) (by unfold maxLen; omega) (by omega) hbase
    refine ⟨v', w', hr, ?_, h3, h5⟩
    unfold Pl
    rw [prow_app, List.length_append]
    exact h2
theorem plist_app {w : World} {ops : Array Oper} {rest : List Oper} {o : Oper} {a : Act} {Q : Exit → Act → World → Prop} (hgd : o.guard = none) (s x : Operand)
    (ho : o.op = .call { callee := .builtin .append, args := #[s, x], argTypes := #[59, 59] })
    (base : Nat) (v xv : Value) (ps qs : List (Int × Int)) (hs : a.eval s = v) (hx : a.eval x = xv) (hown : Pl base w v ps) (hsrc : PSrc w xv qs) (hb : ps.length + qs.length ≤ 1048576) (hbase : base ≤ w.heap.size)
    (h : ∀ v' w', Pl base w' v' (ps ++ qs) → w.grownBy w' v.ownBlock → (v'.ownBlock = v.ownBlock ∨ v'.ownBlock = some w.heap.size) → wpList Try.prog ops Q rest (a.put o.dst v') w') : wpList Try.prog ops Q (o :: rest) a w :=
  wpList_plain hgd fun _ hK => by
    obtain ⟨v', w', hr, h2, h3, h5⟩ := papp_run hown hsrc hb hbase o.type
    unfold Oper.wp execOp
    simp only [ho, resolve, invoke, builtin, Sem.run_bind, Sem.run_pure, Result.andThen_ok, List.map_toArray, List.map_cons, List.map_nil, hs, hx, hr]
    exact hK _ _ (h v' w' h2 h3 h5)
theorem psrc_one (w : World) (n s : Int) (c : Nat) : PSrc (w.alloc (.cells #[.int .i64 n, .int .i64 s] 40)) (.slice (some ⟨w.heap.size, 0, none⟩) 1 c) [(n, s)] :=
  .inr ⟨_, c, rfl, fun j u hu => place_new w n s j u hu⟩
/-- Two slices that do not share a block. -/
def Apart (v v' : Value) : Prop := ∀ g, v.ownBlock = some g → v'.ownBlock ≠ some g
theorem Apart.symm {v v' : Value} (h : Apart v v') : Apart v' v := fun g h1 h2 => h g h2 h1
/-- The map at cb has, at each place, the list of those of D whose parent it is. -/
structure Grp (base : Nat) (w : World) (cb : Nat) (C : List ((Int × Int) × Value)) (D : List Sl) : Prop where
  own : ∀ c ∈ C, isN c.1.1 c.1.2 = false ∧ Pl base w c.2 (sel (sonF c.1.1 c.1.2) D)
  apart : C.Pairwise fun c c' => Apart c.2 c'.2
  all : ∀ x ∈ D, isN x.u x.v = false → ∃ c ∈ C, c.1 = (x.u, x.v)
theorem sel_other {D : List Sl} {x : Sl} {q : Int × Int} (h : (x.u, x.v) ≠ q) : sel (sonF q.1 q.2) (D ++ [x]) = sel (sonF q.1 q.2) D := by
  rw [sel_app]
  have : sonF q.1 q.2 x = false := by
    unfold sonF
    cases hb : (x.u == q.1 && x.v == q.2) with
    | false => rfl
    | true =>
      simp at hb
      exact absurd (Prod.ext hb.1 hb.2) h
  rw [this]
  simp
theorem sel_own {D : List Sl} {x : Sl} {q : Int × Int} (h : (x.u, x.v) = q) : sel (sonF q.1 q.2) (D ++ [x]) = sel (sonF q.1 q.2) D ++ [(x.n, x.s)] := by
  rw [sel_app]
  have : sonF q.1 q.2 x = true := by unfold sonF; rw [← h]; simp
  rw [this]
  simp
theorem Grp.kept {base : Nat} {w w' : World} {cb : Nat} {C : List ((Int × Int) × Value)} {D : List Sl} {S : List Nat} (h : Grp base w cb C D) (k : Kp S w w') (hS : ∀ i ∈ S, ∀ cur e, w.heap[i]? ≠ some (.cells cur e (0, 0))) : Grp base w' cb C D :=
  ⟨fun c hc => ⟨(h.own c hc).1, (h.own c hc).2.kept k fun g hg hm => by
    obtain ⟨cur, e⟩ := (h.own c hc).2.cells hg
    exact hS g hm _ _ e⟩, h.apart, h.all⟩
theorem Grp.skip {base : Nat} {w : World} {cb : Nat} {C : List ((Int × Int) × Value)} {D : List Sl} (h : Grp base w cb C D) {x : Sl} (hx : isN x.u x.v = true) : Grp base w cb C (D ++ [x]) := by
  refine ⟨fun c hc => ⟨(h.own c hc).1, ?_⟩, h.apart, fun y hy hn => ?_⟩
  · rw [sel_other]
    · exact (h.own c hc).2
    · intro e
      have := (h.own c hc).1
      rw [← e] at this
      simp only at this
      rw [hx] at this
      cases this
  · rcases List.mem_append.1 hy with m | m
    · exact h.all y m hn
    · simp at m
      rw [m, hx] at hn
      cases hn
/-- A key more, with nothing at it yet. -/
theorem Grp.blank {base : Nat} {w : World} {cb : Nat} {C : List ((Int × Int) × Value)} {D : List Sl} (h : Grp base w cb C D) {q : Int × Int} (hq : isN q.1 q.2 = false) (hn : ∀ p ∈ C, p.1 ≠ q) : Grp base w cb (C ++ [(q, .slice none 0 0)]) D := by
  have hno : sel (sonF q.1 q.2) D = [] := by
    cases hs : sel (sonF q.1 q.2) D with
    | nil => rfl
    | cons a l =>
      exfalso
      obtain ⟨x, hx, hf, _⟩ := mem_sel.1 (show a ∈ sel (sonF q.1 q.2) D from by rw [hs]; simp)
      unfold sonF at hf
      simp at hf
      have e : (x.u, x.v) = q := Prod.ext hf.1 hf.2
      have hz : isN x.u x.v = false := by rw [← e] at hq; exact hq
      obtain ⟨c, hc, e2⟩ := h.all x hx hz
      exact hn c hc (e2.trans e)
  refine ⟨fun c hc => ?_, ?_, fun y hy hz => ?_⟩
  · rcases List.mem_append.1 hc with m | m
    · exact h.own c m
    · simp at m
      subst m
      refine ⟨hq, ?_⟩
      simp only
      rw [hno]
      exact Pl.nil _ _
  · refine List.pairwise_append.2 ⟨h.apart, by simp, fun c hc c' hc' g _ => ?_⟩
    simp at hc'
    subst hc'
    intro e
    cases e
  · obtain ⟨c, hc, e⟩ := h.all y hy hz
    exact ⟨c, List.mem_append.2 (.inl hc), e⟩
theorem pw_keys {C : List ((Int × Int) × Value)} (hnd : (C.map Prod.fst).Nodup) (hpw : C.Pairwise fun c c' => Apart c.2 c'.2) : ∀ a ∈ C, ∀ b ∈ C, a.1 ≠ b.1 → Apart a.2 b.2 := by
  induction C with
  | nil => intro a ha; cases ha
  | cons d C ih =>
    rw [List.pairwise_cons] at hpw
    rw [List.map_cons, List.nodup_cons] at hnd
    intro a ha b hb hab
    rcases List.mem_cons.1 ha with rfl | ma <;> rcases List.mem_cons.1 hb with rfl | mb
    · exact absurd rfl hab
    · exact hpw.1 b mb
    · exact (hpw.1 a ma).symm
    · exact ih hnd.2 hpw.2 a ma b mb hab
theorem Pl.lt {base : Nat} {w : World} {v : Value} {ps : List (Int × Int)} (h : Pl base w v ps) {g : Nat} (hg : v.ownBlock = some g) : g < w.heap.size := by
  obtain ⟨cur, e⟩ := h.cells hg
  exact (Array.getElem?_eq_some_iff.1 e).1
theorem Pl.grown {base : Nat} {w w' : World} {v : Value} {ps : List (Int × Int)} {row : Option Nat} (h : Pl base w v ps) (hg : w.grownBy w' row) (hn : ∀ g, v.ownBlock = some g → some g ≠ row) : Pl base w' v ps := by
  refine ⟨h.1, ?_⟩
  rcases h.2 with hz | ⟨g, c, cur, e, hb, hgg, rest⟩
  · exact .inl hz
  · exact .inr ⟨g, c, cur, e, hb, (hg.block g (Array.getElem?_eq_some_iff.1 hgg).1 (hn g (by rw [e]; rfl))).trans hgg, rest⟩
/-- What is appended at a key. -/
theorem Grp.more {base : Nat} {w1 w2 w3 : World} {cb : Nat} {C : List ((Int × Int) × Value)} {D : List Sl} (h : Grp base w1 cb C D) (hnd : (C.map Prod.fst).Nodup) {q : Int × Int} {v v' : Value} (hv : (q, v) ∈ C) {x : Sl} (hx : (x.u, x.v) = q)
    (hP : Pl base w2 v' (sel (sonF q.1 q.2) D ++ [(x.n, x.s)])) (hg : w1.grownBy w2 v.ownBlock) (hat : v'.ownBlock = v.ownBlock ∨ v'.ownBlock = some w1.heap.size) (hk : Kp [cb] w2 w3) (hcb : ∀ cur e, w2.heap[cb]? ≠ some (.cells cur e (0, 0))) :
    Grp base w3 cb (C.map (setF q v')) (D ++ [x]) := by
  have hPk : ∀ (u : Value) ps, Pl base w2 u ps → Pl base w3 u ps := fun u ps hu => hu.kept hk fun g hgg hm => by
    simp at hm
    subst hm
    obtain ⟨cur, e⟩ := hu.cells hgg
    exact hcb _ _ e
  have hap : ∀ c ∈ C, c.1 ≠ q → Apart c.2 v := fun c hc hne => pw_keys hnd h.apart c hc (q, v) hv hne
  have hap' : ∀ c ∈ C, c.1 ≠ q → Apart c.2 v' := by
    intro c hc hne g h1 h2
    rcases hat with e | e
    · exact hap c hc hne g h1 (e ▸ h2)
    · rw [e] at h2
      cases h2
      exact Nat.lt_irrefl _ ((h.own c hc).2.lt h1)
  refine ⟨fun c' hc' => ?_, ?_, fun y hy hz => ?_⟩
  · obtain ⟨c, hc, rfl⟩ := List.mem_map.1 hc'
    unfold setF
    by_cases e : c.1 = q
    · rw [if_pos e]
      refine ⟨(h.own _ hv).1, ?_⟩
      show Pl base w3 v' (sel (sonF q.1 q.2) (D ++ [x]))
      rw [sel_own hx]
      exact hPk _ _ hP
    · rw [if_neg e]
      refine ⟨(h.own c hc).1, ?_⟩
      rw [sel_other (by rw [hx]; exact fun q1 => e q1.symm)]
      exact hPk _ _ ((h.own c hc).2.grown hg (fun g h1 h2 => hap c hc e g h1 h2.symm))
  · rw [List.pairwise_map]
    have hne : C.Pairwise fun c c' => c.1 ≠ c'.1 := by
      have : (C.map Prod.fst).Pairwise (· ≠ ·) := hnd
      rwa [List.pairwise_map] at this
    refine (h.apart.and hne).imp_of_mem ?_
    intro c c' hc hc' hcc
    unfold setF
    by_cases e : c.1 = q
    · have e' : c'.1 ≠ q := fun q1 => hcc.2 (e.trans q1.symm)
      rw [if_pos e, if_neg e']
      exact (hap' c' hc' e').symm
    · rw [if_neg e]
      by_cases e' : c'.1 = q
      · rw [if_pos e']
        exact hap' c hc e
      · rw [if_neg e']
        exact hcc.1
  · have : ∃ c ∈ C, c.1 = (y.u, y.v) := by
      rcases List.mem_append.1 hy with m | m
      · exact h.all y m hz
      · simp at m
        rw [m, hx]
        exact ⟨_, hv, rfl⟩
    obtain ⟨c, hc, e⟩ := this
    exact ⟨setF q v' c, List.mem_map.2 ⟨c, hc, rfl⟩, by rw [setF_key]; exact e⟩
def ByP (w : World) (L : List Sl) (e : Ending) (w' : World) : Prop := ∃ cb C D, e = .returned (.map (some cb)) ∧ D.Perm L ∧ Mp w' cb C ∧ Grp w.heap.size w' cb C D ∧ Kp [] w w'
theorem Try.zeroPls (w : World) : (zeroValue 59).run Try.prog w = .ok (.slice none 0 0) w := by kernel_rfl
theorem Mp.noCells {w : World} {b : Nat} {G : List ((Int × Int) × Value)} (h : Mp w b G) : ∀ cur e, w.heap[b]? ≠ some (.cells cur e (0, 0)) := by
  obtain ⟨es, clock, hb, _⟩ := h
  intro cur e q
  rw [hb] at q
  cases q
theorem psrc_bk {w : World} {g : Nat} {n s : Int} (h : Bk w g 40 [.int .i64 n, .int .i64 s]) (c : Nat) : PSrc w (.slice (some ⟨g, 0, none⟩) 1 c) [(n, s)] :=
  .inr ⟨_, c, rfl, fun j u hu => by rw [Addr.add_mid, Nat.zero_add]; exact h.cell hu⟩
theorem Me.grown {w w' : World} {b : Nat} {G : List ((Int × Int) × Value)} {q : Int × Int} {st : Nat} {row : Option Nat} (h : Me w b G q st) (hg : w.grownBy w' row) (hn : some b ≠ row) : Me w' b G q st := by
  have hlt := h.mp.lt
  obtain ⟨es, clock, hb, E⟩ := h
  exact ⟨es, clock, (hg.block b hlt hn).trans hb, E⟩
theorem Rg.keptBy {w w' : World} {b r : Nat} {G T : List ((Int × Int) × Value)} {S : List Nat} (h : Rg w b r G T) (k : Kp S w w') (hb' : b ∉ S) (hr' : r ∉ S) : Rg w' b r G T := h.kept k hb' hr'
/-- What lies aside while a range goes on: the map that is filled is another block than the map that is gone over and the range itself. -/
theorem Rg.apart {w : World} {b r cb : Nat} {G T C : List ((Int × Int) × Value)} (h : Rg w b r G T) (hM : Mp w cb C) : cb ≠ r := by
  obtain ⟨es, clock, since, seen, c0, hb, E, hr, _⟩ := h
  obtain ⟨es', clock', hb', _⟩ := hM
  intro e
  rw [e, hr] at hb'
  cases hb'
end Go.Proofs.Ythjhpcbhkcmghaa
