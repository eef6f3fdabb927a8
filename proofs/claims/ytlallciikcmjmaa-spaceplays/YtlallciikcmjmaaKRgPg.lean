/- A range over the map of pages, under way: one that comes, one that is deleted; what comes of the library's maps.Keys. -/
import Derived.Test.YtlallciikcmjmaaKSpc2
import Derived.RangeFuncNested
import Derived.RangeFuncLeaves
import Derived.WalkKit
import Derived.OwnWalkIn
import Derived.TacticsInMore
import Derived.LoopNIn
import Derived.LoopIn
import Derived.Sort.LoopGhostIn
import Derived.Sort.MapsRangeIn
namespace Go.Proofs.Ytlallciikcmjmaa
open Go.RowKit
set_option linter.unusedVariables false
attribute [local go_sem] Oper.semAt_some
theorem Gm.Rg.permT {T0 : TypeId} {Q : Type} [DecidableEq Q] {K : Gm.Key T0 Q} {w : World} {b r : Nat} {G T T' : List (Q × Value)} (h : Gm.Rg K w b r G T) (p : T.Perm T') : Gm.Rg K w b r G T' := by
  obtain ⟨es, clock, since, seen, c0, hb, E, hr, h1, h2, h3, h4⟩ := h
  exact ⟨es, clock, since, seen, c0, hb, E, hr, h1, h2, h3, h4.trans (p.map _)⟩
theorem Gm.Rg.permG {T0 : TypeId} {Q : Type} [DecidableEq Q] {K : Gm.Key T0 Q} {w : World} {b r : Nat} {G G' T : List (Q × Value)} (h : Gm.Rg K w b r G T) (p : G.Perm G') : Gm.Rg K w b r G' T := by
  obtain ⟨es, clock, since, seen, c0, hb, E, hr, h1, h2, h3, h4⟩ := h
  exact ⟨es, clock, since, seen, c0, hb, E.perm p, hr, h1, h2, h3, h4⟩
/-- A round that keeps maps and ranges. -/
theorem Gm.Rg.walks {T0 : TypeId} {Q : Type} [DecidableEq Q] {K : Gm.Key T0 Q} {w w' : World} {b r : Nat} {G T : List (Q × Value)} (h : Gm.Rg K w b r G T) (k : KeepsWalks w w') : Gm.Rg K w' b r G T := by
  obtain ⟨es, clock, since, seen, c0, hb, E, hr, rest⟩ := h
  exact ⟨es, clock, since, seen, c0, k.same b _ hb rfl, E, k.same r _ hr rfl, rest⟩
theorem Gm.Rg.iter {T0 : TypeId} {Q : Type} [DecidableEq Q] {K : Gm.Key T0 Q} {w : World} {b r : Nat} {G T : List (Q × Value)} (h : Gm.Rg K w b r G T) : ∃ o : Obj, w.heap[r]? = some o ∧ o.isWalk = true := by
  obtain ⟨es, clock, since, seen, c0, hb, E, hr, rest⟩ := h
  exact ⟨_, hr, rfl⟩
theorem gb_kp {w w' : World} {r : Nat} (k : Kp [r] w w') : w.grownBy w' (some r) := ⟨k.os, k.tape, k.output, k.size, fun i hi hn => k.block i hi (fun m => hn (by rw [List.mem_singleton.1 m]))⟩
theorem gb_kp0 {w w' : World} (k : Kp [] w w') : w.grownBy w' none := ⟨k.os, k.tape, k.output, k.size, fun i hi hn => k.block i hi (by simp)⟩
theorem kvPg_inj {x y : Pg} (h : kvPg x = kvPg y) : x = y := by
  obtain ⟨a, b, c, d⟩ := x
  obtain ⟨a', b', c', d'⟩ := y
  unfold kvPg at h
  simp at h
  obtain ⟨⟨rfl, rfl⟩, rfl, rfl⟩ := h
  rfl
/-- The step, by pages. -/
theorem rg_step {w : World} {b r : Nat} {L T : List Pg} (h : Gm.Rg pgK w b r (L.map kvPg) (T.map kvPg)) :
    (T = [] ∧ ∀ ty, (Instr.next (.pointer (some ⟨r, 0, none⟩)) false ty).run Try.prog w = .ok (.tuple #[.bool false]) w) ∨
    ∃ x T' w', T.Perm (x :: T') ∧ x ∈ L ∧ (∀ ty, (Instr.next (.pointer (some ⟨r, 0, none⟩)) false ty).run Try.prog w = .ok (.tuple #[.bool true, .agg #[.int .i64 x.s, .int .i64 x.p], .agg #[.int .i64 x.f, .int .i64 x.r]]) w') ∧ Gm.Rg pgK w' b r (L.map kvPg) (T'.map kvPg) ∧ Kp [r] w w' ∧ w'.heap.size = w.heap.size ∧
      (Instr.entry (.pointer (some ⟨r, 0, none⟩))).run Try.prog w' = .ok (.tuple #[.agg #[.int .i64 x.s, .int .i64 x.p], .agg #[.int .i64 x.f, .int .i64 x.r]]) w' := by
  rcases h.next 0 with ⟨h0, hrun⟩ | ⟨q, v, T', w', hp, hG, hrun, hR, hK, hs, he⟩
  · exact .inl ⟨List.map_eq_nil_iff.1 h0, fun _ => hrun⟩
  · obtain ⟨x, hx, hxe⟩ := List.mem_map.1 (hp.mem_iff.2 (List.mem_cons_self ..))
    obtain ⟨A, B, rfl⟩ := List.append_of_mem hx
    have e1 : (x.s, x.p) = q := congrArg Prod.fst hxe
    have e2 : Value.agg #[.int .i64 x.f, .int .i64 x.r] = v := congrArg Prod.snd hxe
    subst e1 e2
    obtain ⟨y, hy, hye⟩ := List.mem_map.1 hG
    have hyx : y = x := kvPg_inj hye
    subst hyx
    refine .inr ⟨y, A ++ B, w', List.perm_middle, hy, fun _ => hrun, hR.permT ?_, hK, hs, he⟩
    rw [List.map_append, List.map_cons] at hp
    rw [List.map_append]
    exact (List.Perm.cons_inv (List.perm_middle.symm.trans hp)).symm
theorem pgs_app (A B : List Pg) : pgs (A ++ B) = pgs A ++ pgs B := by unfold pgs; rw [List.map_append]
theorem pgs_perm {A B : List Pg} (h : A.Perm B) : (pgs A).Perm (pgs B) := h.map _
set_option maxRecDepth 100000 in
set_option maxHeartbeats 1000000 in
/-- maps.Keys' iterator over a map that is there: each page comes once, in some order, or a round has said 'no more'. -/
theorem keysPg_in (n : Nat) (hn : 1 ≤ n) (l Bm b : Nat) (L : List Pg) (J Jx : List (Int × Int) → World → Prop)
    (hY : ∀ pre x W, J pre W → pre.length < L.length → YieldAt Fence.wide (n - 1) Try.prog l #[pgVal x] W fun e W' =>
      (e = .returned (.bool true) ∧ J (pre ++ [x]) W' ∧ KeepsWalks W W') ∨ (e = .returned (.bool false) ∧ Jx (pre ++ [x]) W'))
    (W : World) (hJ : AbidesFrom W.heap.size J) (hm : W.cell? ⟨Bm, 0, none⟩ = some (.map (some b))) (hown : Gm.Mp pgK W b (L.map kvPg)) (h0 : J [] W) :
    CallsIn Fence.wide n Try.prog 42 #[.func (.yield l) #[] #[], .pointer (some ⟨Bm, 0, none⟩)] W fun e W' => (∃ v, e = .returned v) ∧
      ((∃ xs : List (Int × Int), xs.Perm (pgs L) ∧ J xs W') ∨ (∃ pre : List (Int × Int), True ∧ Jx pre W')) := by
  obtain ⟨w0, hrg, hR0, K0, hs0⟩ := hown.range Try.underlying24
  have hJ0 : J [] w0 := hJ [] W w0 none h0 (gb_kp0 K0) (fun r e => by cases e)
  have hR0' := hide hR0
  have hJ0' := hide hJ0
  clear hown hR0 h0 hJ0
  refine callsIn_of_wp Try.func42 rfl trivial ?_ rfl
  simp only [Try.ntmps42, List.size_toArray, List.length_cons, List.length_nil, Nat.reduceAdd, Nat.reduceSub, Array.replicate_succ, Array.replicate_zero, List.push_toArray, List.append_toArray, List.nil_append, List.cons_append]
  gi_wp2
  gi_loopg [3] L.length (fun mm _ wr => ∃ D T : List Pg, (D ++ T).Perm L ∧ mm = T.length ∧ Gm.Rg pgK wr b W.heap.size (L.map kvPg) (T.map kvPg) ∧ J (pgs D) wr)
  case atStart => exact ⟨[], L, List.Perm.refl _, rfl, unhide hR0', unhide hJ0'⟩
  case round =>
    obtain ⟨D, T, hDT, rfl, hRg, hJs⟩ := hrel
    clear hrg hs0 hR0' hJ0' K0
    have hlen := hDT.length_eq
    rw [List.length_append] at hlen
    rcases rg_step hRg with ⟨rfl, hnx⟩ | ⟨x, T', w2, hT, hxL, hnx, hRg2, hK2, hsz, hen⟩
    · gi_wp2
      go_end0
      exact ⟨⟨_, rfl⟩, .inl ⟨pgs D, pgs_perm (by simpa using hDT), hJs⟩⟩
    · have hJ2 : J (pgs D) w2 := hJ (pgs D) _ w2 (some W.heap.size) hJs (gb_kp hK2) (fun r e => by cases e; exact ⟨Nat.le_refl _, hRg.iter⟩)
      have hTl := hT.length_eq
      rw [List.length_cons] at hTl
      obtain ⟨w3, hw3⟩ : ∃ w3, w2.alloc (.cells #[.int .i64 x.s, .int .i64 x.p] 30) = w3 := ⟨_, rfl⟩
      have hJ3 : J (pgs D) w3 := by rw [← hw3]; exact hJ (pgs D) _ _ none hJ2 (World.grownBy_alloc _ _ _) (fun r e => by cases e)
      have hRg3 : Gm.Rg pgK w3 b W.heap.size (L.map kvPg) (T'.map kvPg) := by rw [← hw3]; exact hRg2.kept ((Kp.refl [] w2).alloc _) (by simp) (by simp)
      have hb3 : Bk w3 wr.heap.size 30 [.int .i64 x.s, .int .i64 x.p] := by rw [← hw3, ← hsz]; exact Bk.new w2 _ [.int .i64 x.s, .int .i64 x.p]
      obtain ⟨fn, tmps, assign, body, hy, hR⟩ := hY (pgs D) (x.s, x.p) w3 hJ3 (by rw [pgs_len]; omega)
      have hy' : (Instr.yield l #[.agg #[.int .i64 x.s, .int .i64 x.p]]).run Try.prog w3 = .ok (.round l fn tmps assign body) w3 := hy
      clear hy
      have c0 := hb3.cell (i := 0) rfl
      have c1 := hb3.cell (i := 1) rfl
      clear hb3
      gi_wp2
      refine hR.mono ?_
      rintro e W3 (⟨rfl, hJ4, hk4⟩ | ⟨rfl, hJx4⟩)
      · gi_wp2
        gi_roundg T'.length
        case measure => omega
        case rel =>
          refine ⟨D ++ [x], T', ?_, rfl, hRg3.walks hk4, ?_⟩
          · rw [List.append_assoc]
            exact (List.Perm.append_left D hT.symm).trans hDT
          · rw [pgs_app]
            exact hJ4
      · gi_wp2
        refine bodyPost_ret (results_none rfl _ _ _) rfl ?_
        exact ⟨⟨_, rfl⟩, .inr ⟨pgs D ++ [(x.s, x.p)], trivial, hJx4⟩⟩
end Go.Proofs.Ytlallciikcmjmaa
