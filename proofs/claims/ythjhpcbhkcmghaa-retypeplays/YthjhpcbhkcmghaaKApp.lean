/- Slots appended to a row of slots that the document's table makes anew. -/
import Derived.Test.YthjhpcbhkcmghaaKTab
import Derived.Maps.AppendAt
import Derived.Laws.OwnMore
namespace Go.Proofs.Ythjhpcbhkcmghaa
open Go.RowKit
set_option linter.unusedVariables false
/-- A row of slots in memory newer than base. -/
def SRow (base : Nat) (w : World) (v : Value) (M : List Sl) : Prop := w.ownsRow base 78 9 v M.length (rows M)
/-- A slice of slots to be read from. -/
def Src (w : World) (x : Value) (N : List Sl) : Prop := (x = .slice none 0 0 ∧ N = []) ∨ ∃ ad c, x = .slice (some ad) N.length c ∧ ∀ j u, (rows N)[j]? = some u → w.cell? (ad.add j) = some u
theorem Try.infoSlot : (Try.prog.info? 78).map (fun i => (i.zero, i.size, i.bytes)) = some (some (.agg #[.int .i64 0, .int .i64 0, .int .i64 0, .int .i64 0, .int .i64 0, .int .i64 0, .int .i64 0, .int .i64 0, .int .i64 0]), 9, 72) := by kernel_rfl
theorem app_run {w : World} {base : Nat} {v x : Value} {M N : List Sl} (hown : SRow base w v M) (hsrc : Src w x N) (hb : M.length + N.length ≤ 1048576) (hbase : base ≤ w.heap.size) (ty : TypeId) :
    ∃ v' w', (Builtin.append_ #[28, 28] ty #[v, x]).run Try.prog w = .ok v' w' ∧ SRow base w' v' (M ++ N) ∧ w.grownBy w' v.ownBlock ∧ (v'.ownBlock = v.ownBlock ∨ v'.ownBlock = some w.heap.size) := by
  obtain ⟨i0, hi, hinf⟩ := Option.map_eq_some_iff.1 Try.infoSlot
  simp only [Prod.mk.injEq] at hinf
  obtain ⟨hz0, hz1, hz2⟩ := hinf
  rcases hsrc with ⟨rfl, rfl⟩ | ⟨ad, c, rfl, hc⟩
  · refine ⟨v, w, run_append_owned_none w base _ ty _ i0 9 Try.underlying28 hi v M.length (rows M) hown, ?_, ⟨rfl, rfl, rfl, Nat.le_refl _, fun _ _ _ => rfl⟩, .inl rfl⟩
    rw [List.append_nil]
    exact hown
  · obtain ⟨v', w', hr, h2, h3, _, h5⟩ := run_append_own_at (P := Try.prog) w base 28 ty 78 i0 _ 9 72 Try.underlying28 hi hz0 hz1 hz2 rfl (by decide) v M.length (rows M) hown ad N.length c (rows N) (rows_len N) hc (rows_one N) (by unfold maxLen; omega) (by omega) hbase
    refine ⟨v', w', hr, ?_, h3, h5⟩
    unfold SRow
    rw [rows_app, List.length_append]
    exact h2
/-- At a step of a region that draws. -/
theorem step_app {w : World} {ops : Array Oper} {o : Oper} {a : Act} {K : Act → World → Prop} {Q : Exit → Act → World → Prop} {E : Prop} (hgd : o.guard = none) (s x : Operand)
    (ho : o.op = .call { callee := .builtin .append, args := #[s, x], argTypes := #[28, 28] })
    (base : Nat) (v xv : Value) (M N : List Sl) (hs : a.eval s = v) (hx : a.eval x = xv) (hown : SRow base w v M) (hsrc : Src w xv N) (hb : M.length + N.length ≤ 1048576) (hbase : base ≤ w.heap.size)
    (h : ∀ v' w', SRow base w' v' (M ++ N) → w.grownBy w' v.ownBlock → (v'.ownBlock = v.ownBlock ∨ v'.ownBlock = some w.heap.size) → K (a.put o.dst v') w') :
    if Region.wanted o (yielded ops a.tmps) = true then Oper.wp Try.prog o a w K Q else E := by
  have hw : Region.wanted o (yielded ops a.tmps) = true := by simp [Region.wanted, hgd]
  rw [if_pos hw]
  obtain ⟨v', w', hr, h2, h3, h5⟩ := app_run hown hsrc hb hbase o.type
  unfold Oper.wp execOp
  simp only [ho, resolve, invoke, builtin, Sem.run_bind, Sem.run_pure, Result.andThen_ok, List.map_toArray, List.map_cons, List.map_nil, hs, hx, hr]
  exact h v' w' h2 h3 h5
/-- At the list of a plain region's operations. -/
theorem list_app {w : World} {ops : Array Oper} {rest : List Oper} {o : Oper} {a : Act} {Q : Exit → Act → World → Prop} (hgd : o.guard = none) (s x : Operand)
    (ho : o.op = .call { callee := .builtin .append, args := #[s, x], argTypes := #[28, 28] })
    (base : Nat) (v xv : Value) (M N : List Sl) (hs : a.eval s = v) (hx : a.eval x = xv) (hown : SRow base w v M) (hsrc : Src w xv N) (hb : M.length + N.length ≤ 1048576) (hbase : base ≤ w.heap.size)
    (h : ∀ v' w', SRow base w' v' (M ++ N) → w.grownBy w' v.ownBlock → (v'.ownBlock = v.ownBlock ∨ v'.ownBlock = some w.heap.size) → wpList Try.prog ops Q rest (a.put o.dst v') w') : wpList Try.prog ops Q (o :: rest) a w :=
  wpList_plain hgd fun _ hK => by
    obtain ⟨v', w', hr, h2, h3, h5⟩ := app_run hown hsrc hb hbase o.type
    unfold Oper.wp execOp
    simp only [ho, resolve, invoke, builtin, Sem.run_bind, Sem.run_pure, Result.andThen_ok, List.map_toArray, List.map_cons, List.map_nil, hs, hx, hr]
    exact hK _ _ (h v' w' h2 h3 h5)
/-- The first slots, and the last ones, of the table's row. -/
theorem rows_seg {L : List Sl} (k m : Nat) (hk : k + m ≤ L.length) (j : Nat) (u : Value) (h : (rows ((L.drop k).take m))[j]? = some u) : (rows L)[k * 9 + j]? = some u := by
  have e : L = L.take k ++ ((L.drop k).take m ++ (L.drop k).drop m) := by rw [List.take_append_drop, List.take_append_drop]
  have hj : j < (rows ((L.drop k).take m)).length := (List.getElem?_eq_some_iff.1 h).1
  have hl : (rows (L.take k)).length = k * 9 := by rw [rows_len, List.length_take, Nat.min_eq_left (by omega)]
  rw [e, rows_app, rows_app, List.getElem?_append_right (by omega), hl, Nat.add_sub_cancel_left, List.getElem?_append_left hj]
  exact h
theorem RT.src {base : Nat} {w : World} {t g : Nat} {cap : Nat} {L : List Sl} (h : RT base w t (some ⟨g, 0, none⟩) cap L) (k m c : Nat) (hk : k + m ≤ L.length) : Src w (.slice (some ⟨g, k * 9, none⟩) m c) ((L.drop k).take m) := by
  refine .inr ⟨_, c, by rw [List.length_take, List.length_drop, Nat.min_eq_left (by omega)], fun j u hu => ?_⟩
  have hj := (List.getElem?_eq_some_iff.1 hu).1
  rw [rows_len, List.length_take, List.length_drop, Nat.min_eq_left (by omega)] at hj
  rw [Addr.add_mid, World.ownsRow.cellAt h.own (k * 9 + j) (by omega)]
  exact rows_seg k m hk j u hu
theorem RT.cap {base : Nat} {w : World} {t g : Nat} {cap : Nat} {L : List Sl} (h : RT base w t (some ⟨g, 0, none⟩) cap L) : L.length ≤ cap ∧ cap ≤ 9223372036854775807 := by
  rcases h.own.2 with ⟨e, _⟩ | ⟨g', c, cur, e, _, _, h1, h2, _⟩
  · cases e
  · cases e; exact ⟨h1, by unfold maxLen at h2; omega⟩
/-- A slice of places to be read from. -/
def PSrc (w : World) (x : Value) (ps : List (Int × Int)) : Prop := (x = .slice none 0 0 ∧ ps = []) ∨ ∃ ad c, x = .slice (some ad) ps.length c ∧ ∀ j u, (prow ps)[j]? = some u → w.cell? (ad.add j) = some u
theorem prow_one (ps : List (Int × Int)) : ∀ v ∈ prow ps, v.oneCell' = true := by
  intro v hv
  unfold prow at hv
  obtain ⟨x, _, hx⟩ := List.mem_flatMap.1 hv
  simp only [List.mem_cons, List.not_mem_nil, or_false] at hx
  rcases hx with rfl | rfl <;> rfl
end Go.Proofs.Ythjhpcbhkcmghaa
