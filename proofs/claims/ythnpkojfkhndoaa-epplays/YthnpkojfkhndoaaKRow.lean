/- Rows of things, whatever their cells: a slice of them in memory newer than a base; one read, one cell written, some appended. -/
import Derived.Test.YthnpkojfkhndoaaRows
import Derived.Test.YthnpkojfkhndoaaKBase
import Derived.Maps.AppendAt
import Derived.Laws.OwnMore
import Derived.Deep.AppendLies
namespace Go.Proofs.Ythnpkojfkhndoaa.Gr
open Go.RowKit
set_option linter.unusedVariables false
/-- How a thing stands in cells: so many, each of one cell. -/
structure Enc (α : Type) (T : TypeId) (sz : Nat) where
  vals : α → List Value
  len : ∀ x, (vals x).length = sz
  one : ∀ x, ∀ v ∈ vals x, v.oneCell' = true
variable {α : Type} {T : TypeId} {sz : Nat} {E : Enc α T sz}
def rows (E : Enc α T sz) (L : List α) : List Value := L.flatMap E.vals
theorem rows_len (L : List α) : (rows E L).length = L.length * sz := by
  induction L with
  | nil => simp [rows]
  | cons x L ih => unfold rows at *; rw [List.flatMap_cons, List.length_append, ih, E.len, List.length_cons, Nat.add_mul]; omega
theorem rows_app (L M : List α) : rows E (L ++ M) = rows E L ++ rows E M := by unfold rows; rw [List.flatMap_append]
theorem rows_get {L : List α} {i j : Nat} {x : α} (hi : L[i]? = some x) (hj : j < sz) : (rows E L)[i * sz + j]? = (E.vals x)[j]? := by
  induction L generalizing i with
  | nil => cases hi
  | cons y L ih =>
    have e : rows E (y :: L) = E.vals y ++ rows E L := by unfold rows; rw [List.flatMap_cons]
    rw [e]
    cases i with
    | zero =>
      cases hi
      rw [Nat.zero_mul, Nat.zero_add, List.getElem?_append_left (by rw [E.len]; exact hj)]
    | succ i =>
      have e2 : (i + 1) * sz + j = (E.vals y).length + (i * sz + j) := by rw [E.len, Nat.add_mul]; omega
      rw [e2, List.getElem?_append_right (by omega), Nat.add_sub_cancel_left]
      exact ih (by simpa using hi)
theorem rows_one (L : List α) : ∀ v ∈ rows E L, v.oneCell' = true := by
  intro v hv
  unfold rows at hv
  obtain ⟨x, _, hx⟩ := List.mem_flatMap.1 hv
  exact E.one x v hx
theorem rows_set {L : List α} {i j : Nat} {x y : α} {u : Value} (hi : L[i]? = some x) (hj : j < sz) (hy : E.vals y = (E.vals x).set j u) : (rows E L).set (i * sz + j) u = rows E (L.set i y) := by
  induction L generalizing i with
  | nil => cases hi
  | cons z L ih =>
    have e : ∀ q : α, rows E (q :: L) = E.vals q ++ rows E L := fun q => by unfold rows; rw [List.flatMap_cons]
    cases i with
    | zero =>
      cases hi
      rw [List.set_cons_zero, e, e, Nat.zero_mul, Nat.zero_add, List.set_append_left _ _ (by rw [E.len]; exact hj), hy]
    | succ i =>
      have e2 : (i + 1) * sz + j = (E.vals z).length + (i * sz + j) := by rw [E.len, Nat.add_mul]; omega
      have e3 : rows E (z :: L.set i y) = E.vals z ++ rows E (L.set i y) := by unfold rows; rw [List.flatMap_cons]
      rw [List.set_cons_succ, e, e3, e2, List.set_append_right _ _ (by omega), Nat.add_sub_cancel_left, ih (by simpa using hi)]
/-- The slice v has these, in memory newer than base. -/
def Rw (E : Enc α T sz) (base : Nat) (w : World) (v : Value) (L : List α) : Prop := w.ownsRow base T sz v L.length (rows E L)
theorem Rw.nil (base : Nat) (w : World) : Rw E base w (.slice none 0 0) [] := ⟨by simp [rows], .inl ⟨rfl, rfl⟩⟩
theorem Rw.form {base : Nat} {w : World} {v : Value} {L : List α} (h : Rw E base w v L) : ∃ a c, v = .slice a L.length c := by
  rcases h.2 with ⟨e, hz⟩ | ⟨g, c, cur, e, _⟩
  · exact ⟨none, 0, by rw [e, hz]⟩
  · exact ⟨_, c, e⟩
theorem Rw.kept {base : Nat} {w w' : World} {v : Value} {L : List α} {S : List Nat} (h : Rw E base w v L) (k : Kp S w w') (hn : ∀ g, v.ownBlock = some g → g ∉ S) : Rw E base w' v L := by
  refine ⟨h.1, ?_⟩
  rcases h.2 with hz | ⟨g, c, cur, e, hb, hg, rest⟩
  · exact .inl hz
  · exact .inr ⟨g, c, cur, e, hb, (k.block g (Array.getElem?_eq_some_iff.1 hg).1 (hn g (by rw [e]; rfl))).trans hg, rest⟩
theorem Rw.grew {base : Nat} {w w' : World} {v : Value} {L : List α} (h : Rw E base w v L) (k : Kp [] w w') : Rw E base w' v L := h.kept k (by simp)
theorem Rw.mono {base base' : Nat} {w : World} {v : Value} {L : List α} (h : Rw E base w v L) (hb : base' ≤ base) : Rw E base' w v L := by
  refine ⟨h.1, ?_⟩
  rcases h.2 with hz | ⟨g, c, cur, e, hg, rest⟩
  · exact .inl hz
  · exact .inr ⟨g, c, cur, e, Nat.le_trans hb hg, rest⟩
theorem Rw.addr {base : Nat} {w : World} {v : Value} {L : List α} (h : Rw E base w v L) : (v = .slice none 0 0 ∧ L = []) ∨ ∃ g cap, v = .slice (some ⟨g, 0, none⟩) L.length cap ∧ base ≤ g ∧ g < w.heap.size ∧ L.length ≤ cap ∧ cap ≤ maxLen := by
  rcases h.2 with ⟨e, hz⟩ | ⟨g, c, cur, e, hb, hg, h1, h2, _⟩
  · exact .inl ⟨e, List.length_eq_zero_iff.1 hz⟩
  · exact .inr ⟨g, c, e, hb, (Array.getElem?_eq_some_iff.1 hg).1, h1, h2⟩
/-- What the row's own block is. -/
theorem Rw.block {base : Nat} {w : World} {v : Value} {L : List α} (h : Rw E base w v L) {g : Nat} (hg : v.ownBlock = some g) : base ≤ g ∧ ∃ c, w.heap[g]? = some (.cells c T (0, 0)) := by
  rcases h.2 with ⟨e, hz⟩ | ⟨g', c, cur, e, hb, hh, _⟩
  · rw [e] at hg; cases hg
  · rw [e] at hg
    cases hg
    exact ⟨hb, cur, hh⟩
theorem Rw.cell {base : Nat} {w : World} {g n cap : Nat} {L : List α} (h : Rw E base w (.slice (some ⟨g, 0, none⟩) n cap) L) {i j : Nat} {x : α} {u : Value} (hx : L[i]? = some x) (hu : (E.vals x)[j]? = some u) : w.cell? ⟨g, i * sz + j, none⟩ = some u := by
  have hi : i < L.length := (List.getElem?_eq_some_iff.1 hx).1
  have hj : j < sz := by rw [← E.len x]; exact (List.getElem?_eq_some_iff.1 hu).1
  obtain ⟨a, c, e⟩ := Rw.form h
  cases e
  have hlt : i * sz + j < L.length * sz := by
    have : (i + 1) * sz ≤ L.length * sz := Nat.mul_le_mul_right _ hi
    rw [Nat.add_mul] at this
    omega
  rw [World.ownsRow.cellAt h (i * sz + j) hlt, rows_get hx hj, hu]
theorem Rw.frozen {base : Nat} {w : World} {g n cap : Nat} {L : List α} (h : Rw E base w (.slice (some ⟨g, 0, none⟩) n cap) L) (i : Nat) : w.frozen? ⟨g, i, none⟩ = false := by
  obtain ⟨a, c, e⟩ := Rw.form h
  cases e
  exact World.ownsRow.frozenAt h i
theorem kp_gb {w w' : World} {row : Option Nat} (hg : w.grownBy w' row) : Kp row.toList w w' := ⟨hg.os, hg.tape, hg.output, hg.size, fun k hk hn => hg.block k hk fun e => hn (by rw [← e]; simp)⟩
/-- One cell of one of them written. -/
theorem Rw.store {base : Nat} {w : World} {g n cap : Nat} {L : List α} (h : Rw E base w (.slice (some ⟨g, 0, none⟩) n cap) L) {i j : Nat} {x y : α} {u : Value} (hx : L[i]? = some x) (hj : j < sz) (hy : E.vals y = (E.vals x).set j u) :
    Rw E base (w.setCell ⟨g, i * sz + j, none⟩ u) (.slice (some ⟨g, 0, none⟩) n cap) (L.set i y) ∧ Kp [g] w (w.setCell ⟨g, i * sz + j, none⟩ u) := by
  obtain ⟨a, c, e⟩ := Rw.form h
  cases e
  obtain ⟨h1, h2⟩ := World.ownsRow.stored h (i * sz + j) u
  refine ⟨?_, kp_gb h2⟩
  unfold Rw
  rw [List.length_set, ← rows_set hx hj hy]
  exact h1
/-- A slice of them to be read from. -/
def Src (E : Enc α T sz) (w : World) (x : Value) (N : List α) : Prop := (x = .slice none 0 0 ∧ N = []) ∨ ∃ ad c, x = .slice (some ad) N.length c ∧ ∀ j u, (rows E N)[j]? = some u → w.cell? (ad.add j) = some u
theorem Rw.src {base : Nat} {w : World} {v : Value} {L : List α} (h : Rw E base w v L) : Src E w v L := by
  rcases h.addr with ⟨e, e2⟩ | ⟨g, cap, e, _⟩
  · exact .inl ⟨e, e2⟩
  · subst e
    refine .inr ⟨_, cap, rfl, fun j u hu => ?_⟩
    have hj := (List.getElem?_eq_some_iff.1 hu).1
    rw [rows_len] at hj
    rw [Addr.add_mid, Nat.zero_add, World.ownsRow.cellAt h j hj]
    exact hu
/-- One alone, in a block of its own. -/
theorem src_one {w : World} {g : Nat} {x : α} {c : Nat} {vs : List Value} (b : Bk w g T vs) (e : E.vals x = vs) : Src E w (.slice (some ⟨g, 0, none⟩) 1 c) [x] := by
  refine .inr ⟨_, c, rfl, fun j u hu => ?_⟩
  have e1 : rows E [x] = vs := by unfold rows; simp [e]
  rw [e1] at hu
  rw [Addr.add_mid, Nat.zero_add]
  exact b.cell hu
theorem app_run {S : TypeId} (hS : Try.prog.underlying S = some (.slice T)) {z : Value} {by8 : Nat} (hin : (Try.prog.info? T).map (fun i => (i.zero, i.size, i.bytes)) = some (some z, sz, by8)) (hz : z.cells.size = sz) (hsz : 0 < sz) {w : World} {base : Nat} {v x : Value} {L N : List α} (hown : Rw E base w v L) (hsrc : Src E w x N) (hb : L.length + N.length ≤ 1048576) (hb8 : by8 ≤ 4096) (hbase : base ≤ w.heap.size) (ty : TypeId) :
    ∃ v' w', (Builtin.append_ #[S, S] ty #[v, x]).run Try.prog w = .ok v' w' ∧ Rw E base w' v' (L ++ N) ∧ w.grownBy w' v.ownBlock ∧ (v'.ownBlock = v.ownBlock ∨ v'.ownBlock = some w.heap.size) := by
  obtain ⟨i0, hi, hinf⟩ := Option.map_eq_some_iff.1 hin
  simp only [Prod.mk.injEq] at hinf
  obtain ⟨hz0, hz1, hz2⟩ := hinf
  rcases hsrc with ⟨rfl, rfl⟩ | ⟨ad, c, rfl, hc⟩
  · refine ⟨v, w, run_append_owned_none w base _ ty _ i0 sz hS hi v L.length (rows E L) hown, ?_, ⟨rfl, rfl, rfl, Nat.le_refl _, fun _ _ _ => rfl⟩, .inl rfl⟩
    rw [List.append_nil]
    exact hown
  · have hb9 : (L.length + N.length) * by8 ≤ 1048576 * 4096 := Nat.mul_le_mul hb hb8
    obtain ⟨v', w', hr, h2, h3, _, h5⟩ := run_append_own_at (P := Try.prog) w base S ty T i0 _ sz by8 hS hi hz0 hz1 hz2 hz hsz v L.length (rows E L) hown ad N.length c (rows E N) (rows_len N) hc (rows_one N) (by unfold maxLen; omega) (by omega) hbase
    refine ⟨v', w', hr, ?_, h3, h5⟩
    unfold Rw
    rw [rows_app, List.length_append]
    exact h2
/-- At the list of a plain region's operations. -/
theorem list_app {S : TypeId} (hS : Try.prog.underlying S = some (.slice T)) {z : Value} {by8 : Nat} (hin : (Try.prog.info? T).map (fun i => (i.zero, i.size, i.bytes)) = some (some z, sz, by8)) (hz : z.cells.size = sz) (hsz : 0 < sz) (hb8 : by8 ≤ 4096)
    {w : World} {ops : Array Oper} {rest : List Oper} {o : Oper} {a : Act} {Q : Exit → Act → World → Prop} (hgd : o.guard = none) (s x : Operand)
    (ho : o.op = .call { callee := .builtin .append, args := #[s, x], argTypes := #[S, S] })
    (base : Nat) (v xv : Value) (L N : List α) (hs : a.eval s = v) (hx : a.eval x = xv) (hown : Rw E base w v L) (hsrc : Src E w xv N) (hb : L.length + N.length ≤ 1048576) (hbase : base ≤ w.heap.size)
    (h : ∀ v' w', Rw E base w' v' (L ++ N) → w.grownBy w' v.ownBlock → (v'.ownBlock = v.ownBlock ∨ v'.ownBlock = some w.heap.size) → wpList Try.prog ops Q rest (a.put o.dst v') w') : wpList Try.prog ops Q (o :: rest) a w :=
  wpList_plain hgd fun _ hK => by
    obtain ⟨v', w', hr, h2, h3, h5⟩ := app_run hS hin hz hsz hown hsrc hb hb8 hbase o.type
    unfold Oper.wp execOp
    simp only [ho, resolve, invoke, builtin, Sem.run_bind, Sem.run_pure, Result.andThen_ok, List.map_toArray, List.map_cons, List.map_nil, hs, hx, hr]
    exact hK _ _ (h v' w' h2 h3 h5)
/-- At a step of a region that draws. -/
theorem step_app {S : TypeId} (hS : Try.prog.underlying S = some (.slice T)) {z : Value} {by8 : Nat} (hin : (Try.prog.info? T).map (fun i => (i.zero, i.size, i.bytes)) = some (some z, sz, by8)) (hz : z.cells.size = sz) (hsz : 0 < sz) (hb8 : by8 ≤ 4096)
    {w : World} {ops : Array Oper} {o : Oper} {a : Act} {K : Act → World → Prop} {Q : Exit → Act → World → Prop} {X : Prop} (hgd : o.guard = none) (s x : Operand)
    (ho : o.op = .call { callee := .builtin .append, args := #[s, x], argTypes := #[S, S] })
    (base : Nat) (v xv : Value) (L N : List α) (hs : a.eval s = v) (hx : a.eval x = xv) (hown : Rw E base w v L) (hsrc : Src E w xv N) (hb : L.length + N.length ≤ 1048576) (hbase : base ≤ w.heap.size)
    (h : ∀ v' w', Rw E base w' v' (L ++ N) → w.grownBy w' v.ownBlock → (v'.ownBlock = v.ownBlock ∨ v'.ownBlock = some w.heap.size) → K (a.put o.dst v') w') :
    if Region.wanted o (yielded ops a.tmps) = true then Oper.wp Try.prog o a w K Q else X := by
  have hw : Region.wanted o (yielded ops a.tmps) = true := by simp [Region.wanted, hgd]
  rw [if_pos hw]
  obtain ⟨v', w', hr, h2, h3, h5⟩ := app_run hS hin hz hsz hown hsrc hb hb8 hbase o.type
  unfold Oper.wp execOp
  simp only [ho, resolve, invoke, builtin, Sem.run_bind, Sem.run_pure, Result.andThen_ok, List.map_toArray, List.map_cons, List.map_nil, hs, hx, hr]
  exact h v' w' h2 h3 h5
end Go.Proofs.Ythnpkojfkhndoaa.Gr
