/- The program's table: Move. -/
import Derived.Test.YthjhpcbhkcmghaaKSlots6
namespace Go.Proofs.Ythjhpcbhkcmghaa
open Go.RowKit
set_option linter.unusedVariables false
theorem two_box (w : World) (n s n' s' : Int) : Bk ((w.alloc (.cells #[.int .i64 n, .int .i64 s] 40)).alloc (.cells #[.int .i64 n', .int .i64 s'] 40)) w.heap.size 40 [.int .i64 n, .int .i64 s] ∧ Bk ((w.alloc (.cells #[.int .i64 n, .int .i64 s] 40)).alloc (.cells #[.int .i64 n', .int .i64 s'] 40)) (w.heap.size + 1) 40 [.int .i64 n', .int .i64 s'] ∧ Kp [] w ((w.alloc (.cells #[.int .i64 n, .int .i64 s] 40)).alloc (.cells #[.int .i64 n', .int .i64 s'] 40)) ∧ ((w.alloc (.cells #[.int .i64 n, .int .i64 s] 40)).alloc (.cells #[.int .i64 n', .int .i64 s'] 40)).heap.size = w.heap.size + 2 :=
  ⟨(Bk.new w _ [.int .i64 n, .int .i64 s]).alloc _, Bk.next (p := w.heap.size + 1) _ _ [.int .i64 n', .int .i64 s'] (by simp), ((Kp.refl [] w).alloc _).alloc _, by simp⟩
theorem move_map {L : List Sl} (hn : (L.map ppl).Nodup) {n s n' s' : Int} {i : Nat} {x : Sl} (ha : atL L n s = some i) (hx : L[i]? = some x) (hself : ¬ (x.u = n ∧ x.v = s)) :
    (without (n, s) ((L.map (reF n s n' s')).map slKV) ++ [((n', s'), holdV x)]).Perm ((moveL L n s n' s' i x).map slKV) := by
  rw [without_map (reF_key n s n' s')]
  unfold moveL
  obtain ⟨y, hy, e1, e2⟩ := atL_some ha
  rw [hx] at hy
  cases hy
  have hp : ppl x = (n, s) := by unfold ppl; rw [e1, e2]
  rw [← hp, ← erase_key hn hx]
  have h1 := ((ins_perm (L.eraseIdx i) { x with n := n', s := s' }).map (reF n s n' s')).map slKV
  refine List.Perm.trans ?_ h1.symm
  rw [List.map_append, List.map_append]
  have e3 : reF n s n' s' { x with n := n', s := s' } = { x with n := n', s := s' } := by unfold reF; exact if_neg hself
  rw [List.map_cons, e3]
  exact List.Perm.refl _
theorem move_rises {L : List Sl} (h : Rises (L.map ppl)) {n s n' s' : Int} {i : Nat} {x : Sl} (hn' : atL L n' s' = none) : Rises ((moveL L n s n' s' i x).map ppl) := by
  unfold moveL
  have e : ((insL (L.eraseIdx i) { x with n := n', s := s' }).map (reF n s n' s')).map ppl = (insL (L.eraseIdx i) { x with n := n', s := s' }).map ppl := by rw [List.map_map]; exact List.map_congr_left fun y _ => reF_key n s n' s' y
  rw [e]
  refine ins_rises ?_ ?_
  · unfold Rises at *
    exact List.Pairwise.sublist ((List.eraseIdx_sublist L i).map _) h
  · exact at_none_iff.2 fun y hy => at_none_iff.1 hn' y ((List.eraseIdx_sublist L i).subset hy)
theorem move_len {L : List Sl} {n s n' s' : Int} {i : Nat} {x : Sl} (hx : L[i]? = some x) : (moveL L n s n' s' i x).length = L.length := by
  unfold moveL
  have hi := (List.getElem?_eq_some_iff.1 hx).1
  rw [List.length_map, ins_len, List.length_eraseIdx]
  rw [if_pos hi]
  omega
theorem move_ok {L : List Sl} (h : ∀ x ∈ L, placeOk x.n x.s = true) {n s n' s' : Int} {i : Nat} {x : Sl} (hp : placeOk n' s' = true) : ∀ y ∈ moveL L n s n' s' i x, placeOk y.n y.s = true := by
  intro y hy
  unfold moveL at hy
  obtain ⟨y0, hy0, rfl⟩ := List.mem_map.1 hy
  have e := reF_key n s n' s' y0
  have e1 : (reF n s n' s' y0).n = y0.n := congrArg Prod.fst e
  have e2 : (reF n s n' s' y0).s = y0.s := congrArg Prod.snd e
  rw [e1, e2]
  rcases List.mem_append.1 ((ins_perm _ _).mem_iff.1 hy0) with q | q
  · exact h y0 ((List.eraseIdx_sublist L i).subset q)
  · simp at q
    rw [q]
    exact hp
end Go.Proofs.Ythjhpcbhkcmghaa
