/- The sort of places: cmp.Or, the closure, sortPlaces. -/
import Derived.Test.YtjjgjgncnifjmaaKTab3
import Derived.Test.YtjjgjgncnifjmaaKShelf
import Derived.Shelf.SlSortCmp.NoneTotal
namespace Go.Proofs.Ytjjgjgncnifjmaa
open Go.RowKit
set_option linter.unusedVariables false
def orI (a b : Int) : Int := if a = 0 then b else a
theorem compare_to (x y r : Int) (W : World) (h : Lib.compareInt x y = r) :
    Calls Try.prog 52 #[.int .i64 x, .int .i64 y] W fun e w' => e = .returned (.int .i64 r) ∧ w' = W := by
  rw [← h]
  exact AnyG.cmp_Compare_int Try.shCmp x y W
set_option maxHeartbeats 1000000 in
theorem or_calls (a b : Int) (g : Nat) (w : World) (c0 : w.cell? ⟨g, 0, none⟩ = some (.int .i64 a)) (c1 : w.cell? ⟨g, 1, none⟩ = some (.int .i64 b)) :
    Calls Try.prog 51 #[.slice (some ⟨g, 0, none⟩) 2 2] w fun e w' => e = .returned (.int .i64 (orI a b)) ∧ w' = w := by
  go_enter Try.func51, Try.ntmps51
  go_wp2_with fail
  go_loopg [8] 2 (fun m i wx => ∃ j : Nat, j ≤ 2 ∧ m = 2 - j ∧ i = .int .i64 j ∧ (1 ≤ j → a = 0) ∧ (2 ≤ j → b = 0) ∧ wx = w)
  case atStart => exact ⟨0, by omega, rfl, rfl, by omega, by omega, rfl⟩
  case round =>
    obtain ⟨j, hj, rfl, rfl, h1, h2, rfl⟩ := hrel
    match j, hj with
    | 0, _ =>
      clear h1 h2
      by_cases e : a = 0
      · subst e
        go_wp2
        go_roundg 1
        case measure => omega
        case rel => exact ⟨1, by omega, rfl, by go_num, by simp, by omega, rfl⟩
      · have e' : (a == 0) = false := beq_eq_false_iff_ne.2 e
        go_wp2
        go_ret
        exact ⟨ret_int (by unfold orI; rw [if_neg e]), rfl⟩
    | 1, _ =>
      have e := h1 (by omega)
      subst e
      clear h1 h2
      by_cases e : b = 0
      · subst e
        go_wp2
        go_roundg 0
        case measure => omega
        case rel => exact ⟨2, by omega, rfl, by go_num, by simp, by simp, rfl⟩
      · have e' : (b == 0) = false := beq_eq_false_iff_ne.2 e
        go_wp2
        go_ret
        exact ⟨ret_int (by unfold orI; rw [if_pos rfl]), rfl⟩
    | 2, _ =>
      have e := h1 (by omega)
      have e2 := h2 (by omega)
      subst e
      subst e2
      clear h1 h2
      go_wp2
      go_ret
      exact ⟨ret_int (by unfold orI; rw [if_pos rfl]), rfl⟩
/-- Some draws on, some blocks more. -/
def Gr (w w' : World) : Prop := ∃ q os, w' = Sort.grow (w.drewN q) os
theorem Gr.refl (w : World) : Gr w w := ⟨0, #[], by rw [Sort.grow_empty]; rfl⟩
theorem Gr.drew {w w' : World} (h : Gr w w') : Gr w w'.drew := by
  obtain ⟨q, os, rfl⟩ := h
  exact ⟨q + 1, os, rfl⟩
theorem Gr.alloc {w w' : World} (h : Gr w w') (o : Obj) : Gr w (w'.alloc o) := by
  obtain ⟨q, os, rfl⟩ := h
  exact ⟨q, os ++ #[o], by rw [Sort.alloc_eq_grow, Sort.grow_grow]⟩
def cfP (x y : Int × Int) : Int := orI (Lib.compareInt x.1 y.1) (Lib.compareInt x.2 y.2)
set_option maxHeartbeats 2000000 in
theorem cmpP_calls (x y : Int × Int) (W : World) :
    Calls Try.prog 50 #[.agg #[.int .i64 x.1, .int .i64 x.2], .agg #[.int .i64 y.1, .int .i64 y.2]] W fun e w' => e = .returned (.int .i64 (cfP x y)) ∧ Gr W w' := by
  obtain ⟨r0, h0⟩ : ∃ r, Lib.compareInt x.1 y.1 = r := ⟨_, rfl⟩
  obtain ⟨r1, h1⟩ : ∃ r, Lib.compareInt x.2 y.2 = r := ⟨_, rfl⟩
  have HR := hide (show cfP x y = orI r0 r1 from by unfold cfP; rw [h0, h1])
  obtain ⟨x0, x1⟩ := x
  obtain ⟨y0, y1⟩ := y
  simp only at h0 h1 ⊢
  replace h0 := hide h0
  replace h1 := hide h1
  have b0 := Bk.new W 40 [.int .i64 x0, .int .i64 x1]
  have b1 := Bk.next (p := W.heap.size + 1) (W.alloc (.cells #[.int .i64 x0, .int .i64 x1] 40)) 40 [.int .i64 y0, .int .i64 y1] (by simp)
  have G0 := hide (((Gr.refl W).alloc (.cells #[.int .i64 x0, .int .i64 x1] 40)).alloc (.cells #[.int .i64 y0, .int .i64 y1] 40))
  replace b0 := b0.alloc (.cells #[.int .i64 y0, .int .i64 y1] 40)
  have hsz : ((W.alloc (.cells #[.int .i64 x0, .int .i64 x1] 40)).alloc (.cells #[.int .i64 y0, .int .i64 y1] 40)).heap.size = W.heap.size + 2 := by simp
  replace b0 := hide b0
  replace b1 := hide b1
  go_enter Try.func50, Try.ntmps50
  go_wp2_with fail
  generalize (W.alloc (.cells #[.int .i64 x0, .int .i64 x1] 40)).alloc (.cells #[.int .i64 y0, .int .i64 y1] 40) = w2 at *
  have BN := Bk.next (p := W.heap.size + 2) w2 3 [.int .i64 r0, .int .i64 r1] hsz
  have E0 : Hid (((w2.alloc (.cells #[.int .i64 r0, .int .i64 r1] 3)).drew).cell? ⟨W.heap.size + 2, 0, none⟩ = some (.int .i64 r0)) := hide (BN.cell (i := 0) rfl)
  have E1 : Hid (((w2.alloc (.cells #[.int .i64 r0, .int .i64 r1] 3)).drew).cell? ⟨W.heap.size + 2, 1, none⟩ = some (.int .i64 r1)) := hide (BN.cell (i := 1) rfl)
  clear BN
  have c0 := (unhide b0).cell (i := 0) rfl
  have c1 := (unhide b0).cell (i := 1) rfl
  have d0 := (unhide b1).cell (i := 0) rfl
  have d1 := (unhide b1).cell (i := 1) rfl
  go_region_held3 (fun w' => w'.cell? ⟨W.heap.size, 0, none⟩ = some (.int .i64 x0) ∧ w'.cell? ⟨W.heap.size, 1, none⟩ = some (.int .i64 x1) ∧ w'.cell? ⟨W.heap.size + 1, 0, none⟩ = some (.int .i64 y0) ∧ w'.cell? ⟨W.heap.size + 1, 1, none⟩ = some (.int .i64 y1)) (go_keep) (first
    | (go_at_call 51; (with_reducible refine (or_calls r0 r1 (W.heap.size + 2) ((w2.alloc (.cells #[.int .i64 r0, .int .i64 r1] 3)).drew) (unhide E0) (unhide E1)).mono ?_); rintro e V1 ⟨rfl, rfl⟩)
    | (go_at_call 52; (with_reducible refine (compare_to x0 y0 r0 _ (unhide h0)).mono ?_); rintro e V1 ⟨rfl, rfl⟩)
    | (go_at_call 52; (with_reducible refine (compare_to x1 y1 r1 _ (unhide h1)).mono ?_); rintro e V1 ⟨rfl, rfl⟩))
  all_goals
    go_wp2
    go_ret
    exact ⟨ret_int (unhide HR).symm, ((unhide G0).alloc _).drew⟩
end Go.Proofs.Ytjjgjgncnifjmaa
