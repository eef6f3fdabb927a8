/- The document's table: Drop. -/
import Derived.Test.YtgpclbkekobaoaaKTab5
namespace Go.Proofs.Ytgpclbkekobaoaa
open Go.RowKit
set_option linter.unusedVariables false
/-- Another parent. -/
def Sl.up (x : Sl) (u v : Int) : Sl := { x with u := u, v := v }
theorem rows_up (L : List Sl) (i : Nat) (x : Sl) (u v : Int) (hx : L[i]? = some x) : ((rows L).set (i * 9 + 2) (.int .i64 u)).set (i * 9 + 3) (.int .i64 v) = rows (L.set i (x.up u v)) := by
  induction L generalizing i with
  | nil => cases hx
  | cons y L ih =>
    have e : ∀ (z : Sl) (M : List Sl), rows (z :: M) = z.vals ++ rows M := fun z M => by unfold rows; rw [List.flatMap_cons]
    cases i with
    | zero => cases hx; rw [List.set_cons_zero, e, e]; rfl
    | succ i =>
      rw [List.set_cons_succ, e, e, ← ih i (by simpa using hx)]
      have hl : y.vals.length = 9 := rfl
      rw [List.set_append_right _ _ (by rw [hl]; omega), List.set_append_right _ _ (by rw [hl]; omega), hl, show (i + 1) * 9 + 2 - 9 = i * 9 + 2 by omega, show (i + 1) * 9 + 3 - 9 = i * 9 + 3 by omega]
theorem RT.stored {base : Nat} {w : World} {t g : Nat} {cap : Nat} {L : List Sl} (h : RT base w t (some ⟨g, 0, none⟩) cap L) {i : Nat} {x : Sl} (hx : L[i]? = some x) (u v : Int) :
    RT base ((w.setCell ⟨g, i * 9 + 2, none⟩ (.int .i64 u)).setCell ⟨g, i * 9 + 3, none⟩ (.int .i64 v)) t (some ⟨g, 0, none⟩) cap (L.set i (x.up u v)) := by
  have h1 := (World.ownsRow.stored h.own (i * 9 + 2) (.int .i64 u)).1
  have h2 := (World.ownsRow.stored h1 (i * 9 + 3) (.int .i64 v)).1
  rw [rows_up L i x u v hx] at h2
  have hg := h.apart g rfl
  refine ⟨?_, ?_, h.new, h.apart, by rw [List.length_set]; exact h.small⟩
  · rw [List.length_set]
    exact (h.head.setOther (by exact hg) _).setOther (by exact hg) _
  · rw [List.length_set]
    exact h2
def reF (n s u v : Int) (x : Sl) : Sl := if x.u = n ∧ x.v = s then x.up u v else x
/-- The first j of them have their new parents. -/
def fixL (L : List Sl) (n s u v : Int) (j : Nat) : List Sl := (L.take j).map (reF n s u v) ++ L.drop j
theorem fixL_len (L : List Sl) (n s u v : Int) (j : Nat) (hj : j ≤ L.length) : (fixL L n s u v j).length = L.length := by unfold fixL; rw [List.length_append, List.length_map, List.length_take, List.length_drop]; omega
theorem fixL_at {L : List Sl} {n s u v : Int} {j : Nat} (hj : j < L.length) : (fixL L n s u v j)[j]? = some L[j] := by
  unfold fixL
  rw [List.getElem?_append_right (by rw [List.length_map, List.length_take]; omega), List.length_map, List.length_take, Nat.min_eq_left (by omega), Nat.sub_self, List.getElem?_drop, Nat.add_zero, List.getElem?_eq_getElem hj]
theorem fixL_step {L : List Sl} {n s u v : Int} {j : Nat} (hj : j < L.length) : fixL L n s u v (j + 1) = (fixL L n s u v j).set j (reF n s u v L[j]) := by
  unfold fixL
  have hl : ((L.take j).map (reF n s u v)).length = j := by rw [List.length_map, List.length_take]; omega
  rw [List.set_append_right _ _ (by omega), hl, Nat.sub_self, List.take_succ_eq_append_getElem hj, List.map_append, List.append_assoc]
  congr 1
  rw [List.drop_eq_getElem_cons hj]
  rfl
theorem fixL_same {L : List Sl} {n s u v : Int} {j : Nat} (hj : j < L.length) (hn : ¬ (L[j].u = n ∧ L[j].v = s)) : fixL L n s u v (j + 1) = fixL L n s u v j := by
  rw [fixL_step hj]
  have e : reF n s u v L[j] = L[j] := by unfold reF; rw [if_neg hn]
  rw [e]
  have h := fixL_at (n := n) (s := s) (u := u) (v := v) hj
  refine List.ext_getElem? fun k => ?_
  rw [List.getElem?_set]
  split
  · rename_i e2
    subst e2
    rw [if_pos (List.getElem?_eq_some_iff.1 h).1, h]
  · rfl
theorem fixL_all (L : List Sl) (n s u v : Int) : fixL L n s u v L.length = L.map (reF n s u v) := by unfold fixL; simp
def dropL (L : List Sl) (n s : Int) (i : Nat) (x : Sl) : List Sl := (L.eraseIdx i).map (reF n s x.u x.v)
theorem erase_is (L : List Sl) (i : Nat) : L.take i ++ L.drop (i + 1) = L.eraseIdx i := (List.eraseIdx_eq_take_drop_succ L i).symm
theorem RT.put2 {base base' : Nat} {w : World} {t : Nat} {v y : Value} {M : List Sl} (hrow : SRow base' w v M) (hb : base ≤ base') (ht : Bk w t 30 [y]) (hbt : base ≤ t) (hlt : t < base') (hs : M.length ≤ 65536) :
    ∃ a cap, RT base (w.setCell ⟨t, 0, none⟩ v) t a cap M ∧ ∀ g, a = some ⟨g, 0, none⟩ → base' ≤ g := by
  rcases hrow.2 with ⟨e, hz⟩ | ⟨g, c, cur, e, hg, hh, rest⟩
  · subst e
    have hM : M = [] := List.eq_nil_of_length_eq_zero hz
    subst hM
    exact ⟨none, 0, ⟨ht.set 0 _, ⟨rfl, .inl ⟨rfl, rfl⟩⟩, hbt, (fun g hg => by cases hg), by simp⟩, fun g hg => by cases hg⟩
  · subst e
    refine ⟨_, c, ⟨ht.set 0 _, ⟨hrow.1, .inr ⟨g, c, cur, rfl, Nat.le_trans hb hg, ?_, rest⟩⟩, hbt, (fun g' hg' => by cases hg'; omega), hs⟩, fun g' hg' => by cases hg'; exact hg⟩
    rw [Below.heap_setCell _ _ _ _ (fun e => by have e' : g = t := e; omega)]
    exact hh
theorem SRow.form {base : Nat} {w : World} {v : Value} {M : List Sl} (h : SRow base w v M) : ∃ a c, v = .slice a M.length c := by
  rcases h.2 with ⟨e, hz⟩ | ⟨g, c, cur, e, _⟩
  · exact ⟨none, 0, by rw [e, hz]⟩
  · exact ⟨_, c, e⟩
theorem size1 {W1 w1 : World} (h : Kp [] W1 w1 ∧ W1.heap.size + 1 ≤ w1.heap.size) : W1.heap.size + 1 ≤ w1.heap.size := h.2
/-- On the way: the table has M, the place and its parent lie in blocks of their own. -/
structure Dr (base : Nat) (w : World) (Q t : Nat) (a : Option Addr) (cap : Nat) (M : List Sl) (n s xu xv : Int) (wx : World) : Prop where
  rt : RT base wx t a cap M
  p : Bk wx w.heap.size 35 [.int .i64 n, .int .i64 s]
  q : Bk wx Q 35 [.int .i64 xu, .int .i64 xv]
  kp : Kp [t] w wx
  far : ∀ g, a = some ⟨g, 0, none⟩ → Q + 1 ≤ g
theorem Dr.drewN {base : Nat} {w : World} {Q t : Nat} {a : Option Addr} {cap : Nat} {M : List Sl} {n s xu xv : Int} {wx : World} (h : Dr base w Q t a cap M n s xu xv wx) (k : Nat) : Dr base w Q t a cap M n s xu xv (wx.drewN k) := ⟨h.rt.drewN k, h.p.drewN k, h.q.drewN k, h.kp.drewN k, h.far⟩
theorem Dr.drew {base : Nat} {w : World} {Q t : Nat} {a : Option Addr} {cap : Nat} {M : List Sl} {n s xu xv : Int} {wx : World} (h : Dr base w Q t a cap M n s xu xv wx) : Dr base w Q t a cap M n s xu xv wx.drew := ⟨h.rt.grew (Kp.refl [] wx).drew, h.p, h.q, h.kp.drew, h.far⟩
theorem Dr.stored {base : Nat} {w : World} {Q t g : Nat} {cap : Nat} {M : List Sl} {n s xu xv : Int} {wx : World} (h : Dr base w Q t (some ⟨g, 0, none⟩) cap M n s xu xv wx) {j : Nat} {y : Sl} (hy : M[j]? = some y) (hw : w.heap.size ≤ Q) (u v : Int) :
    Dr base w Q t (some ⟨g, 0, none⟩) cap (M.set j (y.up u v)) n s xu xv ((wx.setCell ⟨g, j * 9 + 2, none⟩ (.int .i64 u)).setCell ⟨g, j * 9 + 3, none⟩ (.int .i64 v)) := by
  have hf := h.far g rfl
  exact ⟨h.rt.stored hy u v, (h.p.setOther (by simp; omega) _).setOther (by simp; omega) _, (h.q.setOther (by simp; omega) _).setOther (by simp; omega) _, (h.kp.setCell (.inr (by simp; omega)) _).setCell (.inr (by simp; omega)) _, h.far⟩
theorem Dr.cells3 {base : Nat} {w : World} {Q t : Nat} {a : Option Addr} {cap len : Nat} {M : List Sl} {n s xu xv : Int} {w' : World} (h : Dr base w Q t a cap M n s xu xv w') (hl : M.length = len) : w'.cell? ⟨t, 0, none⟩ = some (.slice a len cap) ∧ w'.cell? ⟨Q, 0, none⟩ = some (.int .i64 xu) ∧ w'.cell? ⟨Q, 1, none⟩ = some (.int .i64 xv) := by
  subst hl
  exact ⟨h.rt.head.cell rfl, h.q.cell rfl, h.q.cell rfl⟩
/-- On the way: the table has M, both places and the slot that moves lie in blocks of their own. -/
structure Mv (base : Nat) (w : World) (Q t : Nat) (a : Option Addr) (cap : Nat) (M : List Sl) (n s n' s' : Int) (x : Sl) (wx : World) : Prop where
  rt : RT base wx t a cap M
  p : Bk wx w.heap.size 35 [.int .i64 n, .int .i64 s]
  q : Bk wx (w.heap.size + 1) 35 [.int .i64 n', .int .i64 s']
  x : Bk wx Q 74 x.vals
  kp : Kp [t] w wx
  far : ∀ g, a = some ⟨g, 0, none⟩ → Q + 1 ≤ g
def moveL (L : List Sl) (n s n' s' : Int) (i : Nat) (x : Sl) : List Sl := (insL (L.eraseIdx i) { x with n := n', s := s' }).map (reF n s n' s')
theorem two_boxes {w W1 : World} {T : TypeId} {a b c d : Value} (K1 : Kp [] ((w.alloc (.cells #[a, b] T)).alloc (.cells #[c, d] T)) W1) : Bk W1 w.heap.size T [a, b] ∧ Bk W1 (w.heap.size + 1) T [c, d] ∧ Kp [] w W1 :=
  ⟨Bk.kept ((Bk.new w T [a, b]).alloc _) K1 (by simp), Bk.kept (Bk.next (w.alloc _) T [c, d] (by simp)) K1 (by simp), (((Kp.refl [] w).alloc _).alloc _).then K1⟩
set_option maxHeartbeats 400000 in
theorem rmove_no {base : Nat} {w : World} {t : Nat} {a : Option Addr} {cap : Nat} {L : List Sl} (h : RT base w t a cap L) (n s n' s' : Int) (hn : atL L n s = none ∨ placeOk n' s' = false ∨ atL L n' s' ≠ none) :
    Calls Try.prog 43 #[.pointer (some ⟨t, 0, none⟩), .agg #[.int .i64 n, .int .i64 s], .agg #[.int .i64 n', .int .i64 s']] w fun e w' => e = .returned (.bool false) ∧ Kp [] w w' := by
  have K0 := ((Kp.refl [] w).alloc (.cells #[.int .i64 n, .int .i64 s] 35)).alloc (.cells #[.int .i64 n', .int .i64 s'] 35)
  have H := hide (h.grew K0)
  have HW := hide h
  clear K0 h
  cases e1 : atL L n s with
  | none =>
    have HA := hide (atL_none e1)
    clear hn e1
    go_enter Try.func43, Try.ntmps43
    go_wp2_with fail
    refine (at_to (unhide H) n s _ (unhide HA)).mono ?_
    rintro e W1 ⟨rfl, K1⟩
    have K1w := hide (two_boxes K1).2.2
    clear K1
    go_wp2
    go_ret
    exact ⟨rfl, unhide K1w⟩
  | some i =>
    have HA := hide (atL_atI e1)
    have b3 : decide ((i : Int) < 0) = false := decide_eq_false (by omega)
    obtain ⟨v1, h1⟩ : ∃ q, placeOk n' s' = q := ⟨_, rfl⟩
    cases v1
    · replace h1 := hide h1
      clear hn e1
      go_enter Try.func43, Try.ntmps43
      go_wp2_with fail
      refine (at_to (unhide H) n s _ (unhide HA)).mono ?_
      rintro e W1 ⟨rfl, K1⟩
      obtain ⟨B1, B2, K1w⟩ := two_boxes K1
      have p0 := B2.cell (i := 0) rfl
      have p1 := B2.cell (i := 1) rfl
      replace K1w := hide K1w
      clear K1 B1 B2
      go_wp2_with fail
      refine (rplace_to n' s' _ _ (unhide h1)).mono ?_
      rintro e W2 ⟨rfl, K2⟩
      replace K2 := hide ((unhide K1w).then K2)
      go_wp2
      go_ret
      exact ⟨rfl, unhide K2⟩
    · have e2 : atL L n' s' ≠ none := by
        rcases hn with q | q | q
        · rw [e1] at q; cases q
        · rw [h1] at q; cases q
        · exact q
      obtain ⟨i2, hi2⟩ := atI_there e2
      have b4 : decide (0 ≤ (i2 : Int)) = true := decide_eq_true (by omega)
      replace h1 := hide h1
      replace hi2 := hide hi2
      clear hn e1 e2
      go_enter Try.func43, Try.ntmps43
      go_wp2_with fail
      refine (at_to (unhide H) n s _ (unhide HA)).mono ?_
      rintro e W1 ⟨rfl, K1⟩
      obtain ⟨B1, B2, K1w⟩ := two_boxes K1
      have p0 := B2.cell (i := 0) rfl
      have p1 := B2.cell (i := 1) rfl
      replace B2 := hide B2
      replace K1w := hide K1w
      clear K1 B1
      go_wp2_with fail
      refine (rplace_to n' s' _ _ (unhide h1)).mono ?_
      rintro e W2 ⟨rfl, K2⟩
      have B3 := (unhide B2).kept K2 (by simp)
      have p2 := B3.cell (i := 0) rfl
      have p3 := B3.cell (i := 1) rfl
      replace K2 := hide ((unhide K1w).then K2)
      clear B3 p0 p1
      go_wp2_with fail
      refine (at_to ((unhide HW).grew (unhide K2)) n' s' _ (unhide hi2)).mono ?_
      rintro e W3 ⟨rfl, K3⟩
      replace K3 := hide ((unhide K2).then K3)
      go_wp2
      go_ret
      exact ⟨rfl, unhide K3⟩
end Go.Proofs.Ytgpclbkekobaoaa
