/- ListHas, reckoned: the list beside a row of numbers. -/
import Derived.Test.YtldeonlonoiliaaKLsIn
import Derived.Test.YtldeonlonoiliaaKArgs
namespace Go.Proofs.Ytldeonlonoiliaa
open Go.RowKit
set_option linter.unusedVariables false
def inE : Gr.Enc Int 3 1 := ⟨fun x => [.int .i64 x], fun _ => rfl, fun x v hv => by
  simp only [List.mem_cons, List.not_mem_nil, or_false] at hv
  rw [hv]; rfl⟩
theorem Try.infoIntH : (Try.prog.info? 3).map (fun i => (i.zero, i.size, i.bytes)) = some (some (.int .i64 0), 1, 8) := by kernel_rfl
/-- A number's ID. -/
def seven (n : Int) : Int × Int := (n, 7)
def sevs (W : List Int) : List (Int × Int) := W.map seven
theorem sevs_len (W : List Int) : (sevs W).length = W.length := by unfold sevs; simp
theorem sevs_get {W : List Int} {i : Nat} {n : Int} (h : W[i]? = some n) : (sevs W)[i]? = some (n, 7) := by unfold sevs; rw [List.getElem?_map, h]; rfl
theorem sevs_mem {W : List Int} {n : Int} : (n, 7) ∈ sevs W ↔ n ∈ W := by
  unfold sevs
  rw [List.mem_map]
  constructor
  · rintro ⟨k, hk, e⟩
    have : k = n := congrArg Prod.fst e
    rw [← this]; exact hk
  · intro h
    exact ⟨n, h, rfl⟩
theorem sevs_app (W : List Int) (n : Int) : sevs (W ++ [n]) = sevs W ++ [(n, 7)] := by unfold sevs; rw [List.map_append]; rfl
theorem sevs_push {W : List Int} {n : Int} (h : n ∉ W) : lPush (sevs W) (n, 7) = sevs (W ++ [n]) := by rw [lPush_yes (fun q => h (sevs_mem.1 q)), sevs_app]
theorem sevs_there {W : List Int} {n : Int} (h : n ∈ W) : lPush (sevs W) (n, 7) = sevs W := lPush_no (sevs_mem.2 h)
theorem sevs_drop {W : List Int} (hn : (sevs W).Nodup) {i : Nat} {n : Int} (h : W[i]? = some n) : lDel (sevs W) (n, 7) = sevs (W.eraseIdx i) := by
  rw [← lDel_erase hn (sevs_get h)]
  unfold sevs
  exact (ChangeMaps.map_eraseIdx _ _ _).symm
theorem sevs_none {W : List Int} {n : Int} (h : n ∉ W) : lDel (sevs W) (n, 7) = sevs W := lDel_same (fun q => h (sevs_mem.1 q))
theorem sevs_has {W : List Int} {n : Int} (h : n ∈ W) : lHas (sevs W) (n, 7) = true := lHas_yes (sevs_mem.2 h)
theorem sevs_not {W : List Int} {n : Int} (h : n ∉ W) : lHas (sevs W) (n, 7) = false := lHas_no (fun q => h (sevs_mem.1 q))
theorem er_skip {W : List Int} {i : Nat} {x : Int} (h : W[i]? = some x) : (W.take (i + 1)).eraseIdx i = (W.take i).eraseIdx i := by
  obtain ⟨hi, rfl⟩ := List.getElem?_eq_some_iff.1 h
  have hl : (W.take i).length = i := by simp; omega
  rw [List.take_succ_eq_append_getElem hi, List.eraseIdx_append_of_length_le (by omega), hl, Nat.sub_self, List.eraseIdx_cons_zero, List.append_nil, List.eraseIdx_of_length_le (by omega)]
theorem er_take {W : List Int} {i k : Nat} {x : Int} (h : W[k]? = some x) (hk : k ≠ i) : (W.take (k + 1)).eraseIdx i = (W.take k).eraseIdx i ++ [x] := by
  obtain ⟨hlt, rfl⟩ := List.getElem?_eq_some_iff.1 h
  have hl : (W.take k).length = k := by simp; omega
  rw [List.take_succ_eq_append_getElem hlt]
  by_cases h2 : i < k
  · rw [List.eraseIdx_append_of_lt_length (show i < (W.take k).length by omega)]
  · have e1 : ([W[k]] : List Int).eraseIdx (i - k) = [W[k]] := List.eraseIdx_of_length_le (by simp; omega)
    have e2 : (W.take k).eraseIdx i = W.take k := List.eraseIdx_of_length_le (by omega)
    rw [List.eraseIdx_append_of_length_le (show (W.take k).length ≤ i by omega), hl, e1, e2]
theorem er_len (W : List Int) (i : Nat) : (W.eraseIdx i).length ≤ W.length := by rw [List.length_eraseIdx]; split <;> omega
/-- The row's block is not the list's own. -/
theorem LIn.off {w wr : World} {t base : Nat} {L : List (Int × Int)} {v : Value} {W : List Int} (h : LIn w t L wr) (r : Gr.Rw inE base wr v W) : ∀ g, v.ownBlock = some g → g ≠ t := fun g hg e => by
  subst e
  obtain ⟨m, f, hs, _⟩ := h.pl
  obtain ⟨_, c, hc⟩ := r.block hg
  have hh := hs.head
  unfold Bk at hh
  rw [hh] at hc
  simp at hc
/-- The list at t, the row of numbers. -/
structure Hs (w : World) (t : Nat) (W : List Int) (v : Value) (wx : World) : Prop where
  l : LIn w t (sevs W) wx
  r : Gr.Rw inE w.heap.size wx v W
theorem Hs.grew {w : World} {t : Nat} {W : List Int} {v : Value} {wx wy : World} (h : Hs w t W v wx) (k : Kp [] wx wy) : Hs w t W v wy := ⟨h.l.grew k, h.r.grew k⟩
theorem Hs.start {w W0 : World} {t : Nat} (k : Kp [] w W0) (ht : W0.heap.size = t) : Hs w t [] (.slice none 0 0) (W0.alloc (.cells #[.map none, .int .i64 0, .int .i64 0] 28)) := ⟨LIn.of k ht.symm (Kp.refl [] _), .nil _ _⟩
/-- The row as it was, the list turned. -/
theorem row_kept {w wx wy : World} {t base : Nat} {L : List (Int × Int)} {W : List Int} {v : Value} (h : LIn w t L wx) (r : Gr.Rw inE base wx v W) (S : Lch w t wx wy) : Gr.Rw inE base wy v W := S.rw r (h.off r)
/-- A number appended to the row. -/
theorem LIn.app {w wx wy : World} {t base : Nat} {L : List (Int × Int)} {W : List Int} {v : Value} (h : LIn w t L wx) (r : Gr.Rw inE base wx v W) (hb : w.heap.size ≤ base) (hg : wx.grownBy wy v.ownBlock) : LIn w t L wy := by
  have k := Gr.kp_gb hg
  cases e : v.ownBlock with
  | none =>
    rw [e] at k
    exact h.grew (k.mono (by simp))
  | some g =>
    rw [e] at k
    obtain ⟨h1, c, hc⟩ := r.block e
    exact h.beside (k.mono (by simp)) (show Bk wx g 3 c.toList from by unfold Bk; simpa using hc) (h.off r g e) (by omega)
theorem Gr.Rw.int {base : Nat} {w : World} {g n cap : Nat} {W : List Int} (h : Gr.Rw inE base w (.slice (some ⟨g, 0, none⟩) n cap) W) {i : Nat} {x : Int} (hx : W[i]? = some x) : w.cell? ⟨g, i, none⟩ = some (.int .i64 x) := by
  have := h.cell (j := 0) hx rfl
  rwa [Nat.mul_one, Nat.add_zero] at this
theorem ints_h {w w' : World} {a : Option Addr} {zs : List Int} (h : Ints .i64 w a zs) (k : Kp [] w w') {j : Nat} (hj : j < zs.length) : ∃ b off, a = some ⟨b, off, none⟩ ∧ w'.cell? ⟨b, off + j, none⟩ = some (.int .i64 (zs.getD j 0)) := by
  obtain ⟨_, _, hz | ⟨b, off, rfl, hc⟩⟩ := h
  · omega
  · exact ⟨b, off, rfl, k.cell (hc j hj)⟩
end Go.Proofs.Ytldeonlonoiliaa
