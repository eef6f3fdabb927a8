/- Pieces of rows: what a slice of the first ones, of the last ones, reads; a row that begins empty; one dropped, one set in. -/
import Derived.Test.YthnpkojfkhndoaaKRow
namespace Go.Proofs.Ythnpkojfkhndoaa.Gr
open Go.RowKit
set_option linter.unusedVariables false
variable {α : Type} {T : TypeId} {sz : Nat} {E : Enc α T sz}
theorem rows_seg {L : List α} (k m : Nat) (hk : k + m ≤ L.length) (j : Nat) (u : Value) (h : (rows E ((L.drop k).take m))[j]? = some u) : (rows E L)[k * sz + j]? = some u := by
  have e : L = L.take k ++ ((L.drop k).take m ++ (L.drop k).drop m) := by rw [List.take_append_drop, List.take_append_drop]
  have hj : j < (rows E ((L.drop k).take m)).length := (List.getElem?_eq_some_iff.1 h).1
  have hl : (rows E (L.take k)).length = k * sz := by rw [rows_len, List.length_take, Nat.min_eq_left (by omega)]
  rw [e, rows_app, rows_app, List.getElem?_append_right (by omega), hl, Nat.add_sub_cancel_left, List.getElem?_append_left hj]
  exact h
/-- A piece of the row, read through the row's own block. -/
theorem Rw.seg {base : Nat} {w : World} {g n cap : Nat} {L : List α} (h : Rw E base w (.slice (some ⟨g, 0, none⟩) n cap) L) (k m c : Nat) (hk : k + m ≤ L.length) : Src E w (.slice (some ⟨g, k * sz, none⟩) m c) ((L.drop k).take m) := by
  obtain ⟨a', c', e⟩ := Rw.form h
  cases e
  refine .inr ⟨_, c, by rw [List.length_take, List.length_drop, Nat.min_eq_left (by omega)], fun j u hu => ?_⟩
  have hj := (List.getElem?_eq_some_iff.1 hu).1
  rw [rows_len, List.length_take, List.length_drop, Nat.min_eq_left (by omega)] at hj
  have hlt : k * sz + j < L.length * sz := by
    have h1 : (k + m) * sz ≤ L.length * sz := Nat.mul_le_mul_right _ hk
    rw [Nat.add_mul] at h1
    omega
  rw [Addr.add_mid, World.ownsRow.cellAt h (k * sz + j) hlt]
  exact rows_seg k m hk j u hu
theorem Rw.front {base : Nat} {w : World} {g n cap : Nat} {L : List α} (h : Rw E base w (.slice (some ⟨g, 0, none⟩) n cap) L) (k c : Nat) (hk : k ≤ L.length) : Src E w (.slice (some ⟨g, 0, none⟩) k c) (L.take k) := by
  have := h.seg 0 k c (by omega)
  rw [Nat.zero_mul, List.drop_zero] at this
  exact this
theorem Rw.back {base : Nat} {w : World} {g n cap : Nat} {L : List α} (h : Rw E base w (.slice (some ⟨g, 0, none⟩) n cap) L) (k c : Nat) (hk : k ≤ L.length) : Src E w (.slice (some ⟨g, k * sz, none⟩) (L.length - k) c) (L.drop k) := by
  have := h.seg k (L.length - k) c (by omega)
  rwa [List.take_of_length_le (by rw [List.length_drop]; exact Nat.le_refl _)] at this
theorem src_nil {w : World} {ad : Addr} {m c : Nat} (h : m = 0) : Src E w (.slice (some ad) m c) ([] : List α) := by subst h; exact .inr ⟨ad, c, rfl, fun j u hu => by cases j <;> cases hu⟩
theorem Rw.caps {base : Nat} {w : World} {g n cap : Nat} {L : List α} (h : Rw E base w (.slice (some ⟨g, 0, none⟩) n cap) L) : L.length ≤ cap ∧ cap ≤ 9223372036854775807 := by
  rcases h.addr with ⟨e, _⟩ | ⟨g', c, e, _, _, h1, h2⟩
  · cases e
  · cases e; exact ⟨h1, by unfold maxLen at h2; omega⟩
/-- A row in an empty block. -/
theorem row_empty {base : Nat} {w : World} {e : Nat} (h : Bk w e T []) (hb : base ≤ e) : Rw E base w (.slice (some ⟨e, 0, none⟩) 0 0) ([] : List α) :=
  ⟨by simp [rows], .inr ⟨e, 0, #[], rfl, hb, h, Nat.le_refl _, Nat.zero_le _, by simp, by simp [rows]⟩⟩
theorem Rw.lt {base : Nat} {w : World} {v : Value} {L : List α} (h : Rw E base w v L) {g : Nat} (hg : v.ownBlock = some g) : base ≤ g ∧ g < w.heap.size := by
  obtain ⟨h1, c, h2⟩ := h.block hg
  exact ⟨h1, (Array.getElem?_eq_some_iff.1 h2).1⟩
/-- What grows keeps what is elsewhere. -/
theorem bk_grown {w w' : World} {g : Nat} {U : TypeId} {vs : List Value} {row : Option Nat} (h : Bk w g U vs) (hg : w.grownBy w' row) (hn : some g ≠ row) : Bk w' g U vs := (hg.block g h.lt hn).trans h
theorem kp_grown {w wr w' : World} {row : Option Nat} (K : Kp [] w wr) (hg : wr.grownBy w' row) (hr : ∀ k, row = some k → w.heap.size ≤ k) : Kp [] w w' :=
  Kp.ofBelow ((K.below (Nat.le_refl _) (by simp)).grown hg K.size hr) []
/-- A row set into a head's one cell. -/
theorem Rw.set {base base' : Nat} {w : World} {t : Nat} {U : TypeId} {v y : Value} {M : List α} (hrow : Rw E base' w v M) (hb : base ≤ base') (ht : Bk w t U [y]) (hlt : t < base') :
    ∃ a cap, v = .slice a M.length cap ∧ Bk (w.setCell ⟨t, 0, none⟩ v) t U [.slice a M.length cap] ∧ Rw E base (w.setCell ⟨t, 0, none⟩ v) (.slice a M.length cap) M := by
  obtain ⟨a, cap, rfl⟩ := hrow.form
  exact ⟨a, cap, rfl, ht.set 0 _, (hrow.kept ((Kp.refl [t] w).setCell (.inl (by simp)) _) (fun g hg m => absurd (hrow.lt hg).1 (by rw [List.mem_singleton.1 m]; omega))).mono hb⟩
theorem bk_next (w : World) (U : TypeId) (vs : List Value) {p : Nat} (hp : w.heap.size = p) : Bk (w.alloc (.cells vs.toArray U)) p U vs := by subst hp; exact Bk.new w U vs
theorem bk_drew {w : World} {g : Nat} {U : TypeId} {vs : List Value} (h : Bk w g U vs) : Bk w.drew g U vs := h
theorem sz_d (w : World) : w.drew.heap.size = w.heap.size := rfl
theorem sz_a (w : World) (o : Obj) : (w.alloc o).heap.size = w.heap.size + 1 := by simp
theorem sz_da (w : World) (o : Obj) : (w.drew.alloc o).heap.size = w.heap.size + 1 := sz_a w o
theorem sz_ad (w : World) (o : Obj) : (w.alloc o).drew.heap.size = w.heap.size + 1 := sz_a w o
theorem sz_dad (w : World) (o : Obj) : (w.drew.alloc o).drew.heap.size = w.heap.size + 1 := sz_a w o
theorem erase_is (L : List α) (i : Nat) : L.take i ++ L.drop (i + 1) = L.eraseIdx i := (List.eraseIdx_eq_take_drop_succ L i).symm
end Go.Proofs.Ythnpkojfkhndoaa.Gr
