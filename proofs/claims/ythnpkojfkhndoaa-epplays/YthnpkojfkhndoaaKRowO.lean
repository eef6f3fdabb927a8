/- Rows that may begin inside their block (what is left of one that was cut at its front): to be read, and cut again. -/
import Derived.Test.YthnpkojfkhndoaaKSeg
namespace Go.Proofs.Ythnpkojfkhndoaa.Gr
open Go.RowKit
set_option linter.unusedVariables false
variable {α : Type} {T : TypeId} {sz : Nat} {E : Enc α T sz}
/-- The slice v reads these, in memory newer than base, at whatever place of its block. -/
def Ro (E : Enc α T sz) (base : Nat) (w : World) (v : Value) (L : List α) : Prop :=
  (v = .slice none 0 0 ∧ L = []) ∨ ∃ g off cap cs, v = .slice (some ⟨g, off, none⟩) L.length cap ∧ base ≤ g ∧ L.length ≤ cap ∧ cap ≤ maxLen ∧ w.heap[g]? = some (.cells cs T (0, 0)) ∧ ∀ j u, (rows E L)[j]? = some u → cs[off + j]? = some u
theorem Ro.nil (base : Nat) (w : World) : Ro E base w (.slice none 0 0) [] := .inl ⟨rfl, rfl⟩
theorem cell_at {w : World} {g : Nat} {cs : Array Value} (h : w.heap[g]? = some (.cells cs T (0, 0))) (i : Nat) : w.cell? ⟨g, i, none⟩ = cs[i]? := by simp [World.cell?, h]
theorem Rw.ro {base : Nat} {w : World} {v : Value} {L : List α} (h : Rw E base w v L) : Ro E base w v L := by
  have h0 := h
  rcases h.2 with ⟨e, hz⟩ | ⟨g, c, cur, e, hb, hg, h1, h2, h3, h4⟩
  · exact .inl ⟨e, List.length_eq_zero_iff.1 hz⟩
  · subst e
    refine .inr ⟨g, 0, c, cur, rfl, hb, h1, h2, hg, fun j u hu => ?_⟩
    have hj := (List.getElem?_eq_some_iff.1 hu).1
    rw [rows_len] at hj
    rw [← cell_at hg, Nat.zero_add, World.ownsRow.cellAt h0 j hj]
    exact hu
theorem Ro.form {base : Nat} {w : World} {v : Value} {L : List α} (h : Ro E base w v L) : ∃ a c, v = .slice a L.length c := by
  rcases h with ⟨e, hz⟩ | ⟨g, off, c, cs, e, _⟩
  · exact ⟨none, 0, by rw [e, hz]; rfl⟩
  · exact ⟨_, c, e⟩
theorem Ro.lt {base : Nat} {w : World} {v : Value} {L : List α} (h : Ro E base w v L) {g : Nat} (hg : v.ownBlock = some g) : base ≤ g ∧ ∃ cs, w.heap[g]? = some (.cells cs T (0, 0)) := by
  rcases h with ⟨e, hz⟩ | ⟨g', off, c, cs, e, hb, _, _, hh, _⟩
  · rw [e] at hg; cases hg
  · rw [e] at hg; cases hg; exact ⟨hb, cs, hh⟩
theorem Ro.kept {base : Nat} {w w' : World} {v : Value} {L : List α} {S : List Nat} (h : Ro E base w v L) (k : Kp S w w') (hn : ∀ g, v.ownBlock = some g → g ∉ S) : Ro E base w' v L := by
  rcases h with hz | ⟨g, off, c, cs, e, hb, h1, h2, hg, hc⟩
  · exact .inl hz
  · exact .inr ⟨g, off, c, cs, e, hb, h1, h2, (k.block g (Array.getElem?_eq_some_iff.1 hg).1 (hn g (by rw [e]; rfl))).trans hg, hc⟩
theorem Ro.grew {base : Nat} {w w' : World} {v : Value} {L : List α} (h : Ro E base w v L) (k : Kp [] w w') : Ro E base w' v L := h.kept k (by simp)
theorem Ro.mono {base base' : Nat} {w : World} {v : Value} {L : List α} (h : Ro E base w v L) (hb : base' ≤ base) : Ro E base' w v L := by
  rcases h with hz | ⟨g, off, c, cs, e, hg, rest⟩
  · exact .inl hz
  · exact .inr ⟨g, off, c, cs, e, Nat.le_trans hb hg, rest⟩
/-- Where it lies. -/
theorem Ro.addr {base : Nat} {w : World} {a : Option Addr} {n cap : Nat} {L : List α} (h : Ro E base w (.slice a n cap) L) (hp : 0 < L.length) : ∃ g off, a = some ⟨g, off, none⟩ ∧ n = L.length := by
  rcases h with ⟨_, e⟩ | ⟨g, off, c, cs, e, _⟩
  · rw [e] at hp; simp at hp
  · cases e; exact ⟨g, off, rfl, rfl⟩
theorem Ro.caps {base : Nat} {w : World} {a : Option Addr} {n cap : Nat} {L : List α} (h : Ro E base w (.slice a n cap) L) : n = L.length ∧ L.length ≤ cap ∧ cap ≤ 9223372036854775807 := by
  rcases h with ⟨e, e2⟩ | ⟨g, off, c, cs, e, _, h1, h2, _⟩
  · cases e; subst e2; simp
  · cases e; exact ⟨rfl, h1, by unfold maxLen at h2; omega⟩
theorem Ro.cell {base : Nat} {w : World} {g off n cap : Nat} {L : List α} (h : Ro E base w (.slice (some ⟨g, off, none⟩) n cap) L) {i j : Nat} {x : α} {u : Value} (hx : L[i]? = some x) (hu : (E.vals x)[j]? = some u) : w.cell? ⟨g, off + (i * sz + j), none⟩ = some u := by
  rcases h with ⟨e, _⟩ | ⟨g', off', c, cs, e, _, _, _, hg, hc⟩
  · cases e
  · cases e
    have hj : j < sz := by rw [← E.len x]; exact (List.getElem?_eq_some_iff.1 hu).1
    rw [cell_at hg]
    exact hc _ _ (by rw [rows_get hx hj]; exact hu)
/-- A piece of it. -/
theorem Ro.seg {base : Nat} {w : World} {g off n cap : Nat} {L : List α} (h : Ro E base w (.slice (some ⟨g, off, none⟩) n cap) L) (k m c : Nat) (hk : k + m ≤ L.length) : Src E w (.slice (some ⟨g, off + k * sz, none⟩) m c) ((L.drop k).take m) := by
  rcases h with ⟨e, _⟩ | ⟨g', off', c', cs, e, _, _, _, hg, hc⟩
  · cases e
  · cases e
    refine .inr ⟨_, c, by rw [List.length_take, List.length_drop, Nat.min_eq_left (by omega)], fun j u hu => ?_⟩
    rw [Addr.add_mid, cell_at hg, Nat.add_assoc]
    exact hc _ _ (rows_seg k m hk j u hu)
theorem Ro.front {base : Nat} {w : World} {g off n cap : Nat} {L : List α} (h : Ro E base w (.slice (some ⟨g, off, none⟩) n cap) L) (k c : Nat) (hk : k ≤ L.length) : Src E w (.slice (some ⟨g, off, none⟩) k c) (L.take k) := by
  have := h.seg 0 k c (by omega)
  rw [Nat.zero_mul, List.drop_zero, Nat.add_zero] at this
  exact this
theorem Ro.back {base : Nat} {w : World} {g off n cap : Nat} {L : List α} (h : Ro E base w (.slice (some ⟨g, off, none⟩) n cap) L) (k c : Nat) (hk : k ≤ L.length) : Src E w (.slice (some ⟨g, off + k * sz, none⟩) (L.length - k) c) (L.drop k) := by
  have := h.seg k (L.length - k) c (by omega)
  rwa [List.take_of_length_le (by rw [List.length_drop]; exact Nat.le_refl _)] at this
theorem Ro.src {base : Nat} {w : World} {v : Value} {L : List α} (h : Ro E base w v L) : Src E w v L := by
  rcases h with hz | ⟨g, off, c, cs, e, _, _, _, hg, hc⟩
  · exact .inl hz
  · refine .inr ⟨_, c, e, fun j u hu => ?_⟩
    rw [Addr.add_mid, cell_at hg]
    exact hc j u hu
/-- Cut behind its first ones. -/
theorem Ro.cut {base : Nat} {w : World} {g off n cap : Nat} {x : α} {L : List α} (h : Ro E base w (.slice (some ⟨g, off, none⟩) n cap) (x :: L)) {c : Nat} (hc : c + 1 = cap) : Ro E base w (.slice (some ⟨g, off + sz, none⟩) L.length c) L := by
  rcases h with ⟨e, _⟩ | ⟨g', off', c', cs, e, hb, h1, h2, hg, hcs⟩
  · cases e
  · cases e
    rw [List.length_cons] at h1
    refine .inr ⟨g, off + sz, c, cs, rfl, hb, by omega, by omega, hg, fun j u hu => ?_⟩
    rw [Nat.add_assoc]
    refine hcs _ _ ?_
    have e1 : rows E (x :: L) = E.vals x ++ rows E L := by unfold rows; rw [List.flatMap_cons]
    rw [e1, List.getElem?_append_right (by rw [E.len]; omega), E.len, Nat.add_sub_cancel_left]
    exact hu
theorem Ro.empty {base : Nat} {w : World} {g off n cap : Nat} {L : List α} (h : Ro E base w (.slice (some ⟨g, off, none⟩) n cap) L) (o c : Nat) (hc : c ≤ cap) : Ro E base w (.slice (some ⟨g, o, none⟩) 0 c) ([] : List α) := by
  rcases h with ⟨e, _⟩ | ⟨g', off', c', cs, e, hb, h1, h2, hg, hcs⟩
  · cases e
  · cases e
    exact .inr ⟨g, o, c, cs, rfl, hb, Nat.zero_le _, by omega, hg, fun j u hu => by cases j <;> cases hu⟩
theorem Src.kept {w w' : World} {v : Value} {L : List α} (h : Src E w v L) (k : Kp [] w w') : Src E w' v L := by
  rcases h with hz | ⟨ad, c, e, hc⟩
  · exact .inl hz
  · exact .inr ⟨ad, c, e, fun j u hu => k.cell (hc j u hu)⟩
/-- One of what is to be read. -/
theorem Src.cell {w : World} {a : Option Addr} {n cap : Nat} {L : List α} (h : Src E w (.slice a n cap) L) {i : Nat} {x : α} (hx : L[i]? = some x) : ∃ ad, a = some ad ∧ ∀ j u, (E.vals x)[j]? = some u → w.cell? (ad.add (i * sz + j)) = some u := by
  rcases h with ⟨_, e⟩ | ⟨ad, c, e, hc⟩
  · rw [e] at hx; cases hx
  · cases e
    refine ⟨ad, rfl, fun j u hu => hc _ _ ?_⟩
    have hj : j < sz := by rw [← E.len x]; exact (List.getElem?_eq_some_iff.1 hu).1
    rw [rows_get hx hj]
    exact hu
end Go.Proofs.Ythnpkojfkhndoaa.Gr
