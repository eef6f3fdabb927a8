/- The program's table: other parents. -/
import Derived.Test.YtjjgjgncnifjmaaKSlots4
import Derived.Test.YtjjgjgncnifjmaaKSlots5
import Derived.Test.YtjjgjgncnifjmaaKSamePl
namespace Go.Proofs.Ytjjgjgncnifjmaa
open Go.RowKit
set_option linter.unusedVariables false
def upBy (Q : List (Int × Int)) (u v : Int) (x : Sl) : Sl := if (x.n, x.s) ∈ Q then x.up u v else x
theorem up_key (x : Sl) (u v : Int) : ppl (x.up u v) = ppl x := rfl
theorem upBy_key (Q : List (Int × Int)) (u v : Int) (x : Sl) : ppl (upBy Q u v x) = ppl x := by
  unfold upBy
  split <;> rfl
theorem rises_nd {ps : List (Int × Int)} (h : Rises ps) : ps.Nodup := h.imp fun hab e => by subst e; unfold beforeP at hab; omega
theorem key_eq {L : List Sl} (hn : (L.map ppl).Nodup) {x y : Sl} (hx : x ∈ L) (hy : y ∈ L) (e : ppl x = ppl y) : x = y := by
  induction L with
  | nil => cases hx
  | cons a L ih =>
    rw [List.map_cons, List.nodup_cons] at hn
    rcases List.mem_cons.1 hx with rfl | m1 <;> rcases List.mem_cons.1 hy with rfl | m2
    · rfl
    · exact absurd (List.mem_map.2 ⟨y, m2, e.symm⟩) hn.1
    · exact absurd (List.mem_map.2 ⟨x, m1, e⟩) hn.1
    · exact ih hn.2 m1 m2
theorem up_step {L : List Sl} (hn : (L.map ppl).Nodup) {Q : List (Int × Int)} {u v : Int} {y : Sl} (hy : y ∈ L) :
    ((L.map (upBy Q u v)).map slKV).map (setF (ppl y) (holdV (y.up u v))) = (L.map (upBy (Q ++ [ppl y]) u v)).map slKV := by
  rw [List.map_map, List.map_map, List.map_map]
  refine List.map_congr_left fun x hx => ?_
  show setF (ppl y) (holdV (y.up u v)) (slKV (upBy Q u v x)) = slKV (upBy (Q ++ [ppl y]) u v x)
  have hk : (slKV (upBy Q u v x)).1 = ppl x := upBy_key Q u v x
  unfold setF
  rw [hk]
  by_cases e : ppl x = ppl y
  · have := key_eq hn hx hy e
    subst this
    rw [if_pos rfl]
    have : upBy (Q ++ [ppl x]) u v x = x.up u v := by
      unfold upBy
      exact if_pos (List.mem_append.2 (.inr (List.mem_singleton.2 rfl)))
    rw [this]
    rfl
  · rw [if_neg e]
    congr 1
    unfold upBy
    have : ((x.n, x.s) ∈ Q ++ [ppl y]) ↔ ((x.n, x.s) ∈ Q) := by
      rw [List.mem_append, List.mem_singleton]
      exact ⟨fun h => h.elim id (fun q => absurd q e), .inl⟩
    by_cases h : (x.n, x.s) ∈ Q
    · rw [if_pos h, if_pos (this.2 h)]
    · rw [if_neg h, if_neg (fun q => h (this.1 q))]
theorem mem_sel {F : Sl → Bool} {L : List Sl} {q : Int × Int} : q ∈ sel F L ↔ ∃ x ∈ L, F x = true ∧ ppl x = q := by
  unfold sel
  rw [List.mem_map]
  constructor
  · rintro ⟨x, hx, e⟩
    exact ⟨x, (List.mem_filter.1 hx).1, (List.mem_filter.1 hx).2, e⟩
  · rintro ⟨x, hx, h, e⟩
    exact ⟨x, List.mem_filter.2 ⟨hx, h⟩, e⟩
theorem up_all {L : List Sl} (hn : (L.map ppl).Nodup) {n s u v : Int} (hz : isN n s = false) : L.map (upBy (sel (kidF n s) L) u v) = L.map (reF n s u v) := by
  refine List.map_congr_left fun x hx => ?_
  unfold upBy reF
  have : ((x.n, x.s) ∈ sel (kidF n s) L) ↔ (x.u = n ∧ x.v = s) := by
    rw [mem_sel]
    constructor
    · rintro ⟨y, hy, hf, e⟩
      have := key_eq hn hy hx e
      subst this
      unfold kidF at hf
      simp at hf
      exact hf.1
    · intro e
      refine ⟨x, hx, ?_, rfl⟩
      unfold isN at hz
      unfold kidF
      rw [hz]
      simp [e.1, e.2]
  by_cases h : x.u = n ∧ x.v = s
  · rw [if_pos h, if_pos (this.2 h)]
  · rw [if_neg h, if_neg (fun q => h (this.1 q))]
theorem up_none (L : List Sl) (u v : Int) : L.map (upBy [] u v) = L := by
  conv => rhs; rw [← List.map_id L]
  refine List.map_congr_left fun x hx => ?_
  unfold upBy
  simp
theorem upBy_not {Q : List (Int × Int)} {u v : Int} {y : Sl} (h : ppl y ∉ Q) : upBy Q u v y = y := by unfold upBy; exact if_neg h
/-- Pl's cells: place j of the list. -/
theorem Pl.at {base : Nat} {w : World} {g cap len : Nat} {ps : List (Int × Int)} (h : Pl base w (.slice (some ⟨g, 0, none⟩) len cap) ps) {j : Nat} {q : Int × Int} (hq : ps[j]? = some q) : w.cell? ⟨g, j * 2, none⟩ = some (.int .i64 q.1) ∧ w.cell? ⟨g, j * 2 + 1, none⟩ = some (.int .i64 q.2) := by
  obtain ⟨h1, h2⟩ := prow_get ps j q hq
  have hj : j < ps.length := (List.getElem?_eq_some_iff.1 hq).1
  obtain ⟨a, c, e⟩ := Pl.form h
  cases e
  exact ⟨(World.ownsRow.cellAt h (j * 2) (by omega)).trans h1, (World.ownsRow.cellAt h (j * 2 + 1) (by omega)).trans h2⟩
theorem Pl.addr {base : Nat} {w : World} {v : Value} {ps : List (Int × Int)} (h : Pl base w v ps) : (v = .slice none 0 0 ∧ ps = []) ∨ ∃ g cap, v = .slice (some ⟨g, 0, none⟩) ps.length cap ∧ ps.length ≤ cap ∧ cap ≤ maxLen := by
  rcases h.2 with ⟨e, hz⟩ | ⟨g, c, cur, e, _, _, h1, h2, _⟩
  · exact .inl ⟨e, List.length_eq_zero_iff.1 hz⟩
  · exact .inr ⟨g, c, e, h1, h2⟩
def RehP (w : World) (t : Nat) (m : Option Nat) (L : List Sl) (e : Ending) (w' : World) : Prop := e = .returned (.tuple #[]) ∧ PT w' t m L ∧ Kp m.toList w w'
theorem PT.mapped {w w' : World} {t : Nat} {m : Option Nat} {L : List Sl} {f : Sl → Sl} (h : PT w t m L) (hf : ∀ x, ppl (f x) = ppl x) (hB : Bk w' t 50 [.map m]) (hM : MO w' m (L.map f)) : PT w' t m (L.map f) := by
  have e : (L.map f).map ppl = L.map ppl := by rw [List.map_map]; exact List.map_congr_left fun x _ => hf x
  refine ⟨hB, hM, ?_, by rw [List.length_map]; exact h.small, ?_⟩
  · show Rises ((L.map f).map ppl)
    rw [e]
    exact h.rises
  · intro x hx
    obtain ⟨y, hy, rfl⟩ := List.mem_map.1 hx
    have := h.ok y hy
    have e := hf y
    have e1 : (f y).n = y.n := congrArg Prod.fst e
    have e2 : (f y).s = y.s := congrArg Prod.snd e
    rw [e1, e2]
    exact this
theorem reF_key (n s u v : Int) (x : Sl) : ppl (reF n s u v x) = ppl x := by
  unfold reF
  split <;> rfl
theorem pin_ok {n s : Int} (h : placeOk n s = true) : PIn (n, s) := by
  rw [placeOk_iff] at h
  unfold placeP at h
  exact ⟨in64_of (by show _ ≤ n; omega) (by show n ≤ _; omega), in64_of (by show _ ≤ s; omega) (by show s ≤ _; omega)⟩
end Go.Proofs.Ytjjgjgncnifjmaa
