/- Lists of places out of the document's table. -/
import Derived.Test.YtjjgjgncnifjmaaKTab2
namespace Go.Proofs.Ytjjgjgncnifjmaa
open Go.RowKit
set_option linter.unusedVariables false
/-- Places as the cells of a row. -/
def prow (ps : List (Int × Int)) : List Value := ps.flatMap fun q => [.int .i64 q.1, .int .i64 q.2]
theorem prow_app (a b : List (Int × Int)) : prow (a ++ b) = prow a ++ prow b := by unfold prow; rw [List.flatMap_append]
theorem prow_len (ps : List (Int × Int)) : (prow ps).length = ps.length * 2 := by
  induction ps with
  | nil => rfl
  | cons x L ih => unfold prow at *; rw [List.flatMap_cons, List.length_append, ih]; show 2 + L.length * 2 = (L.length + 1) * 2; omega
/-- The places of the slots that are asked for. -/
def sel (f : Sl → Bool) (L : List Sl) : List (Int × Int) := (L.filter f).map fun x => (x.n, x.s)
theorem sel_len (f : Sl → Bool) (L : List Sl) : (sel f L).length ≤ L.length := by unfold sel; rw [List.length_map]; exact List.length_filter_le _ _
theorem sel_yes {f : Sl → Bool} {L : List Sl} {j : Nat} {x : Sl} (hx : L[j]? = some x) (hf : f x = true) : sel f (L.take (j + 1)) = sel f (L.take j) ++ [(x.n, x.s)] := by
  obtain ⟨hj, rfl⟩ := List.getElem?_eq_some_iff.1 hx
  unfold sel
  rw [List.take_succ_eq_append_getElem hj, List.filter_append, List.map_append]
  simp [hf]
theorem sel_no {f : Sl → Bool} {L : List Sl} {j : Nat} {x : Sl} (hx : L[j]? = some x) (hf : f x = false) : sel f (L.take (j + 1)) = sel f (L.take j) := by
  obtain ⟨hj, rfl⟩ := List.getElem?_eq_some_iff.1 hx
  unfold sel
  rw [List.take_succ_eq_append_getElem hj, List.filter_append, List.map_append]
  simp [hf]
/-- A list of places in new memory. -/
def Pl (base : Nat) (w : World) (v : Value) (ps : List (Int × Int)) : Prop := w.ownsRow base 40 2 v ps.length (prow ps)
theorem Pl.nil (base : Nat) (w : World) : Pl base w (.slice none 0 0) [] := ⟨rfl, .inl ⟨rfl, rfl⟩⟩
theorem Pl.form {base : Nat} {w : World} {v : Value} {ps : List (Int × Int)} (h : Pl base w v ps) : ∃ a c, v = .slice a ps.length c := by
  rcases h.2 with ⟨e, hz⟩ | ⟨g, c, cur, e, _⟩
  · exact ⟨none, 0, by rw [e, hz]⟩
  · exact ⟨_, c, e⟩
theorem Pl.kept {base : Nat} {w w' : World} {v : Value} {ps : List (Int × Int)} {S : List Nat} (h : Pl base w v ps) (k : Kp S w w') (hn : ∀ g, v.ownBlock = some g → g ∉ S) : Pl base w' v ps := by
  refine ⟨h.1, ?_⟩
  rcases h.2 with hz | ⟨g, c, cur, e, hb, hg, rest⟩
  · exact .inl hz
  · exact .inr ⟨g, c, cur, e, hb, (k.block g (Array.getElem?_eq_some_iff.1 hg).1 (hn g (by rw [e]; rfl))).trans hg, rest⟩
theorem Pl.more {base : Nat} {w : World} {v : Value} {ps : List (Int × Int)} {n s : Int} (h : w.ownsRow base 40 2 v (ps.length + 1) (prow ps ++ [.int .i64 n, .int .i64 s])) : Pl base w v (ps ++ [(n, s)]) := by
  unfold Pl
  rw [prow_app, List.length_append]
  exact h
theorem Pl.mono {base base' : Nat} {w : World} {v : Value} {ps : List (Int × Int)} (h : Pl base w v ps) (hb : base' ≤ base) : Pl base' w v ps := by
  refine ⟨h.1, ?_⟩
  rcases h.2 with hz | ⟨g, c, cur, e, hg, rest⟩
  · exact .inl hz
  · exact .inr ⟨g, c, cur, e, Nat.le_trans hb hg, rest⟩
def ListP (w : World) (ps : List (Int × Int)) (e : Ending) (w' : World) : Prop := ∃ v, e = .returned v ∧ Pl w.heap.size w' v ps ∧ Kp [] w w'
theorem Try.infoPlace : (Try.prog.info? 40).map (fun i => (i.zero, i.size, i.bytes)) = some (some (.agg #[.int .i64 0, .int .i64 0]), 2, 16) := by kernel_rfl
theorem place_new (w : World) (n s : Int) : ∀ j u, ([Value.int .i64 n, .int .i64 s] : List Value)[j]? = some u → (w.alloc (.cells #[.int .i64 n, .int .i64 s] 40)).cell? ((⟨w.heap.size, 0, none⟩ : Addr).add j) = some u := fun j u h => by
  rw [Addr.add_mid, Nat.zero_add]
  exact (Bk.new w 40 [.int .i64 n, .int .i64 s]).cell h
theorem kp_grown {w wr w' : World} {row : Option Nat} (K : Kp [] w wr) (hg : wr.grownBy w' row) (hr : ∀ k, row = some k → w.heap.size ≤ k) : Kp [] w w' :=
  Kp.ofBelow ((K.below (Nat.le_refl _) (by simp)).grown hg K.size hr) []
/-- The children of a place. -/
def kidF (n s : Int) (x : Sl) : Bool := (x.u == n && x.v == s) && !(n == 0 && s == 0)
/-- Those of one name. -/
def nameF (k o z : Int) (x : Sl) : Bool := namesP x.k x.o x.z k o z
end Go.Proofs.Ytjjgjgncnifjmaa
