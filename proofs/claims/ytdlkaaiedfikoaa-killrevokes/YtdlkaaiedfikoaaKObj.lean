/- Lists of objects, in new memory; more of them appended. -/
import Derived.Test.YtdlkaaiedfikoaaKApp
import Derived.Test.YtdlkaaiedfikoaaKSamePl
namespace Go.Proofs.Ytdlkaaiedfikoaa
open Go.RowKit
set_option linter.unusedVariables false
/-- A list of places in new memory. -/
def Ol (base : Nat) (w : World) (v : Value) (ps : List (Int × Int)) : Prop := w.ownsRow base 40 2 v ps.length (prow ps)
theorem Ol.nil (base : Nat) (w : World) : Ol base w (.slice none 0 0) [] := ⟨rfl, .inl ⟨rfl, rfl⟩⟩
theorem Ol.form {base : Nat} {w : World} {v : Value} {ps : List (Int × Int)} (h : Ol base w v ps) : ∃ a c, v = .slice a ps.length c := by
  rcases h.2 with ⟨e, hz⟩ | ⟨g, c, cur, e, _⟩
  · exact ⟨none, 0, by rw [e, hz]⟩
  · exact ⟨_, c, e⟩
theorem Ol.kept {base : Nat} {w w' : World} {v : Value} {ps : List (Int × Int)} {S : List Nat} (h : Ol base w v ps) (k : Kp S w w') (hn : ∀ g, v.ownBlock = some g → g ∉ S) : Ol base w' v ps := by
  refine ⟨h.1, ?_⟩
  rcases h.2 with hz | ⟨g, c, cur, e, hb, hg, rest⟩
  · exact .inl hz
  · exact .inr ⟨g, c, cur, e, hb, (k.block g (Array.getElem?_eq_some_iff.1 hg).1 (hn g (by rw [e]; rfl))).trans hg, rest⟩
theorem Ol.mono {base base' : Nat} {w : World} {v : Value} {ps : List (Int × Int)} (h : Ol base w v ps) (hb : base' ≤ base) : Ol base' w v ps := by
  refine ⟨h.1, ?_⟩
  rcases h.2 with hz | ⟨g, c, cur, e, hg, rest⟩
  · exact .inl hz
  · exact .inr ⟨g, c, cur, e, Nat.le_trans hb hg, rest⟩
theorem Try.infoObject : (Try.prog.info? 40).map (fun i => (i.zero, i.size, i.bytes)) = some (some (.agg #[.int .i64 0, .int .i64 0]), 2, 16) := by kernel_rfl
theorem Ol.addr {base : Nat} {w : World} {v : Value} {ps : List (Int × Int)} (h : Ol base w v ps) : (v = .slice none 0 0 ∧ ps = []) ∨ ∃ g cap, v = .slice (some ⟨g, 0, none⟩) ps.length cap ∧ ps.length ≤ cap ∧ cap ≤ maxLen := by
  rcases h.2 with ⟨e, hz⟩ | ⟨g, c, cur, e, _, _, h1, h2, _⟩
  · exact .inl ⟨e, List.length_eq_zero_iff.1 hz⟩
  · exact .inr ⟨g, c, e, h1, h2⟩
theorem Ol.src {base : Nat} {w : World} {v : Value} {ps : List (Int × Int)} (h : Ol base w v ps) : PSrc w v ps := by
  rcases h.addr with ⟨e, e2⟩ | ⟨g, cap, e, _⟩
  · exact .inl ⟨e, e2⟩
  · subst e
    refine .inr ⟨_, cap, rfl, fun j u hu => ?_⟩
    have hj := (List.getElem?_eq_some_iff.1 hu).1
    rw [prow_len] at hj
    rw [Addr.add_mid, Nat.zero_add, World.ownsRow.cellAt h j hj]
    exact hu
theorem oapp_run {w : World} {base : Nat} {v x : Value} {ps qs : List (Int × Int)} (hown : Ol base w v ps) (hsrc : PSrc w x qs) (hb : ps.length + qs.length ≤ 1048576) (hbase : base ≤ w.heap.size) (ty : TypeId) :
    ∃ v' w', (Builtin.append_ #[32, 32] ty #[v, x]).run Try.prog w = .ok v' w' ∧ Ol base w' v' (ps ++ qs) ∧ w.grownBy w' v.ownBlock ∧ (v'.ownBlock = v.ownBlock ∨ v'.ownBlock = some w.heap.size) := by
  obtain ⟨i0, hi, hinf⟩ := Option.map_eq_some_iff.1 Try.infoObject
  simp only [Prod.mk.injEq] at hinf
  obtain ⟨hz0, hz1, hz2⟩ := hinf
  rcases hsrc with ⟨rfl, rfl⟩ | ⟨ad, c, rfl, hc⟩
  · refine ⟨v, w, run_append_owned_none w base _ ty _ i0 2 Try.underlying32 hi v ps.length (prow ps) hown, ?_, ⟨rfl, rfl, rfl, Nat.le_refl _, fun _ _ _ => rfl⟩, .inl rfl⟩
    rw [List.append_nil]
    exact hown
  · obtain ⟨v', w', hr, h2, h3, _, h5⟩ := run_append_own_at (P := Try.prog) w base 32 ty 40 i0 _ 2 16 Try.underlying32 hi hz0 hz1 hz2 rfl (by decide) v ps.length (prow ps) hown ad qs.length c (prow qs) (prow_len qs) hc (prow_one qs) (by unfold maxLen; omega) (by omega) hbase
    refine ⟨v', w', hr, ?_, h3, h5⟩
    unfold Ol
    rw [prow_app, List.length_append]
    exact h2
theorem olist_app {w : World} {ops : Array Oper} {rest : List Oper} {o : Oper} {a : Act} {Q : Exit → Act → World → Prop} (hgd : o.guard = none) (s x : Operand)
    (ho : o.op = .call { callee := .builtin .append, args := #[s, x], argTypes := #[32, 32] })
    (base : Nat) (v xv : Value) (ps qs : List (Int × Int)) (hs : a.eval s = v) (hx : a.eval x = xv) (hown : Ol base w v ps) (hsrc : PSrc w xv qs) (hb : ps.length + qs.length ≤ 1048576) (hbase : base ≤ w.heap.size)
    (h : ∀ v' w', Ol base w' v' (ps ++ qs) → w.grownBy w' v.ownBlock → (v'.ownBlock = v.ownBlock ∨ v'.ownBlock = some w.heap.size) → wpList Try.prog ops Q rest (a.put o.dst v') w') : wpList Try.prog ops Q (o :: rest) a w :=
  wpList_plain hgd fun _ hK => by
    obtain ⟨v', w', hr, h2, h3, h5⟩ := oapp_run hown hsrc hb hbase o.type
    unfold Oper.wp execOp
    simp only [ho, resolve, invoke, builtin, Sem.run_bind, Sem.run_pure, Result.andThen_ok, List.map_toArray, List.map_cons, List.map_nil, hs, hx, hr]
    exact hK _ _ (h v' w' h2 h3 h5)
/-- Ol's cells: place j of the list. -/
theorem Ol.at {base : Nat} {w : World} {g cap len : Nat} {ps : List (Int × Int)} (h : Ol base w (.slice (some ⟨g, 0, none⟩) len cap) ps) {j : Nat} {q : Int × Int} (hq : ps[j]? = some q) : w.cell? ⟨g, j * 2, none⟩ = some (.int .i64 q.1) ∧ w.cell? ⟨g, j * 2 + 1, none⟩ = some (.int .i64 q.2) := by
  obtain ⟨h1, h2⟩ := prow_get ps j q hq
  have hj : j < ps.length := (List.getElem?_eq_some_iff.1 hq).1
  obtain ⟨a, c, e⟩ := Ol.form h
  cases e
  exact ⟨(World.ownsRow.cellAt h (j * 2) (by omega)).trans h1, (World.ownsRow.cellAt h (j * 2 + 1) (by omega)).trans h2⟩
end Go.Proofs.Ytdlkaaiedfikoaa
