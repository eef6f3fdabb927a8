/- Integers appended to a slice of the walk's own. -/
import Derived.Test.YthjhpcbhkcmghaaKTabIn
namespace Go.Proofs.Ythjhpcbhkcmghaa
open Go.RowKit
set_option linter.unusedVariables false
def irow (zs : List Int) : List Value := zs.map (.int .i64)
def IRow (base : Nat) (w : World) (v : Value) (zs : List Int) : Prop := w.ownsRow base 3 1 v zs.length (irow zs)
theorem irow_len (zs : List Int) : (irow zs).length = zs.length * 1 := by unfold irow; simp
theorem irow_one (zs : List Int) : ∀ v ∈ irow zs, v.oneCell' = true := by
  intro v hv
  unfold irow at hv
  obtain ⟨x, _, rfl⟩ := List.mem_map.1 hv
  rfl
theorem IRow.nil (base : Nat) (w : World) : IRow base w (.slice none 0 0) [] := ⟨rfl, .inl ⟨rfl, rfl⟩⟩
theorem IRow.form {base : Nat} {w : World} {v : Value} {zs : List Int} (h : IRow base w v zs) : ∃ a c, v = .slice a zs.length c := by
  rcases h.2 with ⟨e, hz⟩ | ⟨g, c, cur, e, _⟩
  · exact ⟨none, 0, by rw [e, hz]⟩
  · exact ⟨_, c, e⟩
theorem IRow.at {base : Nat} {w : World} {a : Option Addr} {len c : Nat} {zs : List Int} (h : IRow base w (.slice a len c) zs) {j : Nat} {z : Int} (hz : zs[j]? = some z) : ∃ g, a = some ⟨g, 0, none⟩ ∧ w.cell? ⟨g, j, none⟩ = some (.int .i64 z) := by
  have hj : j < zs.length := (List.getElem?_eq_some_iff.1 hz).1
  rcases h.2 with ⟨e, q⟩ | ⟨g, c', cur, e, _⟩
  · omega
  · cases e
    refine ⟨g, rfl, ?_⟩
    rw [World.ownsRow.cellAt h j (by omega)]
    unfold irow
    rw [List.getElem?_map, hz]
    rfl
/-- What the table's change leaves of a row that is younger than it. -/
theorem Tch.own {w wr w' : World} {t base : Nat} {T : TypeId} {sz n : Nat} {v : Value} {vs : List Value} (h : Tch w t wr w') (p : wr.ownsRow base T sz v n vs) (hb : t < base) : w'.ownsRow base T sz v n vs := by
  obtain ⟨S, k, hS, _⟩ := h
  refine ⟨p.1, ?_⟩
  rcases p.2 with hz | ⟨g, c, cur, e, hg, hh, rest⟩
  · exact .inl hz
  · refine .inr ⟨g, c, cur, e, hg, ?_, rest⟩
    refine (k.block g (Array.getElem?_eq_some_iff.1 hh).1 fun m => ?_).trans hh
    rcases (hS g m).2 with e | e
    · omega
    · exact e _ _ _ hh
theorem own_grew {w w' : World} {base : Nat} {T : TypeId} {sz n : Nat} {v : Value} {vs : List Value} (p : w.ownsRow base T sz v n vs) (k : Kp [] w w') : w'.ownsRow base T sz v n vs := by
  refine ⟨p.1, ?_⟩
  rcases p.2 with hz | ⟨g, c, cur, e, hg, hh, rest⟩
  · exact .inl hz
  · exact .inr ⟨g, c, cur, e, hg, (k.block g (Array.getElem?_eq_some_iff.1 hh).1 (by simp)).trans hh, rest⟩
/-- What the growth of a row that is younger than the table leaves of the table. -/
theorem TabIn.grown {w wr w' : World} {t base : Nat} {L : List Sl} {T : TypeId} {sz n : Nat} {v : Value} {vs : List Value} (h : TabIn w t L wr) (hg : wr.grownBy w' v.ownBlock) (p : wr.ownsRow base T sz v n vs) (hb : t < base) : TabIn w t L w' := by
  have kk : Kp v.ownBlock.toList wr w' := ⟨hg.os, hg.tape, hg.output, hg.size, fun k hk hn => hg.block k hk fun e => hn (by rw [← e]; simp)⟩
  obtain ⟨m, hp, hm⟩ := h.tab
  have hown : ∀ g, g ∈ v.ownBlock.toList → base ≤ g ∧ ∃ cur, wr.heap[g]? = some (.cells cur T (0, 0)) := by
    intro g hgm
    rcases p.2 with ⟨e, _⟩ | ⟨g', c, cur, e, hg', hh, _⟩
    · rw [e] at hgm; simp [Value.ownBlock] at hgm
    · rw [e] at hgm
      have hq : g = g' := by simpa [Value.ownBlock] using hgm
      subst hq
      exact ⟨hg', cur, hh⟩
  refine ⟨h.kp.trans kk (by simp) (fun i hi => .inr ?_), ⟨m, hp.kept kk (fun hi => ?_) (fun b e hi => ?_), hm⟩, h.new, h.fo, h.cp⟩
  · have := (hown i hi).1; have := h.new; omega
  · have := (hown t hi).1; omega
  · subst e
    obtain ⟨_, cur, hh⟩ := hown b hi
    exact hp.noc _ _ _ hh
theorem Try.infoInt : (Try.prog.info? 3).map (fun i => (i.zero, i.size, i.bytes)) = some (some (.int .i64 0), 1, 8) := by kernel_rfl
theorem ilist_app {w : World} {ops : Array Oper} {rest : List Oper} {o : Oper} {a : Act} {Q : Exit → Act → World → Prop} (hgd : o.guard = none) (s x : Operand)
    (ho : o.op = .call { callee := .builtin .append, args := #[s, x], argTypes := #[65, 65] })
    (base : Nat) (v : Value) (g c : Nat) (zs : List Int) (z : Int) (hs : a.eval s = v) (hx : a.eval x = .slice (some ⟨g, 0, none⟩) 1 c) (hown : IRow base w v zs) (hsrc : w.cell? ⟨g, 0, none⟩ = some (.int .i64 z)) (hb : zs.length + 1 ≤ 1048576) (hbase : base ≤ w.heap.size)
    (h : ∀ v' w', IRow base w' v' (zs ++ [z]) → w.grownBy w' v.ownBlock → wpList Try.prog ops Q rest (a.put o.dst v') w') : wpList Try.prog ops Q (o :: rest) a w :=
  wpList_plain hgd fun _ hK => by
    obtain ⟨i0, hi, hinf⟩ := Option.map_eq_some_iff.1 Try.infoInt
    simp only [Prod.mk.injEq] at hinf
    obtain ⟨hz0, hz1, hz2⟩ := hinf
    obtain ⟨v', w', hr, h2, h3, _, h5⟩ := run_append_own_at (P := Try.prog) w base 65 o.type 3 i0 _ 1 8 Try.underlying65 hi hz0 hz1 hz2 rfl (by decide) v zs.length (irow zs) hown ⟨g, 0, none⟩ 1 c (irow [z]) (irow_len [z]) (fun j u hu => by
      have hj : j < 1 := (List.getElem?_eq_some_iff.1 hu).1
      obtain rfl : j = 0 := by omega
      cases hu
      exact hsrc) (irow_one [z]) (by unfold maxLen; omega) (by omega) hbase
    unfold Oper.wp execOp
    simp only [ho, resolve, invoke, builtin, Sem.run_bind, Sem.run_pure, Result.andThen_ok, List.map_toArray, List.map_cons, List.map_nil, hs, hx, hr]
    refine hK _ _ (h v' w' ?_ h3)
    unfold IRow
    rw [List.length_append]
    have e : irow (zs ++ [z]) = irow zs ++ irow [z] := by unfold irow; rw [List.map_append]
    rw [e]
    exact h2
end Go.Proofs.Ythjhpcbhkcmghaa
