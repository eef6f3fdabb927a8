/- Integers copied (ringkernref.Ints), several of them appended. -/
import Derived.Test.YtdlkaaiedfikoaaKIntRow
namespace Go.Proofs.Ytdlkaaiedfikoaa
open Go.RowKit
set_option linter.unusedVariables false
/-- These integers lie behind one another, at a. -/
def ISrc (w : World) (a : Option Addr) (zs : List Int) : Prop := zs = [] ∨ ∃ b off, a = some ⟨b, off, none⟩ ∧ ∀ j z, zs[j]? = some z → w.cell? ⟨b, off + j, none⟩ = some (.int .i64 z)
theorem ISrc.kept {w w' : World} {a : Option Addr} {zs : List Int} (h : ISrc w a zs) (k : Kp [] w w') : ISrc w' a zs := by
  rcases h with e | ⟨b, off, e, hc⟩
  · exact .inl e
  · exact .inr ⟨b, off, e, fun j z hz => k.cell (hc j z hz)⟩
theorem ISrc.take {w : World} {a : Option Addr} {zs : List Int} (h : ISrc w a zs) (k : Nat) : ISrc w a (zs.take k) := by
  rcases h with e | ⟨b, off, e, hc⟩
  · exact .inl (by rw [e, List.take_nil])
  · refine .inr ⟨b, off, e, fun j z hz => hc j z ?_⟩
    rw [List.getElem?_take] at hz
    split at hz
    · exact hz
    · cases hz
theorem irow_get (zs : List Int) (j : Nat) : (irow zs)[j]? = (zs[j]?).map (.int .i64) := by unfold irow; rw [List.getElem?_map]
theorem irow_app (a b : List Int) : irow (a ++ b) = irow a ++ irow b := by unfold irow; rw [List.map_append]
set_option maxHeartbeats 1000000 in
theorem ints_calls (a : Option Addr) (cap : Nat) (zs : List Int) (w : World) (hr : ISrc w a zs) (hl : zs.length ≤ 1048576) :
    Calls Try.prog 26 #[.slice a zs.length cap] w fun e w' => ∃ g c, e = .returned (.slice (some ⟨g, 0, none⟩) zs.length c) ∧ IRow w.heap.size w' (.slice (some ⟨g, 0, none⟩) zs.length c) zs ∧ Below w.heap.size w w' := by
  obtain ⟨i0, hi, hinf⟩ := Option.map_eq_some_iff.1 Try.infoInt
  simp only [Prod.mk.injEq] at hinf
  obtain ⟨hz0, hz1, hz2⟩ := hinf
  obtain ⟨W1, hmk, hown, hgr⟩ := run_make_own (P := Try.prog) w w.heap.size 43 3 i0 (.int .i64 0) 1 Try.underlying43 hi hz0 hz1 .i64 .i64 zs.length (by rw [hz2]; omega) (by unfold maxLen; omega) (Nat.le_refl _)
  have hb1 : Below w.heap.size w W1 := (Below.refl _ _).grown hgr (Nat.le_refl _) (fun k hk => by cases hk)
  have HR := hide hr
  clear hr
  go_enter Try.func26, Try.ntmps26
  go_wp2
  go_loopw [3, 4] (fun v i wr => ∃ k : Nat, k ≤ zs.length ∧ i = .int .i64 k ∧ (∃ g c, v = .slice (some ⟨g, 0, none⟩) k c) ∧ wr.ownsRow w.heap.size 3 1 v k (irow (zs.take k)) ∧ Below w.heap.size w wr) (fun _ i _ => zs.length - (intOf i).toNat)
  case atStart => exact ⟨0, Nat.zero_le _, rfl, ⟨_, _, rfl⟩, hown, hb1⟩
  case round =>
    obtain ⟨k, hk, rfl, ⟨g, c, rfl⟩, hownr, hbr⟩ := hrel
    by_cases hlt : k < zs.length
    · obtain ⟨x, hx⟩ : ∃ x, zs[k]? = some x := ⟨_, List.getElem?_eq_getElem hlt⟩
      obtain ⟨b, off, rfl, hcell⟩ : ∃ b off, a = some ⟨b, off, none⟩ ∧ wr.cell? ⟨b, off + k, none⟩ = some (.int .i64 x) := by
        rcases unhide HR with hz | ⟨b, off, rfl, hc⟩
        · rw [hz] at hlt; simp at hlt
        · refine ⟨b, off, rfl, ?_⟩
          have h1 := hc k x hx
          rw [hbr.cell (p := ⟨b, _, .none⟩) (World.block_lt_of_cell? w _ h1)]
          exact h1
      have hmore : irow (zs.take (k + 1)) = irow (zs.take k) ++ [.int .i64 x] := by
        rw [List.take_add_one, hx]
        exact irow_app _ _
      have HM := hide hmore
      clear hmore hx
      go_wp2_with (first
        | (at_builtin; refine wpList_append_own _ rfl _ _ 43 rfl w.heap.size 3 i0 (.int .i64 0) 1 8 Try.underlying43 hi hz0 hz1 hz2 rfl (by decide) _ _ _ rfl (hownr.alloc _) ⟨wr.heap.size, 0, none⟩ 1 1 [.int .i64 x] rfl rfl (cell_one_new _ _ _) ?c2 ?c3 ?c4 ?c5 ?_)
        | go_in)
      case c2 => intro u hu; simp at hu; subst hu; rfl
      case c3 => unfold maxLen; omega
      case c4 => omega
      case c5 => have := hbr.size; simp; omega
      intro v' w1 hown' hgrow hnil
      have hb2 : Below w.heap.size w w1 := (hbr.alloc hbr.size _).grown hgrow (by have := hbr.size; simp; omega) (fun k hk => by cases hk; exact (World.ownsRow.lt hownr _ rfl).1)
      obtain ⟨g', c', rfl⟩ : ∃ g c, v' = .slice (some ⟨g, 0, none⟩) (k + 1) c := by
        rcases hown'.2 with ⟨h, _⟩ | ⟨g', c', cur, h, _⟩
        · exact (hnil h).elim
        · exact ⟨g', c', h⟩
      rw [← unhide HM] at hown'
      clear hgrow hownr hbr hcell hnil
      go_wp2
      go_roundw
      case rel => exact ⟨k + 1, by omega, by go_num, ⟨_, _, rfl⟩, hown', hb2⟩
      case measure => simp [intOf]; omega
    · go_wp2
      go_ret
      have e : k = zs.length := by omega
      subst e
      rw [List.take_of_length_le (Nat.le_refl _)] at hownr
      exact ⟨g, c, rfl, hownr, hbr⟩
theorem ints_to {a : Option Addr} {cap n : Nat} {zs : List Int} {w : World} (hr : ISrc w a zs) (hl : zs.length ≤ 1048576) (hn : zs.length = n) :
    Calls Try.prog 26 #[.slice a n cap] w fun e w' => ∃ g c, e = .returned (.slice (some ⟨g, 0, none⟩) zs.length c) ∧ IRow w.heap.size w' (.slice (some ⟨g, 0, none⟩) zs.length c) zs ∧ Below w.heap.size w w' := by subst hn; exact ints_calls a cap zs w hr hl
theorem IRow.mono {base base' : Nat} {w : World} {v : Value} {zs : List Int} (h : IRow base w v zs) (hb : base' ≤ base) : IRow base' w v zs := by
  refine ⟨h.1, ?_⟩
  rcases h.2 with hz | ⟨g, c, cur, e, hg, rest⟩
  · exact .inl hz
  · exact .inr ⟨g, c, cur, e, Nat.le_trans hb hg, rest⟩
/-- A row that is not empty: where it lies, its room. -/
theorem IRow.open {base : Nat} {w : World} {v : Value} {zs : List Int} (h : IRow base w v zs) (hp : 0 < zs.length) : ∃ g c, v = .slice (some ⟨g, 0, none⟩) zs.length c ∧ zs.length ≤ c ∧ c ≤ maxLen ∧ ISrc w (some ⟨g, 0, none⟩) zs := by
  rcases h.2 with ⟨e, q⟩ | ⟨g, c, cur, e, _, _, h1, h2, _⟩
  · omega
  · refine ⟨g, c, e, h1, h2, .inr ⟨g, 0, rfl, fun j z hz => ?_⟩⟩
    subst e
    obtain ⟨g', eg, hc⟩ := IRow.at h hz
    cases eg
    rw [Nat.zero_add]
    exact hc
theorem iapp_run {w : World} {base : Nat} {v : Value} {zs qs : List Int} (hown : IRow base w v zs) (ad : Addr) (c : Nat) (hc : ∀ j z, qs[j]? = some z → w.cell? (ad.add j) = some (.int .i64 z)) (hb : zs.length + qs.length ≤ 1048576) (hbase : base ≤ w.heap.size) (ty : TypeId) :
    ∃ v' w', (Builtin.append_ #[43, 43] ty #[v, .slice (some ad) qs.length c]).run Try.prog w = .ok v' w' ∧ IRow base w' v' (zs ++ qs) ∧ w.grownBy w' v.ownBlock ∧ (v'.ownBlock = v.ownBlock ∨ v'.ownBlock = some w.heap.size) := by
  obtain ⟨i0, hi, hinf⟩ := Option.map_eq_some_iff.1 Try.infoInt
  simp only [Prod.mk.injEq] at hinf
  obtain ⟨hz0, hz1, hz2⟩ := hinf
  obtain ⟨v', w', hr, h2, h3, _, h5⟩ := run_append_own_at (P := Try.prog) w base 43 ty 3 i0 _ 1 8 Try.underlying43 hi hz0 hz1 hz2 rfl (by decide) v zs.length (irow zs) hown ad qs.length c (irow qs) (irow_len qs) (fun j u hu => by
    rw [irow_get] at hu
    cases hq : qs[j]? with
    | none => rw [hq] at hu; cases hu
    | some z => rw [hq] at hu; cases hu; exact hc j z hq) (irow_one qs) (by unfold maxLen; omega) (by omega) hbase
  refine ⟨v', w', hr, ?_, h3, h5⟩
  unfold IRow
  rw [irow_app, List.length_append]
  exact h2
theorem ilist_many {w : World} {ops : Array Oper} {rest : List Oper} {o : Oper} {a : Act} {Q : Exit → Act → World → Prop} (hgd : o.guard = none) (s x : Operand)
    (ho : o.op = .call { callee := .builtin .append, args := #[s, x], argTypes := #[43, 43] })
    (base : Nat) (v : Value) (ad : Addr) (c m : Nat) (zs qs : List Int) (hm : qs.length = m) (hs : a.eval s = v) (hx : a.eval x = .slice (some ad) m c) (hown : IRow base w v zs) (hsrc : ∀ j z, qs[j]? = some z → w.cell? (ad.add j) = some (.int .i64 z)) (hb : zs.length + qs.length ≤ 1048576) (hbase : base ≤ w.heap.size)
    (h : ∀ v' w', IRow base w' v' (zs ++ qs) → w.grownBy w' v.ownBlock → wpList Try.prog ops Q rest (a.put o.dst v') w') : wpList Try.prog ops Q (o :: rest) a w :=
  wpList_plain hgd fun _ hK => by
    subst hm
    obtain ⟨v', w', hr, h2, h3, h5⟩ := iapp_run hown ad c hsrc hb hbase o.type
    unfold Oper.wp execOp
    simp only [ho, resolve, invoke, builtin, Sem.run_bind, Sem.run_pure, Result.andThen_ok, List.map_toArray, List.map_cons, List.map_nil, hs, hx, hr]
    exact hK _ _ (h v' w' h2 h3)
end Go.Proofs.Ytdlkaaiedfikoaa
