/- The program's table since a world: Drop. -/
import Derived.Test.YtjjgjgncnifjmaaKTb
import Derived.Test.YtjjgjgncnifjmaaKSlots8
import Derived.Test.YtjjgjgncnifjmaaKLkM
namespace Go.Proofs.Ytjjgjgncnifjmaa
open Go.RowKit
set_option linter.unusedVariables false
theorem bdrop_yes {w wr : World} {t : Nat} {L L' : List Sl} (h : Tb w t L wr) {n s : Int} {i : Nat} {x : Sl} (ha : atL L n s = some i) (hx : L[i]? = some x) (e : dropL L n s i x = L') :
    Calls Try.prog 18 #[.pointer (some ⟨t, 0, none⟩), .agg #[.int .i64 n, .int .i64 s]] wr (TbP w t L' wr (.bool true)) := by
  obtain ⟨m, h1, h2⟩ := h.tab
  refine (drop_yes h1 ha hx).mono ?_
  rintro e' w' ⟨rfl, hT, hK⟩
  have T := tch_of h1 h2 h.new (hK.mono (S' := t :: m.toList) (fun k hk => List.mem_cons_of_mem _ hk))
  subst e
  exact ⟨rfl, ⟨T.kp h.kp, ⟨m, hT, h2⟩, h.new⟩, T⟩
theorem Tb.nodup {w wr : World} {t : Nat} {L : List Sl} (h : Tb w t L wr) : (L.map ppl).Nodup := by
  obtain ⟨m, h1, h2⟩ := h.tab
  have hr : (L.map ppl).Pairwise fun x y => beforeP x.1 x.2 y.1 y.2 := h1.rises
  exact hr.imp fun {a b} hab e => by
    subst e
    unfold beforeP at hab
    omega
/-- Dropped: there nothing, elsewhere the same but for its parent. -/
theorem bdrop {w wr : World} {t : Nat} {L : List Sl} (h : Tb w t L wr) {n s : Int} {x : Sl} (hx : lkS L n s = some x) :
    ∃ L' u v, (Calls Try.prog 18 #[.pointer (some ⟨t, 0, none⟩), .agg #[.int .i64 n, .int .i64 s]] wr (TbP w t L' wr (.bool true))) ∧ L'.length ≤ L.length ∧ lkS L' n s = none ∧ ∀ n' s', ¬ (n = n' ∧ s = s') → lkS L' n' s' = (lkS L n' s').map (reF n s u v) := by
  obtain ⟨i, ha, hi⟩ := at_some hx
  refine ⟨dropL L n s i x, x.u, x.v, bdrop_yes h ha hi rfl, ?_, lk_gone h.nodup ha, fun n' s' hne => lk_drop ha hne⟩
  unfold dropL
  rw [List.length_map]
  exact List.length_eraseIdx_le _ _
end Go.Proofs.Ytjjgjgncnifjmaa
