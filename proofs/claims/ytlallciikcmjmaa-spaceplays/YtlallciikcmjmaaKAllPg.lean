/- The program's maps: All (maps.Keys, slices.SortedFunc with Collect and AppendSeq). -/
import Derived.Test.YtlallciikcmjmaaKRgPg
import Derived.Test.YtlallciikcmjmaaKPgSort
namespace Go.Proofs.Ytlallciikcmjmaa
open Go.RowKit
set_option linter.unusedVariables false
attribute [local go_sem] Oper.semAt_some
set_option maxRecDepth 100000 in
set_option maxHeartbeats 1000000 in
/-- .. over the nil map: none comes. -/
theorem keysPg_nil (n : Nat) (hn : 1 ≤ n) (l Bm : Nat) (J Jx : List (Int × Int) → World → Prop)
    (W : World) (hJ : AbidesFrom W.heap.size J) (hm : W.cell? ⟨Bm, 0, none⟩ = some (.map none)) (h0 : J [] W) :
    CallsIn Fence.wide n Try.prog 42 #[.func (.yield l) #[] #[], .pointer (some ⟨Bm, 0, none⟩)] W fun e W' => (∃ v, e = .returned v) ∧
      ((∃ xs : List (Int × Int), xs.Perm (pgs []) ∧ J xs W') ∨ (∃ pre : List (Int × Int), True ∧ Jx pre W')) := by
  have hrg : (Instr.range 24 (.map none)).run Try.prog W = .ok (.pointer (some ⟨W.heap.size, 0, none⟩)) (W.alloc (.mapIter none 0 #[] 0)) := run_range_nilMap W _ _ _ Try.underlying24
  have hJ0 : J [] (W.alloc (.mapIter none 0 #[] 0)) := hJ [] W _ none h0 (World.grownBy_alloc _ _ _) (fun r e => by cases e)
  replace hJ0 := hide hJ0
  refine callsIn_of_wp Try.func42 rfl trivial ?_ rfl
  simp only [Try.ntmps42, List.size_toArray, List.length_cons, List.length_nil, Nat.reduceAdd, Nat.reduceSub, Array.replicate_succ, Array.replicate_zero, List.push_toArray, List.append_toArray, List.nil_append, List.cons_append]
  gi_wp2
  gi_loopg [3] 0 (fun mm _ wr => wr = W.alloc (.mapIter none 0 #[] 0))
  case atStart => rfl
  case round =>
    obtain rfl := hrel
    have hnx : ∀ ty, (Instr.next (.pointer (some ⟨W.heap.size, 0, none⟩)) false ty).run Try.prog (W.alloc (.mapIter none 0 #[] 0)) = .ok (.tuple #[.bool false]) (W.alloc (.mapIter none 0 #[] 0)) := fun ty => run_next_nilMap W ty 0 0 #[]
    gi_wp2
    go_end0
    exact ⟨⟨_, rfl⟩, .inl ⟨[], List.Perm.refl _, unhide hJ0⟩⟩
/-- What maps.Keys handed back: an iterator over the map's pages. -/
theorem keysPg_stops (n : Nat) (hn : 1 ≤ n) (Bm : Nat) {m : Option Nat} {L : List Pg} {w : World} (hB : Bk w Bm 24 [.map m]) (ho : SpO w m L) :
    SeqStopsK Fence.wide n Try.prog 42 #[.pointer (some ⟨Bm, 0, none⟩)] (fun x : Int × Int => #[pgVal x]) KeepsWalks (fun xs => xs.Perm (pgs L)) (fun _ => True) L.length w := fun l J Jx W hW hJ hJx hY h0 => by
  have K : Kp [] w W := Kp.ofBelow hW []
  have hm := (hB.kept K (by simp)).cell (i := 0) rfl
  have ho' := ho.kept K (by simp)
  cases m with
  | none =>
    have e : L = [] := ho
    subst e
    exact keysPg_nil n hn l Bm J Jx W hJ hm h0
  | some b => exact keysPg_in n hn l Bm b L J Jx hY W hJ hm ho' h0
theorem info_pg : ∃ i0, Try.prog.info? 30 = some i0 ∧ i0.zero = some (.agg #[.int .i64 0, .int .i64 0]) ∧ i0.size = 2 ∧ i0.bytes = 16 := by
  obtain ⟨i0, hi, hinf⟩ := Option.map_eq_some_iff.1 Try.infoPage
  simp only [Prod.mk.injEq] at hinf
  exact ⟨i0, hi, hinf.1, hinf.2.1, hinf.2.2⟩
theorem pg_two_cells (W : World) (a b : Value) : ∀ j u, ([a, b] : List Value)[j]? = some u → (W.alloc (.cells #[a, b] 30)).cell? ((⟨W.heap.size, 0, none⟩ : Addr).add j) = some u := by
  intro j u hu
  rw [Addr.add_mid, Nat.zero_add]
  exact (Bk.new W 30 [a, b]).cell hu
theorem Bk.own {β : Type} (B : Nat) (T : TypeId) (f : β → List Value) : Own (fun s W => Bk W B T (f s)) := fun s X Y row hs hg hrow => by
  refine (hg.block B hs.lt (fun e' => ?_)).trans hs
  obtain ⟨o, ho, hc⟩ := hrow B e'.symm
  rw [show X.heap[B]? = _ from hs] at ho
  cases ho
  cases hc
set_option maxRecDepth 100000 in
set_option maxHeartbeats 4000000 in
/-- slices.AppendSeq onto nothing, of whatever iterator over pages. -/
theorem appendPg_in (n : Nat) (hn : 3 ≤ n) (g : Nat) (lb : Array Value) (eg : ∀ args w, (callFunc g args).run Try.prog w = .ok (.enter g args) w)
    {S Sp : List (Int × Int) → Prop} {N : Nat} (hN : N ≤ 65536) (w : World) (hseq : SeqStopsK Fence.wide (n - 1) Try.prog g lb (fun x : Int × Int => #[pgVal x]) KeepsWalks S Sp N w) :
    CallsIn Fence.wide n Try.prog 47 #[.slice none 0 0, .func (.func g) #[] lb] w fun e w' => ∃ v xs, e = .returned v ∧ S xs ∧ Gr.Rw pageE w.heap.size w' v xs ∧ Below w.heap.size w w' := by
  have h1 : 1 ≤ n := by omega
  obtain ⟨i0, hi, hz0, hz1, hz2⟩ := info_pg
  refine callsIn_of_wp_marks Try.func47 rfl trivial ?_ rfl
  simp only [Try.ntmps47, List.size_toArray, List.length_cons, List.length_nil, Nat.reduceAdd, Nat.reduceSub, Array.replicate_succ, Array.replicate_zero, List.push_toArray, List.append_toArray, List.nil_append, List.cons_append]
  gi_wp2
  have bO := Boxed.new w 27 (.slice none 0 0)
  have hB0 : Below w.heap.size w (w.alloc (.cells #[.slice none 0 0] 27)) := (Below.refl _ w).alloc (Nat.le_refl _) _
  refine wpIn_rangeFunc_ownH rfl h1 (gf := g) (lb := lb) rfl trivial eg hseq walksK_t walksK_b hB0 (fun _ => rfl)
    (fun pre W => ((∃ v, Boxed W w.heap.size 27 v ∧ W.ownsRow w.heap.size 30 2 v pre.length (Gr.rows pageE pre) ∧ True) ∧ pre.length ≤ N) ∧ Below w.heap.size w W)
    (fun _ _ _ => False)
    (OwnFrom.and (OwnFrom.and (Own.from (holdsRow_own w.heap.size w.heap.size 27 30 2 (fun pre : List (Int × Int) => pre.length) (fun pre => Gr.rows pageE pre) (fun _ _ => True)) _) (ownFrom_pure _ _)) (ownFrom_below (Nat.le_refl _) (by simp)))
    (fun _ _ _ _ _ hs _ _ => hs)
    ⟨⟨⟨_, bO, World.ownsRow_nil _ _ _ _, trivial⟩, Nat.zero_le _⟩, hB0⟩
    (fun x a' W => ∃ Bx, w.heap.size < Bx ∧ Bk W Bx 30 [.int .i64 x.1, .int .i64 x.2] ∧ a' = { tmps := #[.slice none 0 0, .func (.func g) #[] lb, .pointer (some ⟨w.heap.size, 0, none⟩), undef, .slice none 0 0, .pointer (some ⟨Bx, 0, none⟩), .func (.func g) #[] lb, pgVal x, undef, undef, undef, undef, undef], defers := [] })
    (fun x a' _ X Y row hs hg hr => by obtain ⟨Bx, e1, e2, e3⟩ := hs; exact ⟨Bx, e1, Bk.own Bx _ (fun (_ : Unit) => [Value.int .i64 x.1, .int .i64 x.2]) () X Y row e2 hg (fun r e => (hr r e).2), e3⟩)
    ?assign ?body ?done ?stop
  case assign =>
    rintro l pre x W K ⟨⟨⟨v, hv, hrow, _⟩, hlen⟩, hB⟩ hK
    unfold pgVal
    gi_wp2
    exact hK _ _ ((KeepsOthers.alloc _ _).from _) (KeepsOthers.alloc _ _).walks ⟨⟨⟨v, hv.alloc _, hrow.alloc _, trivial⟩, hlen⟩, hB.alloc hB.size _⟩ ⟨W.heap.size, hv.lt, Bk.new W 30 [.int .i64 x.1, .int .i64 x.2], rfl⟩
  case body =>
    rintro l pre x a' W hl _ ⟨⟨⟨v, hv, hrow, _⟩, hlen⟩, hB⟩ ⟨Bx, hBx, hX, rfl⟩ hlt
    have hc := hv.cell
    have c0 := hX.cell (i := 0) rfl
    have c1 := hX.cell (i := 1) rfl
    unfold pgVal
    gi_wp2_with (gi_at_builtin; refine wpListIn_append_own _ rfl _ _ 27 rfl w.heap.size 30 i0 (.agg #[.int .i64 0, .int .i64 0]) 2 16 Try.underlying27 hi hz0 hz1 hz2 rfl (by decide) _ _ _ rfl (hrow.alloc _) ⟨W.heap.size, 0, none⟩ 1 1 [.int .i64 x.1, .int .i64 x.2] rfl rfl (pg_two_cells W _ _) (pageE.one x) (by unfold maxLen; omega) (by omega) (by have := hB.size; simp; omega) ?_; intro v' w1 hown' hgrow _; obtain ⟨g', cap', rfl⟩ := ownsRow_succ hown'; obtain ⟨hv1, hv2, hr2, hk2, hb2⟩ := hv.appended (by decide) hrow hB.size (Nat.le_refl _) hown' hgrow; have hc1 := hv1.cell; have hf1 := hv1.frozen)
    refine ⟨hk2.from _, hk2.walks, ⟨⟨⟨_, hv2, ?_, trivial⟩, by simp; omega⟩, hB.trans hb2⟩⟩
    rw [List.length_append, Gr.rows_app]
    simpa [Gr.rows, pageE] using hr2
  case done =>
    rintro D xs W hD hS ⟨⟨⟨v, hv, hrow, _⟩, hlen⟩, hB⟩ hK
    have hc := hv.cell
    gi_wp2
    refine ⟨by simp, .inl ⟨_, _, rfl, run_takeDeferred hK, ?_⟩⟩
    exact ⟨_, results_tmp rfl _ _ _, v, xs, rfl, hS, ownsRow_putObj hrow _ hK rfl, hB.trans (belowK_b (w := w) (Nat.le_refl _) W D _ _ (by simp at hD; omega) hK rfl rfl)⟩
  case stop =>
    rintro D c pre W _ _ h _
    exact h.elim
/-- What is told of new memory: a list of pages. -/
def SeqP (S : List (Int × Int) → Prop) (w : World) (e : Ending) (w' : World) : Prop := ∃ v xs, e = .returned v ∧ S xs ∧ Gr.Rw pageE w.heap.size w' v xs ∧ Below w.heap.size w w'
theorem appendPg_calls (g : Nat) (lb : Array Value) (eg : ∀ args w, (callFunc g args).run Try.prog w = .ok (.enter g args) w)
    {S Sp : List (Int × Int) → Prop} {N : Nat} (hN : N ≤ 65536) (w : World) (hseq : SeqStopsK Fence.wide 4 Try.prog g lb (fun x : Int × Int => #[pgVal x]) KeepsWalks S Sp N w) :
    Calls Try.prog 47 #[.slice none 0 0, .func (.func g) #[] lb] w (SeqP S w) :=
  (callsIn_wide (n := 5)).1 (appendPg_in 5 (by decide) g lb eg hN w hseq)
set_option maxHeartbeats 1000000 in
theorem collectPg_calls (g : Nat) (lb : Array Value) (eg : ∀ args w, (callFunc g args).run Try.prog w = .ok (.enter g args) w)
    {S Sp : List (Int × Int) → Prop} {N : Nat} (hN : N ≤ 65536) (w : World) (hseq : SeqStopsK Fence.wide 4 Try.prog g lb (fun x : Int × Int => #[pgVal x]) KeepsWalks S Sp N w) :
    Calls Try.prog 40 #[.func (.func g) #[] lb] w (SeqP S w) := by
  have hcon := appendPg_calls g lb eg hN w hseq
  clear hseq eg
  go_enter Try.func40, Try.ntmps40
  go_wp2_with fail
  refine hcon.mono ?_
  rintro e W1 ⟨v, xs, rfl, hS, hR, hB⟩
  replace hR := hide hR
  replace hS := hide hS
  replace hB := hide hB
  go_wp2
  go_ret
  exact ⟨v, xs, rfl, unhide hS, unhide hR, unhide hB⟩
set_option maxHeartbeats 1000000 in
theorem sortedPg_calls (g : Nat) (lb : Array Value) (eg : ∀ args w, (callFunc g args).run Try.prog w = .ok (.enter g args) w)
    {L : List Pg} {Sp : List (Int × Int) → Prop} {N : Nat} (hN : N ≤ 65536) (hL : L.length ≤ 65536) (hr : PgRises L) (w : World) (hseq : SeqStopsK Fence.wide 4 Try.prog g lb (fun x : Int × Int => #[pgVal x]) KeepsWalks (fun xs => xs.Perm (pgs L)) Sp N w) :
    Calls Try.prog 28 #[.func (.func g) #[] lb, .func (.func 30) #[] #[]] w (ListG w (pgs L)) := by
  have hcon := collectPg_calls g lb eg hN w hseq
  have hrs := hide (pgs_rises hr)
  clear hseq eg hr
  go_enter Try.func28, Try.ntmps28
  go_wp2_with fail
  refine hcon.mono ?_
  rintro e W1 ⟨v, xs, rfl, hS, hR, hB⟩
  have hlen : xs.length ≤ 65536 := by rw [hS.length_eq, pgs_len]; exact hL
  have hso := hide (pgsort_is hS (unhide hrs))
  have K1 := hide (Kp.ofBelow hB [])
  obtain ⟨a, c, rfl⟩ := hR.form
  replace hR := hide hR
  replace hlen := hide hlen
  clear hS hB hrs
  go_wp2_with fail
  refine (sortG_calls (unhide hR) (unhide K1) (unhide hlen)).mono ?_
  rintro e W2 ⟨rfl, hR2, K2⟩
  rw [unhide hso] at hR2
  replace hR2 := hide hR2
  replace K2 := hide K2
  clear hR K1
  go_wp2
  go_ret
  exact ⟨_, rfl, unhide hR2, unhide K2⟩
set_option maxHeartbeats 1000000 in
theorem mkeysPg_calls (m : Option Nat) (w : World) :
    Calls Try.prog 29 #[.map m] w fun e w' => e = .returned (.func (.func 42) #[] #[.pointer (some ⟨w.heap.size, 0, none⟩)]) ∧ w' = w.alloc (.cells #[.map m] 24) := by
  go_enter Try.func29, Try.ntmps29
  go_wp2
  go_ret
  exact ⟨rfl, rfl⟩
set_option maxHeartbeats 1000000 in
theorem sall_calls {w : World} {y : Nat} {m : Option Nat} {L : List Pg} (h : SP w y m L) :
    Calls Try.prog 12 #[.pointer (some ⟨y, 0, none⟩)] w (ListG w (pgs L)) := by
  have c0 := h.head.cell (i := 0) rfl
  have eg : ∀ args w, (callFunc 42 args).run Try.prog w = .ok (.enter 42 args) w := enters_of Try.func42 (by kernel_rfl) rfl
  have K1 := (Kp.refl [] w).alloc (.cells #[.map m] 24)
  have hcon := sortedPg_calls _ #[.pointer (some ⟨w.heap.size, 0, none⟩)] eg h.small h.small h.rises (w.alloc (.cells #[.map m] 24)) (keysPg_stops 4 (by decide) w.heap.size (Bk.new w 24 [.map m]) (h.mo.kept K1 (by simp)))
  have hk := hide (mkeysPg_calls m w)
  have hsz : w.heap.size ≤ (w.alloc (.cells #[.map m] 24)).heap.size := by simp
  replace K1 := hide K1
  replace hcon := hide hcon
  replace hsz := hide hsz
  clear h eg
  go_enter Try.func12, Try.ntmps12
  go_wp2_with fail
  refine (unhide hk).mono ?_
  rintro e W1 ⟨rfl, hW1⟩
  rw [← hW1] at hcon K1 hsz
  clear hW1
  go_wp2_with fail
  refine (unhide hcon).mono ?_
  rintro e W2 ⟨v, rfl, hR, K2⟩
  have hR2 := hide (hR.mono (unhide hsz))
  have K3 := hide ((unhide K1).then K2)
  clear hR K2 hcon
  go_wp2
  go_ret
  exact ⟨v, rfl, unhide hR2, unhide K3⟩
end Go.Proofs.Ytlallciikcmjmaa
