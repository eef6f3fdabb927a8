/- The program's maps of pages (space.Maps): a map keyed by pages, as the list of its pages, rising. -/
import Derived.Test.YtlallciikcmjmaaKMapG
import Derived.Test.YtlallciikcmjmaaKMaps3
namespace Go.Proofs.Ytlallciikcmjmaa
open Go.RowKit
set_option linter.unusedVariables false
def pgVal (q : Int × Int) : Value := .agg #[.int .i64 q.1, .int .i64 q.2]
theorem pgVal_inj {q q' : Int × Int} (h : pgVal q = pgVal q') : q = q' := by
  unfold pgVal at h
  simp at h
  exact Prod.ext h.1 h.2
def PgIn (q : Int × Int) : Prop := (Lit.int .i64 q.1).wf = true ∧ (Lit.int .i64 q.2).wf = true
theorem pgIn_of {s p : Int} (h1 : -9223372036854775808 ≤ s ∧ s ≤ 9223372036854775807) (h2 : -9223372036854775808 ≤ p ∧ p ≤ 9223372036854775807) : PgIn (s, p) := ⟨WalkArith.wf_i64 (by omega), WalkArith.wf_i64 (by omega)⟩
theorem Try.laidOutPg : laidOutB Try.prog = true := by kernel_rfl
theorem Try.rowPg : (30 : TypeId) < Try.prog.types.size := of_decide_eq_true (by kernel_rfl)
theorem Try.keyAtPg : Try.prog.keyTypeAt 2 30 = true := by kernel_rfl
theorem Try.threePg : 2 + 1 ≤ 10000 := of_decide_eq_true (by kernel_rfl)
theorem Try.lawPg : WideMaps.KeyLaw Try.prog 30 := deep_law_laid (m := 2) Try.laidOutPg Try.threePg Try.rowPg Try.keyAtPg (by rw [Try.underlying30])
theorem Try.keyTypePg : Try.prog.keyType 30 = true := by kernel_rfl
theorem Try.cellsPg : Try.prog.cellsOf 30 = 2 := by kernel_rfl
theorem Try.cellsIPg : Try.prog.cellsOf 3 = 1 := by kernel_rfl
theorem pg_more1 {k n : Nat} (h : k < n) : ∃ m, n = m + 1 := ⟨n - 1, by omega⟩
theorem Try.sizeTPg : ∃ m, Try.prog.types.size = m + 1 := pg_more1 Try.rowPg
theorem key_ofPg {q : Int × Int} (h : PgIn q) : ∃ l, keyOf Try.prog 30 (pgVal q) = some l := by
  obtain ⟨m, hm⟩ := Try.sizeTPg
  obtain ⟨h1, h2⟩ := h
  have hf : (pgVal q).formed Try.prog 30 = true := by unfold pgVal; simp [Value.formed, Try.underlying30, Try.cellsPg]
  have hk : ∃ ls, Try.prog.keyLits (Try.prog.types.size + 1) 30 (pgVal q).cells.toList = some ls := by
    rw [hm]
    refine ⟨[.int .i64 q.1, .int .i64 q.2], ?_⟩
    unfold pgVal
    simp [Program.keyLits, Try.underlying30, Try.underlying3, Try.cellsPg, Try.cellsIPg, Value.cells, h1, h2]
  obtain ⟨ls, hls⟩ := hk
  refine ⟨.string (keyBytes ls), ?_⟩
  unfold keyOf
  rw [Try.underlying30]
  simp only [Try.keyTypePg, hf, Bool.and_self, if_true, hls, Option.map_some]
/-- A page as a key. -/
def pgK : Gm.Key 30 (Int × Int) := ⟨pgVal, PgIn, pgVal_inj, Try.lawPg, key_ofPg⟩
def kvPg (x : Pg) : (Int × Int) × Value := ((x.s, x.p), .agg #[.int .i64 x.f, .int .i64 x.r])
/-- The map has just these. -/
def SpO (w : World) (m : Option Nat) (L : List Pg) : Prop := match m with | none => L = [] | some b => Gm.Mp pgK w b (L.map kvPg)
theorem SpO.kept {S : List Nat} {w w' : World} {m : Option Nat} {L : List Pg} (h : SpO w m L) (k : Kp S w w') (hm : ∀ b, m = some b → b ∉ S) : SpO w' m L := by
  cases m with
  | none => exact h
  | some b => exact Gm.Mp.kept h k (hm b rfl)
theorem SpO.lt {w : World} {b : Nat} {L : List Pg} (h : SpO w (some b) L) : b < w.heap.size := Gm.Mp.lt h
theorem SpO.noc {w : World} {b : Nat} {L : List Pg} (h : SpO w (some b) L) : ∀ c T z, w.heap[b]? ≠ some (.cells c T z) := by
  intro c T z q
  obtain ⟨es, clock, hb, _⟩ := h
  rw [hb] at q
  cases q
theorem SpO.perm {w : World} {b : Nat} {L : List Pg} {G : List ((Int × Int) × Value)} (h : Gm.Mp pgK w b G) (p : G.Perm (L.map kvPg)) : SpO w (some b) L := Gm.Mp.perm h p
/-- Rising: each ahead of those behind it. -/
def PgRises (L : List Pg) : Prop := L.Pairwise fun x y => pgBef x.s x.p y.s y.p = true
theorem pgBef_iff (s p s' p' : Int) : pgBef s p s' p' = true ↔ s < s' ∨ s = s' ∧ p < p' := by unfold pgBef; simp
theorem pgBef_no (s p s' p' : Int) : pgBef s p s' p' = false ↔ ¬ (s < s' ∨ s = s' ∧ p < p') := by rw [← pgBef_iff]; simp
/-- What can be of a page, of a frame. -/
def pageOk (s p : Int) : Bool := unitOk s && (decide (0 ≤ p) && decide (p < 8))
def mapOk (f r : Int) : Bool := unitOk f && (decide (1 ≤ r) && decide (r ≤ 3))
theorem pageOk_in {s p : Int} (h : pageOk s p = true) : PgIn (s, p) := by
  unfold pageOk at h
  rw [Bool.and_eq_true, unitOk_iff, Bool.and_eq_true, decide_eq_true_iff, decide_eq_true_iff] at h
  unfold unitP at h
  exact pgIn_of (by omega) (by omega)
theorem setP_iff {L : List Pg} {s p f r : Int} : setP L s p f r ↔ pageOk s p = true ∧ mapOk f r = true ∧ pgAt L s p = none := by
  unfold setP pageOk mapOk
  simp only [Bool.and_eq_true, decide_eq_true_iff, unitOk_iff]
  exact ⟨fun h => ⟨⟨h.2.1, h.1⟩, ⟨h.2.2.1, h.2.2.2.1⟩, h.2.2.2.2⟩, fun h => ⟨h.1.2, h.1.1, h.2.1.1, h.2.1.2, h.2.2⟩⟩
/-- The program's maps at a block. -/
structure SP (w : World) (y : Nat) (m : Option Nat) (L : List Pg) : Prop where
  head : Bk w y 26 [.map m]
  mo : SpO w m L
  rises : PgRises L
  ok : ∀ x ∈ L, pageOk x.s x.p = true
  small : L.length ≤ 65536
theorem SP.kept {S : List Nat} {w w' : World} {y : Nat} {m : Option Nat} {L : List Pg} (h : SP w y m L) (k : Kp S w w') (hy : y ∉ S) (hm : ∀ b, m = some b → b ∉ S) : SP w' y m L := ⟨h.head.kept k hy, h.mo.kept k hm, h.rises, h.ok, h.small⟩
theorem SP.grew {w w' : World} {y : Nat} {m : Option Nat} {L : List Pg} (h : SP w y m L) (k : Kp [] w w') : SP w' y m L := h.kept k (by simp) (by simp)
theorem SP.new (w : World) : SP (w.alloc (.cells #[.map none] 26)) w.heap.size none [] := ⟨Bk.new w 26 [.map none], rfl, List.Pairwise.nil, by simp, by simp⟩
theorem SP.ne {w : World} {y : Nat} {m : Option Nat} {L : List Pg} (h : SP w y m L) : ∀ b, m = some b → b ≠ y := fun b e q => by
  subst e q
  exact h.mo.noc _ _ _ h.head
theorem SP.lt {w : World} {y : Nat} {m : Option Nat} {L : List Pg} (h : SP w y m L) : ∀ b, m = some b → b < w.heap.size := fun b e => by
  subst e
  exact h.mo.lt
theorem pgGet_mem {L : List Pg} {s p : Int} {x : Pg} (h : pgGet L s p = some x) : x ∈ L ∧ x.s = s ∧ x.p = p := by
  obtain ⟨i, h1, h2⟩ := pgGet_some h
  obtain ⟨y, hy, e1, e2⟩ := pgAt_some h1
  rw [h2] at hy
  cases hy
  exact ⟨List.mem_of_getElem? h2, e1, e2⟩
theorem pgAt_none {L : List Pg} {s p : Int} : pgAt L s p = none ↔ ∀ x ∈ L, ¬ (x.s = s ∧ x.p = p) := by
  unfold pgAt
  rw [List.findIdx?_eq_none_iff]
  constructor
  · intro h x hx e
    have := h x hx
    simp [e.1, e.2] at this
  · intro h x hx
    have := h x hx
    simp
    intro e1 e2
    exact this ⟨e1, e2⟩
theorem pg_miss {L : List Pg} {s p : Int} (h : pgAt L s p = none) : ∀ q ∈ L.map kvPg, q.1 ≠ (s, p) := by
  intro q hq e
  obtain ⟨x, hx, rfl⟩ := List.mem_map.1 hq
  have e' : (x.s, x.p) = (s, p) := e
  simp at e'
  exact pgAt_none.1 h x hx e'
/-- What a look-up gives. -/
def mapV (o : Option Pg) : Value := match o with | some x => .agg #[.int .i64 x.f, .int .i64 x.r] | none => .agg #[.int .i64 0, .int .i64 0]
theorem mapV_form (o : Option Pg) : ∃ f r : Int, mapV o = .agg #[.int .i64 f, .int .i64 r] := by
  cases o with
  | none => exact ⟨0, 0, rfl⟩
  | some x => exact ⟨_, _, rfl⟩
theorem Try.zeroMap1 (w : World) : (zeroValue 34).run Try.prog w = .ok (.agg #[.int .i64 0, .int .i64 0]) w := by kernel_rfl
theorem SpO.look {w : World} {m : Option Nat} {L : List Pg} (h : SpO w m L) {s p : Int} (hi : PgIn (s, p)) (c : Bool) :
    (Instr.lookup 24 (.map m) (.agg #[.int .i64 s, .int .i64 p]) c).run Try.prog w = .ok (Gm.lookV c (mapV (pgGet L s p)) (pgGet L s p).isSome) w := by
  cases m with
  | none =>
    have e : L = [] := h
    subst e
    exact Gm.look_nil (K := pgK) Try.underlying24 (Try.zeroMap1 w) (q := (s, p)) hi c
  | some b =>
    cases hg : pgGet L s p with
    | none => exact Gm.Mp.miss h Try.underlying24 (Try.zeroMap1 w) (q := (s, p)) hi (pg_miss (pgGet_none hg)) c
    | some x =>
      obtain ⟨hx, e1, e2⟩ := pgGet_mem hg
      subst e1 e2
      exact Gm.Mp.hit h Try.underlying24 (q := (x.s, x.p)) (v := .agg #[.int .i64 x.f, .int .i64 x.r]) (List.mem_map.2 ⟨x, hx, rfl⟩) c
theorem box_pg {w w' : World} {s p : Int} (K : Kp [] (w.alloc (.cells #[.int .i64 s, .int .i64 p] 30)) w') : Bk w' w.heap.size 30 [.int .i64 s, .int .i64 p] ∧ Kp [] w w' :=
  ⟨(Bk.new w 30 [.int .i64 s, .int .i64 p]).kept K (by simp), ((Kp.refl [] w).alloc _).then K⟩
set_option maxHeartbeats 400000 in
theorem sunit_calls (n : Int) (w : World) :
    Calls Try.prog 39 #[.int .i64 n] w fun e w' => e = .returned (.bool (unitOk n)) ∧ Kp [] w w' := by
  obtain ⟨v1, h1⟩ : ∃ v, decide (1 ≤ n) = v := ⟨_, rfl⟩
  have HE := hide (show (v1 && decide (n ≤ 64)) = unitOk n from by rw [← h1]; refine Bool.eq_iff_iff.2 ?_; rw [unitOk_iff]; simp [unitP])
  cases v1 <;>
  · go_enter Try.func39, Try.ntmps39
    go_wp2
    go_ret
    exact ⟨ret_bool (unhide HE), Kp.refl _ _⟩
theorem sunit_to {n : Int} {v : Bool} (w : World) (h : unitOk n = v) :
    Calls Try.prog 39 #[.int .i64 n] w fun e w' => e = .returned (.bool v) ∧ Kp [] w w' := by subst h; exact sunit_calls n w
set_option maxHeartbeats 400000 in
theorem spage_calls (s p : Int) (w : World) :
    Calls Try.prog 26 #[.agg #[.int .i64 s, .int .i64 p]] w fun e w' => e = .returned (.bool (pageOk s p)) ∧ Kp [] w w' := by
  obtain ⟨v1, h1⟩ : ∃ v, unitOk s = v := ⟨_, rfl⟩
  obtain ⟨v2, h2⟩ : ∃ v, decide (0 ≤ p) = v := ⟨_, rfl⟩
  have HE := hide (show (v1 && (v2 && decide (p < 8))) = pageOk s p from by rw [← h1, ← h2]; rfl)
  have B0 := hide (Bk.new w 30 [.int .i64 s, .int .i64 p])
  have K0 := hide ((Kp.refl [] w).alloc (.cells #[.int .i64 s, .int .i64 p] 30))
  replace h1 := hide h1
  cases v1
  · clear h2
    go_enter Try.func26, Try.ntmps26
    go_wp2_with fail
    refine (sunit_to _ (unhide h1)).mono ?_
    rintro e W1 ⟨rfl, K1⟩
    replace K1 := hide K1
    go_wp2
    go_ret
    exact ⟨ret_bool (unhide HE), (unhide K0).then (unhide K1)⟩
  cases v2 <;>
  · go_enter Try.func26, Try.ntmps26
    go_wp2_with fail
    refine (sunit_to _ (unhide h1)).mono ?_
    rintro e W1 ⟨rfl, K1⟩
    have B1 := (unhide B0).kept K1 (by simp)
    have c0 := B1.cell (i := 0) rfl
    have c1 := B1.cell (i := 1) rfl
    clear B1
    replace K1 := hide K1
    go_wp2
    go_ret
    exact ⟨ret_bool (unhide HE), (unhide K0).then (unhide K1)⟩
theorem spage_to {s p : Int} {v : Bool} (w : World) (h : pageOk s p = v) :
    Calls Try.prog 26 #[.agg #[.int .i64 s, .int .i64 p]] w fun e w' => e = .returned (.bool v) ∧ Kp [] w w' := by subst h; exact spage_calls s p w
set_option maxHeartbeats 400000 in
theorem smap_calls (f r : Int) (w : World) :
    Calls Try.prog 27 #[.agg #[.int .i64 f, .int .i64 r]] w fun e w' => e = .returned (.bool (mapOk f r)) ∧ Kp [] w w' := by
  obtain ⟨v1, h1⟩ : ∃ v, unitOk f = v := ⟨_, rfl⟩
  obtain ⟨v2, h2⟩ : ∃ v, decide (1 ≤ r) = v := ⟨_, rfl⟩
  have HE := hide (show (v1 && (v2 && decide (r ≤ 3))) = mapOk f r from by rw [← h1, ← h2]; rfl)
  have B0 := hide (Bk.new w 34 [.int .i64 f, .int .i64 r])
  have K0 := hide ((Kp.refl [] w).alloc (.cells #[.int .i64 f, .int .i64 r] 34))
  replace h1 := hide h1
  cases v1
  · clear h2
    go_enter Try.func27, Try.ntmps27
    go_wp2_with fail
    refine (sunit_to _ (unhide h1)).mono ?_
    rintro e W1 ⟨rfl, K1⟩
    replace K1 := hide K1
    go_wp2
    go_ret
    exact ⟨ret_bool (unhide HE), (unhide K0).then (unhide K1)⟩
  cases v2 <;>
  · go_enter Try.func27, Try.ntmps27
    go_wp2_with fail
    refine (sunit_to _ (unhide h1)).mono ?_
    rintro e W1 ⟨rfl, K1⟩
    have B1 := (unhide B0).kept K1 (by simp)
    have c0 := B1.cell (i := 0) rfl
    have c1 := B1.cell (i := 1) rfl
    clear B1
    replace K1 := hide K1
    go_wp2
    go_ret
    exact ⟨ret_bool (unhide HE), (unhide K0).then (unhide K1)⟩
theorem smap_to {f r : Int} {v : Bool} (w : World) (h : mapOk f r = v) :
    Calls Try.prog 27 #[.agg #[.int .i64 f, .int .i64 r]] w fun e w' => e = .returned (.bool v) ∧ Kp [] w w' := by subst h; exact smap_calls f r w
set_option maxRecDepth 4000 in
set_option maxHeartbeats 1000000 in
theorem sget_calls {w : World} {y : Nat} {m : Option Nat} {L : List Pg} (h : SP w y m L) {s p : Int} (hi : PgIn (s, p)) :
    Calls Try.prog 20 #[.pointer (some ⟨y, 0, none⟩), .agg #[.int .i64 s, .int .i64 p]] w fun e w' => e = .returned (.tuple #[mapV (pgGet L s p), .bool (pgGet L s p).isSome]) ∧ Kp [] w w' := by
  obtain ⟨f, r, hV⟩ := mapV_form (pgGet L s p)
  obtain ⟨is, hIs⟩ : ∃ is, (pgGet L s p).isSome = is := ⟨_, rfl⟩
  have hS : Hid (∀ w', Kp [] (w.alloc (.cells #[.int .i64 s, .int .i64 p] 30)) w' → w'.cell? ⟨y, 0, none⟩ = some (.map m) ∧ w'.cell? ⟨w.heap.size, 0, none⟩ = some (.int .i64 s) ∧ w'.cell? ⟨w.heap.size, 1, none⟩ = some (.int .i64 p) ∧ (Instr.lookup 24 (.map m) (.agg #[.int .i64 s, .int .i64 p]) true).run Try.prog w' = .ok (.tuple #[.agg #[.int .i64 f, .int .i64 r], .bool is]) w') := fun w' K => by
    obtain ⟨B, K1⟩ := box_pg K
    have P1 := h.grew K1
    refine ⟨P1.head.cell rfl, B.cell rfl, B.cell rfl, ?_⟩
    have h9 := P1.mo.look hi true
    rw [hV, hIs] at h9
    exact h9
  rw [hIs, hV]
  have K0 := hide ((Kp.refl [] (w.alloc (.cells #[.int .i64 s, .int .i64 p] 30))).alloc (.cells #[.int .i64 0, .int .i64 0] 34))
  have KW := hide (((Kp.refl [] w).alloc (.cells #[.int .i64 s, .int .i64 p] 30)).alloc (.cells #[.int .i64 0, .int .i64 0] 34))
  clear h hV hIs
  go_enter Try.func20, Try.ntmps20
  go_wp2_with fail
  have BR := hide (Gr.bk_next (p := w.heap.size + 1) (w.alloc (.cells #[.int .i64 s, .int .i64 p] 30)) 34 [.int .i64 0, .int .i64 0] (by simp))
  have hw1 : ((w.alloc (.cells #[.int .i64 s, .int .i64 p] 30)).alloc (.cells #[.int .i64 0, .int .i64 0] 34)).heap.size = w.heap.size + 2 := by simp
  generalize (w.alloc (.cells #[.int .i64 s, .int .i64 p] 30)).alloc (.cells #[.int .i64 0, .int .i64 0] 34) = w1 at *
  go_region_held3 (fun w' => w'.cell? ⟨y, 0, none⟩ = some (.map m) ∧ w'.cell? ⟨w.heap.size, 0, none⟩ = some (.int .i64 s) ∧ w'.cell? ⟨w.heap.size, 1, none⟩ = some (.int .i64 p) ∧ (Instr.lookup 24 (.map m) (.agg #[.int .i64 s, .int .i64 p]) true).run Try.prog w' = .ok (.tuple #[.agg #[.int .i64 f, .int .i64 r], .bool is]) w') (first | exact unhide hS _ ((unhide K0).drew) | exact unhide hS _ (((unhide K0).alloc _).drew)) (fail)
  all_goals
    have f0 := (unhide BR).frozen
    have e0 := (unhide BR).cell (i := 0) rfl
    have e1 := (unhide BR).cell (i := 1) rfl
    go_wp2
    refine bodyPost_ret (v := .tuple #[.agg #[.int .i64 f, .int .i64 r], .bool is]) (by simp [results, Try.results20, go_sem, *]) rfl ⟨rfl, ?_⟩
    exact ((two_st (unhide KW) (by simp) _ _).alloc _).drew
end Go.Proofs.Ytlallciikcmjmaa
