/- The document's maps: Set. -/
import Derived.Test.YtlallciikcmjmaaKMaps2
namespace Go.Proofs.Ytlallciikcmjmaa
open Go.RowKit
set_option linter.unusedVariables false
/-- May it be set? -/
def setP (L : List Pg) (s p f r : Int) : Prop := (0 ≤ p ∧ p < 8) ∧ unitP s ∧ unitP f ∧ (1 ≤ r ∧ r ≤ 3) ∧ pgAt L s p = none
def pgBef (s p s' p' : Int) : Bool := decide (s < s') || (s == s' && decide (p < p'))
/-- Set in at its place. -/
def pgIns (L : List Pg) (x : Pg) : List Pg := L.takeWhile (fun y => pgBef y.s y.p x.s x.p) ++ x :: L.dropWhile (fun y => pgBef y.s y.p x.s x.p)
/-- The two that are handed in, in blocks of their own. -/
structure Gx (w wx : World) (s p f r : Int) : Prop where
  kp : Kp [] w wx
  p : Bk wx w.heap.size 30 [.int .i64 s, .int .i64 p]
  f : Bk wx (w.heap.size + 1) 34 [.int .i64 f, .int .i64 r]
theorem Gx.kept {w wx wy : World} {s p f r : Int} (h : Gx w wx s p f r) (kp : Kp [] wx wy) : Gx w wy s p f r := ⟨h.kp.then kp, h.p.kept kp (by simp), h.f.kept kp (by simp)⟩
theorem Gx.start (w : World) (s p f r : Int) : Gx w ((w.alloc (.cells #[.int .i64 s, .int .i64 p] 30)).alloc (.cells #[.int .i64 f, .int .i64 r] 34)) s p f r :=
  ⟨((Kp.refl [] w).alloc _).alloc _, (Bk.new w _ [.int .i64 s, .int .i64 p]).alloc _, Gr.bk_next _ _ [.int .i64 f, .int .i64 r] (by simp)⟩
theorem Gx.cells {w wx : World} {s p f r : Int} (h : Gx w wx s p f r) : wx.cell? ⟨w.heap.size, 0, none⟩ = some (.int .i64 s) ∧ wx.cell? ⟨w.heap.size, 1, none⟩ = some (.int .i64 p) ∧ wx.cell? ⟨w.heap.size + 1, 0, none⟩ = some (.int .i64 f) ∧ wx.cell? ⟨w.heap.size + 1, 1, none⟩ = some (.int .i64 r) :=
  ⟨h.p.cell rfl, h.p.cell rfl, h.f.cell rfl, h.f.cell rfl⟩
theorem pgI_there {L : List Pg} {s p : Int} (h : pgAt L s p ≠ none) : ∃ i : Nat, pgI L s p = (i : Int) := by
  cases e : pgAt L s p with
  | none => exact (h e).elim
  | some i => exact ⟨i, pgI_some e⟩
set_option maxHeartbeats 1000000 in
theorem rpset_no {base : Nat} {w : World} {y : Nat} {a : Option Addr} {cap : Nat} {L : List Pg} (h : RP base w y a cap L) {s p f r : Int} (hn : ¬ setP L s p f r) :
    Calls Try.prog 19 #[.pointer (some ⟨y, 0, none⟩), .agg #[.int .i64 s, .int .i64 p], .agg #[.int .i64 f, .int .i64 r]] w fun e w' => e = .returned (.bool false) ∧ Kp [] w w' := by
  have H := hide h
  have X0 := hide (Gx.start w s p f r)
  clear h
  by_cases q1 : p < 0
  · clear hn
    go_enter Try.func19, Try.ntmps19
    go_wp2
    go_ret
    exact ⟨rfl, (unhide X0).kp⟩
  have d1 : decide (p < 0) = false := decide_eq_false q1
  by_cases q2 : 8 ≤ p
  · clear hn
    go_enter Try.func19, Try.ntmps19
    go_wp2
    go_ret
    exact ⟨rfl, (unhide X0).kp⟩
  have d2 : decide (8 ≤ p) = false := decide_eq_false q2
  obtain ⟨v1, h1⟩ : ∃ q, unitOk s = q := ⟨_, rfl⟩
  have h1' := hide h1
  cases v1
  · clear hn q1 q2 h1
    go_enter Try.func19, Try.ntmps19
    go_wp2_with fail
    refine (runit_to _ (unhide h1')).mono ?_
    rintro e W1 ⟨rfl, K1⟩
    replace X0 := hide ((unhide X0).kept K1)
    have c1 := (unhide X0).cells
    clear K1
    go_wp2
    go_ret
    exact ⟨rfl, (unhide X0).kp⟩
  obtain ⟨v2, h2⟩ : ∃ q, unitOk f = q := ⟨_, rfl⟩
  have h2' := hide h2
  cases v2
  · clear hn q1 q2 h1 h2
    go_enter Try.func19, Try.ntmps19
    go_wp2_with fail
    refine (runit_to _ (unhide h1')).mono ?_
    rintro e W1 ⟨rfl, K1⟩
    replace X0 := hide ((unhide X0).kept K1)
    have c1 := (unhide X0).cells
    clear K1
    go_wp2_with fail
    refine (runit_to _ (unhide h2')).mono ?_
    rintro e W2 ⟨rfl, K1⟩
    replace X0 := hide ((unhide X0).kept K1)
    clear c1
    have c1 := (unhide X0).cells
    clear K1
    go_wp2
    go_ret
    exact ⟨rfl, (unhide X0).kp⟩
  by_cases q3 : r < 1
  · clear hn q1 q2 h1 h2
    go_enter Try.func19, Try.ntmps19
    go_wp2_with fail
    refine (runit_to _ (unhide h1')).mono ?_
    rintro e W1 ⟨rfl, K1⟩
    replace X0 := hide ((unhide X0).kept K1)
    have c1 := (unhide X0).cells
    clear K1
    go_wp2_with fail
    refine (runit_to _ (unhide h2')).mono ?_
    rintro e W2 ⟨rfl, K1⟩
    replace X0 := hide ((unhide X0).kept K1)
    clear c1
    have c1 := (unhide X0).cells
    clear K1
    go_wp2
    go_ret
    exact ⟨rfl, (unhide X0).kp⟩
  have d3 : decide (r < 1) = false := decide_eq_false q3
  by_cases q4 : 3 < r
  · clear hn q1 q2 q3 h1 h2
    go_enter Try.func19, Try.ntmps19
    go_wp2_with fail
    refine (runit_to _ (unhide h1')).mono ?_
    rintro e W1 ⟨rfl, K1⟩
    replace X0 := hide ((unhide X0).kept K1)
    have c1 := (unhide X0).cells
    clear K1
    go_wp2_with fail
    refine (runit_to _ (unhide h2')).mono ?_
    rintro e W2 ⟨rfl, K1⟩
    replace X0 := hide ((unhide X0).kept K1)
    clear c1
    have c1 := (unhide X0).cells
    clear K1
    go_wp2
    go_ret
    exact ⟨rfl, (unhide X0).kp⟩
  have d4 : decide (3 < r) = false := decide_eq_false q4
  obtain ⟨i, hi⟩ := pgI_there (L := L) (s := s) (p := p) (fun e => hn ⟨⟨by omega, by omega⟩, (unitOk_iff s).1 h1, (unitOk_iff f).1 h2, ⟨by omega, by omega⟩, e⟩)
  have hi' := hide hi
  have d5 : decide (0 ≤ (i : Int)) = true := decide_eq_true (by omega)
  clear hn q1 q2 q3 q4 h1 h2 hi
  go_enter Try.func19, Try.ntmps19
  go_wp2_with fail
  refine (runit_to _ (unhide h1')).mono ?_
  rintro e W1 ⟨rfl, K1⟩
  replace X0 := hide ((unhide X0).kept K1)
  have c1 := (unhide X0).cells
  clear K1
  go_wp2_with fail
  refine (runit_to _ (unhide h2')).mono ?_
  rintro e W2 ⟨rfl, K1⟩
  replace X0 := hide ((unhide X0).kept K1)
  clear c1
  have c1 := (unhide X0).cells
  clear K1
  go_wp2_with fail
  refine (rpat_to ((unhide H).grew (unhide X0).kp) (unhide hi')).mono ?_
  rintro e W3 ⟨rfl, K1⟩
  replace X0 := hide ((unhide X0).kept K1)
  clear c1
  have c1 := (unhide X0).cells
  clear K1
  go_wp2
  go_ret
  exact ⟨rfl, (unhide X0).kp⟩
/-- How many go ahead of a page. -/
def pgAhead (L : List Pg) (s p : Int) : Nat := (L.takeWhile fun y => pgBef y.s y.p s p).length
theorem pgAhead_le (L : List Pg) (s p : Int) : pgAhead L s p ≤ L.length := by
  unfold pgAhead
  have := List.takeWhile_append_dropWhile (p := fun y : Pg => pgBef y.s y.p s p) (l := L)
  rw [← congrArg List.length this, List.length_append]; omega
theorem pgAhead_ins (L : List Pg) (x : Pg) : L.take (pgAhead L x.s x.p) ++ [x] ++ L.drop (pgAhead L x.s x.p) = pgIns L x := by
  have h := List.takeWhile_append_dropWhile (p := fun y : Pg => pgBef y.s y.p x.s x.p) (l := L)
  have h1 : L.take (pgAhead L x.s x.p) = L.takeWhile (fun y => pgBef y.s y.p x.s x.p) := by rw [← congrArg (List.take (pgAhead L x.s x.p)) h]; exact List.take_left
  have h2 : L.drop (pgAhead L x.s x.p) = L.dropWhile (fun y => pgBef y.s y.p x.s x.p) := by rw [← congrArg (List.drop (pgAhead L x.s x.p)) h]; exact List.drop_left
  unfold pgIns
  rw [h1, h2, List.append_assoc]
  rfl
theorem pgAhead_cons (y : Pg) (L : List Pg) (s p : Int) : pgAhead (y :: L) s p = if pgBef y.s y.p s p = true then pgAhead L s p + 1 else 0 := by
  unfold pgAhead
  rw [List.takeWhile_cons]
  split <;> simp
theorem pgAhead_is {L : List Pg} {s p : Int} {j : Nat} (hj : j ≤ L.length) (h : ∀ l, l < j → ∀ y, L[l]? = some y → pgBef y.s y.p s p = true) (he : ∀ y, L[j]? = some y → pgBef y.s y.p s p = false) : pgAhead L s p = j := by
  induction L generalizing j with
  | nil => simp at hj; subst hj; rfl
  | cons y L ih =>
    rw [pgAhead_cons]
    cases j with
    | zero => rw [he y rfl]; rfl
    | succ j =>
      rw [if_pos (h 0 (by omega) y rfl), ih (by simpa using hj) (fun l hl z hz => h (l + 1) (by omega) z (by simpa using hz)) (fun z hz => he z (by simpa using hz))]
theorem pg_ahead {L : List Pg} {s p : Int} {j : Nat} {x : Pg} (h : ∀ l, l < j → ∀ y, L[l]? = some y → pgBef y.s y.p s p = true) (hx : L[j]? = some x) (hb : pgBef x.s x.p s p = true) : ∀ l, l < j + 1 → ∀ y, L[l]? = some y → pgBef y.s y.p s p = true := by
  intro l hl y hy
  by_cases e : l = j
  · subst e; rw [hx] at hy; cases hy; exact hb
  · exact h l (by omega) y hy
theorem pgIns_len {L : List Pg} {x : Pg} : (pgIns L x).length = L.length + 1 := by
  unfold pgIns
  have := congrArg List.length (List.takeWhile_append_dropWhile (p := fun y : Pg => pgBef y.s y.p x.s x.p) (l := L))
  rw [List.length_append] at this
  rw [List.length_append, List.length_cons]
  omega
set_option maxHeartbeats 4000000 in
set_option maxRecDepth 20000 in
theorem rpset_yes {base : Nat} {w : World} {y : Nat} {a : Option Addr} {cap : Nat} {L : List Pg} (h : RP base w y a cap L) {s p f r : Int} (hp : setP L s p f r) (hL : L.length < 65536) :
    Calls Try.prog 19 #[.pointer (some ⟨y, 0, none⟩), .agg #[.int .i64 s, .int .i64 p], .agg #[.int .i64 f, .int .i64 r]] w (RPP base y w (.bool true) (pgIns L ⟨s, p, f, r⟩)) := by
  have H := hide h
  have X0 := hide (Gx.start w s p f r)
  obtain ⟨⟨p1, p2⟩, p3, p4, ⟨p5, p6⟩, p7⟩ := hp
  have h1' := hide ((unitOk_iff s).2 p3)
  have h2' := hide ((unitOk_iff f).2 p4)
  have hi' := hide (pgI_none p7)
  have d1 : decide (p < 0) = false := decide_eq_false (by omega)
  have d2 : decide (8 ≤ p) = false := decide_eq_false (by omega)
  have d3 : decide (r < 1) = false := decide_eq_false (by omega)
  have d4 : decide (3 < r) = false := decide_eq_false (by omega)
  clear h p1 p2 p3 p4 p5 p6 p7
  go_enter Try.func19, Try.ntmps19
  go_wp2_with fail
  refine (runit_to _ (unhide h1')).mono ?_
  rintro e W1 ⟨rfl, K1⟩
  replace X0 := hide ((unhide X0).kept K1)
  have c1 := (unhide X0).cells
  clear K1
  go_wp2_with fail
  refine (runit_to _ (unhide h2')).mono ?_
  rintro e W2 ⟨rfl, K1⟩
  replace X0 := hide ((unhide X0).kept K1)
  clear c1
  have c1 := (unhide X0).cells
  clear K1
  go_wp2_with fail
  refine (rpat_to ((unhide H).grew (unhide X0).kp) (unhide hi')).mono ?_
  rintro e W3 ⟨rfl, K1⟩
  have X := hide ((unhide X0).kept K1)
  clear c1 X0 K1 d1 d2 d3 d4 hi' h1' h2'
  go_upto_block 0 with fail
  go_cut [7] (fun c wx => c = .int .i64 (pgAhead L s p) ∧ Gx w wx s p f r)
  case first =>
    go_wp2_with fail
    go_loopg [7] L.length (fun m i wx => ∃ j : Nat, j ≤ L.length ∧ m = L.length - j ∧ i = .int .i64 j ∧ (∀ l, l < j → ∀ y, L[l]? = some y → pgBef y.s y.p s p = true) ∧ Gx w wx s p f r)
    case atStart => exact ⟨0, Nat.zero_le _, rfl, rfl, fun l hl => by omega, unhide X⟩
    case round =>
      obtain ⟨j, hj, rfl, rfl, hall, hX⟩ := hrel
      clear X
      have hR := (unhide H).grew hX.kp
      have c0 := hR.head.cell (i := 0) rfl
      obtain ⟨z0, z1, _, _⟩ := hX.cells
      by_cases hlt : j < L.length
      · obtain ⟨g, rfl⟩ := hR.addr (by omega)
        obtain ⟨x, hx⟩ : ∃ x, L[j]? = some x := ⟨_, List.getElem?_eq_getElem hlt⟩
        obtain ⟨x0, x1, _, _⟩ := hR.cells hx
        have b1 : (j : Int) < (L.length : Int) := by omega
        have b2 : ((j : Int)).toNat = j := Int.toNat_natCast j
        have hyes : pgBef x.s x.p s p = true → Hid (∀ l, l < j + 1 → ∀ y, L[l]? = some y → pgBef y.s y.p s p = true) := fun q => pg_ahead hall hx q
        have hno : pgBef x.s x.p s p = false → Hid (pgAhead L s p = j) := fun q => pgAhead_is hj hall (fun z hz => by rw [hx] at hz; cases hz; exact q)
        obtain ⟨xs, xp, xf, xr⟩ := x
        simp only at x0 x1 hyes hno
        unfold pgBef at hyes hno
        obtain ⟨v1, e1⟩ : ∃ q, decide (xs < s) = q := ⟨_, rfl⟩
        obtain ⟨v2, e2⟩ : ∃ q, (xs == s) = q := ⟨_, rfl⟩
        obtain ⟨v3, e3⟩ : ∃ q, decide (xp < p) = q := ⟨_, rfl⟩
        rw [e1, e2, e3] at hyes hno
        replace hX := hide hX
        replace hR := hide hR
        clear hall hx
        cases v1
        · cases v2
          · have hend := hno rfl
            clear hyes hno
            go_wp2_with fail
            go_quiet (fail)
            go_wp2
            go_meet
            case rel => exact ⟨by rw [unhide hend], (unhide hX).kept ((Kp.refl [] _).drewN _)⟩
          · cases v3
            · have hend := hno rfl
              clear hyes hno
              go_wp2_with fail
              go_quiet (fail)
              go_wp2
              go_meet
              case rel => exact ⟨by rw [unhide hend], (unhide hX).kept ((Kp.refl [] _).drewN _)⟩
            · have hgo := hyes rfl
              clear hyes hno
              go_wp2_with fail
              go_quiet (fail)
              go_wp2
              go_roundg (L.length - (j + 1))
              case measure => omega
              case rel => exact ⟨j + 1, by omega, rfl, by go_num, unhide hgo, (unhide hX).kept ((Kp.refl [] _).drewN _)⟩
        · have hgo := hyes rfl
          clear hyes hno
          go_wp2_with fail
          go_quiet (fail)
          go_wp2
          go_roundg (L.length - (j + 1))
          case measure => omega
          case rel => exact ⟨j + 1, by omega, rfl, by go_num, unhide hgo, (unhide hX).kept ((Kp.refl [] _).drewN _)⟩
      · have b1 : decide ((j : Int) < (L.length : Int)) = false := decide_eq_false (by omega)
        have hend := hide (pgAhead_is hj hall (fun x hx => by rw [List.getElem?_eq_none (by omega)] at hx; cases hx))
        replace hX := hide hX
        clear hR hall
        go_wp2_with fail
        go_big_region
        go_wp2
        go_meet
        case rel => exact ⟨by rw [unhide hend], (unhide hX).kept ((Kp.refl [] _).drew)⟩
  case rest =>
    obtain ⟨rfl, X'⟩ := hcut
    clear X
    have hkk := pgAhead_le L s p
    have hins := hide (pgAhead_ins L ⟨s, p, f, r⟩)
    obtain ⟨kk, hk0⟩ : ∃ kk, pgAhead L s p = kk := ⟨_, rfl⟩
    rw [hk0] at hkk
    replace hins : Hid (L.take kk ++ [(⟨s, p, f, r⟩ : Pg)] ++ L.drop kk = pgIns L ⟨s, p, f, r⟩) := by rw [← hk0]; exact hins
    have hR := (unhide H).grew X'.kp
    have hS0 : ∀ w', Kp [] wc w' → RP base w' y a cap L ∧ Gx w w' s p f r := fun w' kk => ⟨hR.grew kk, X'.kept kk⟩
    replace hS0 := hide hS0
    have hwt : y < w.heap.size := (unhide H).lt
    have hbt := (unhide H).new
    have hwc := X'.kp.size
    have hK0 := X'.kp
    obtain ⟨B, hB⟩ : ∃ B, wc.heap.size = B := ⟨_, rfl⟩
    replace hB := hide hB
    rcases hR.any with ⟨rfl, rfl, rfl⟩ | ⟨g, rfl⟩
    · obtain rfl : kk = 0 := by simpa using hkk
      rw [hk0]
      have hS : ∀ w', Kp [] wc w' → w'.cell? ⟨y, 0, none⟩ = some (.slice none 0 0) ∧ w'.cell? ⟨w.heap.size, 0, none⟩ = some (.int .i64 s) ∧ w'.cell? ⟨w.heap.size, 1, none⟩ = some (.int .i64 p) ∧ w'.cell? ⟨w.heap.size + 1, 0, none⟩ = some (.int .i64 f) ∧ w'.cell? ⟨w.heap.size + 1, 1, none⟩ = some (.int .i64 r) := fun w' kk => by
        obtain ⟨R', Y⟩ := unhide hS0 w' kk
        exact ⟨R'.head.cell rfl, Y.cells⟩
      replace hS := hide hS
      have K1 := hide ((Kp.refl [] wc).drew)
      clear hR X'
      go_upto_region 6 with fail
      go_cut [8] (fun c wx => Kp [] wc wx ∧ Gr.Rw pgE wc.heap.size wx c [⟨s, p, f, r⟩])
      case first =>
        go_region_held3 (fun w' => w'.cell? ⟨y, 0, none⟩ = some (.slice none 0 0) ∧ w'.cell? ⟨w.heap.size, 0, none⟩ = some (.int .i64 s) ∧ w'.cell? ⟨w.heap.size, 1, none⟩ = some (.int .i64 p) ∧ w'.cell? ⟨w.heap.size + 1, 0, none⟩ = some (.int .i64 f) ∧ w'.cell? ⟨w.heap.size + 1, 1, none⟩ = some (.int .i64 r)) (first | exact unhide hS _ (unhide K3) | exact unhide hS _ ((unhide K2).alloc _) | exact unhide hS _ (unhide K2) | exact unhide hS _ (unhide K1) | exact unhide hS _ ((unhide K1).alloc _) | exact unhide hS _ (((unhide K1).alloc _).alloc _)) (first
          | (refine Gr.step_app (E := pgE) Try.underlying39 Try.infoMapd rfl (by decide) (by decide) (by rfl) _ _ (by rfl) wc.heap.size v1 (.slice (some ⟨wc.heap.size, 0, none⟩) 1 1) [] [⟨s, p, f, r⟩] (by rfl) (by rfl) (unhide rowC) (Gr.src_one (unhide xC) rfl) (by simp) (unhide K2).size ?_; intro v2 w2 hrow hgrow hat; have row2 := hide hrow; have K3 := hide (Gr.kp_grown (unhide K2) hgrow (fun q hq => ((unhide rowC).lt hq).1)); clear hrow hgrow hat)
          | (refine Gr.step_app (E := pgE) Try.underlying39 Try.infoMapd rfl (by decide) (by decide) (by rfl) _ _ (by rfl) wc.heap.size v1 (.slice (some ⟨wc.heap.size + 1, 0, none⟩) 1 1) [] [⟨s, p, f, r⟩] (by rfl) (by rfl) (unhide rowB) (Gr.src_one (unhide xB) rfl) (by simp) (unhide K2).size ?_; intro v2 w2 hrow hgrow hat; have row2 := hide hrow; have K3 := hide (Gr.kp_grown (unhide K2) hgrow (fun q hq => ((unhide rowB).lt hq).1)); clear hrow hgrow hat)
          | (refine Gr.step_app (E := pgE) Try.underlying39 Try.infoMapd rfl (by decide) (by decide) (by rfl) _ _ (by rfl) wc.heap.size v1 (.slice (some ⟨w1.heap.size, 0, none⟩) 1 1) [] [⟨s, p, f, r⟩] (by rfl) (by rfl) ((unhide rowA).grew ((Kp.refl [] w1).alloc _)) (Gr.src_one (Bk.new w1 68 [.int .i64 s, .int .i64 p, .int .i64 f, .int .i64 r]) rfl) (by simp) ((unhide K2).alloc _).size ?_; intro v2 w2 hrow hgrow hat; have row2 := hide hrow; have K3 := hide (Gr.kp_grown ((unhide K2).alloc _) hgrow (fun q hq => ((unhide rowA).lt hq).1)); clear hrow hgrow hat)
          | (refine Gr.step_app (E := pgE) Try.underlying39 Try.infoMapd rfl (by decide) (by decide) (by rfl) _ _ (by rfl) wc.heap.size (.slice (some ⟨wc.heap.size, 0, none⟩) 0 0) (.slice none 0 0) [] [] (by rfl) (by rfl) (Gr.row_empty (Bk.newA wc.drew 68 #[]) (Nat.le_refl _)) (.inl ⟨rfl, rfl⟩) (by simp) ((unhide K1).alloc _).size ?_; intro v1 w1 hrow hgrow hat; have rowA := hide hrow; have K2 := hide (Gr.kp_grown ((unhide K1).alloc _) hgrow (fun q hq => by cases hq; first | exact Nat.le_refl _ | exact Nat.le_succ _)); clear hrow hgrow hat)
          | (refine Gr.step_app (E := pgE) Try.underlying39 Try.infoMapd rfl (by decide) (by decide) (by rfl) _ _ (by rfl) wc.heap.size (.slice (some ⟨wc.heap.size, 0, none⟩) 0 0) (.slice none 0 0) [] [] (by rfl) (by rfl) (Gr.row_empty ((Bk.newA wc.drew 68 #[]).alloc _) (Nat.le_refl _)) (.inl ⟨rfl, rfl⟩) (by simp) (((unhide K1).alloc _).alloc _).size ?_; intro v1 w1 hrow hgrow hat; have rowB := hide hrow; have K2 := hide (Gr.kp_grown (((unhide K1).alloc _).alloc _) hgrow (fun q hq => by cases hq; first | exact Nat.le_refl _ | exact Nat.le_succ _)); have xB := hide (Gr.bk_grown (Gr.bk_next (wc.drew.alloc (.cells #[] 68)) 68 [.int .i64 s, .int .i64 p, .int .i64 f, .int .i64 r] (p := wc.heap.size + 1) (Gr.sz_da wc _)) hgrow (fun e => absurd (Option.some.inj e) (Nat.ne_of_gt (Nat.lt_succ_self _)))); clear hrow hgrow hat)
          | (refine Gr.step_app (E := pgE) Try.underlying39 Try.infoMapd rfl (by decide) (by decide) (by rfl) _ _ (by rfl) wc.heap.size (.slice (some ⟨wc.heap.size + 1, 0, none⟩) 0 0) (.slice none 0 0) [] [] (by rfl) (by rfl) (Gr.row_empty (Gr.bk_next (wc.drew.alloc (.cells #[.int .i64 s, .int .i64 p, .int .i64 f, .int .i64 r] 68)) 68 [] (Gr.sz_da wc _)) (Nat.le_succ _)) (.inl ⟨rfl, rfl⟩) (by simp) (((unhide K1).alloc _).alloc _).size ?_; intro v1 w1 hrow hgrow hat; have rowC := hide hrow; have K2 := hide (Gr.kp_grown (((unhide K1).alloc _).alloc _) hgrow (fun q hq => by cases hq; first | exact Nat.le_refl _ | exact Nat.le_succ _)); have xC := hide (Gr.bk_grown ((Bk.new wc.drew 68 [.int .i64 s, .int .i64 p, .int .i64 f, .int .i64 r]).alloc _) hgrow (fun e => absurd (Option.some.inj e) (Nat.ne_of_lt (Nat.lt_succ_self _)))); clear hrow hgrow hat))
        all_goals
          go_wp2
          go_meet
          case rel => exact ⟨unhide K3, unhide row2⟩
      case rest =>
        obtain ⟨K4, hrow⟩ := hcut
        rw [unhide hB] at hrow
        have c4 := (unhide hS0 _ K4).1.head.cell (i := 0) rfl
        have f4 := (unhide hS0 _ K4).1.head.frozen
        have hsz := K4.size
        replace hrow := hide hrow
        replace K4 := hide K4
        go_wp2_with (first
          | (at_builtin; refine Gr.list_app (E := pgE) Try.underlying39 Try.infoMapd rfl (by decide) (by decide) rfl _ _ rfl B _ _ [⟨s, p, f, r⟩] [] rfl rfl (unhide hrow) (.inl ⟨rfl, rfl⟩) ?c3 ?c4 ?_)
          | go_in)
        case c3 => simp
        case c4 => rw [← unhide hB]; exact (unhide K4).size
        intro v2 w2 hrow2 hgrow hat
        have ht2 := Gr.bk_grown (unhide hS0 _ (unhide K4)).1.head hgrow (fun e => by have h7 := ((unhide hrow).lt e.symm).1; have h8 := unhide hB; omega)
        have K5 := Gr.kp_grown (unhide K4) hgrow (fun q hq => (by rw [unhide hB]; exact ((unhide hrow).lt hq).1))
        have c5 := ht2.cell (i := 0) rfl
        have f5 := ht2.frozen
        have hrow3 : Gr.Rw pgE B w2 v2 (pgIns [] ⟨s, p, f, r⟩) := hrow2
        obtain ⟨a2, c2, rfl⟩ := hrow3.form
        have hR3 := RP.put (base := base) hrow3 (by have h8 := unhide hB; omega) ht2 hbt (by have h8 := unhide hB; omega) (by rw [pgIns_len]; omega)
        have K6 := ((hK0.then K5).mono (S' := [y]) (by simp)).setCell (p := ⟨y, 0, none⟩) (.inl (by simp))
        replace hR3 := hide hR3
        replace K6 := hide K6
        clear hrow hrow2 hrow3 hgrow hat ht2 K5 K4
        go_wp2
        go_ret
        exact ⟨rfl, unhide hR3, unhide K6 _⟩
    · have hcap := hR.own.caps
      have hS : ∀ w', Kp [] wc w' → w'.cell? ⟨y, 0, none⟩ = some (.slice (some ⟨g, 0, none⟩) L.length cap) ∧ w'.cell? ⟨w.heap.size, 0, none⟩ = some (.int .i64 s) ∧ w'.cell? ⟨w.heap.size, 1, none⟩ = some (.int .i64 p) ∧ w'.cell? ⟨w.heap.size + 1, 0, none⟩ = some (.int .i64 f) ∧ w'.cell? ⟨w.heap.size + 1, 1, none⟩ = some (.int .i64 r) := fun w' kk => by
        obtain ⟨R', Y⟩ := unhide hS0 w' kk
        exact ⟨R'.head.cell rfl, Y.cells⟩
      replace hS := hide hS
      have K1 := hide ((Kp.refl [] wc).drew)
      have b1 : (kk : Int) ≤ (cap : Int) := by omega
      have b2 : ((kk : Int)).toNat = kk := Int.toNat_natCast kk
      clear hR X'
      rw [hk0]
      go_upto_region 6 with fail
      go_cut [8] (fun c wx => Kp [] wc wx ∧ Gr.Rw pgE wc.heap.size wx c (L.take kk ++ [⟨s, p, f, r⟩]))
      case first =>
        go_region_held3 (fun w' => w'.cell? ⟨y, 0, none⟩ = some (.slice (some ⟨g, 0, none⟩) L.length cap) ∧ w'.cell? ⟨w.heap.size, 0, none⟩ = some (.int .i64 s) ∧ w'.cell? ⟨w.heap.size, 1, none⟩ = some (.int .i64 p) ∧ w'.cell? ⟨w.heap.size + 1, 0, none⟩ = some (.int .i64 f) ∧ w'.cell? ⟨w.heap.size + 1, 1, none⟩ = some (.int .i64 r)) (first | exact unhide hS _ (unhide K3) | exact unhide hS _ ((unhide K2).alloc _) | exact unhide hS _ (unhide K2) | exact unhide hS _ (unhide K1) | exact unhide hS _ ((unhide K1).alloc _) | exact unhide hS _ (((unhide K1).alloc _).alloc _)) (first
          | (refine Gr.step_app (E := pgE) Try.underlying39 Try.infoMapd rfl (by decide) (by decide) (by rfl) _ _ (by rfl) wc.heap.size v1 (.slice (some ⟨wc.heap.size, 0, none⟩) 1 1) (L.take kk) [⟨s, p, f, r⟩] (by rfl) (by rfl) (unhide rowC) (Gr.src_one (unhide xC) rfl) (by simp; omega) (unhide K2).size ?_; intro v2 w2 hrow hgrow hat; have row2 := hide hrow; have K3 := hide (Gr.kp_grown (unhide K2) hgrow (fun q hq => ((unhide rowC).lt hq).1)); clear hrow hgrow hat)
          | (refine Gr.step_app (E := pgE) Try.underlying39 Try.infoMapd rfl (by decide) (by decide) (by rfl) _ _ (by rfl) wc.heap.size v1 (.slice (some ⟨wc.heap.size + 1, 0, none⟩) 1 1) (L.take kk) [⟨s, p, f, r⟩] (by rfl) (by rfl) (unhide rowB) (Gr.src_one (unhide xB) rfl) (by simp; omega) (unhide K2).size ?_; intro v2 w2 hrow hgrow hat; have row2 := hide hrow; have K3 := hide (Gr.kp_grown (unhide K2) hgrow (fun q hq => ((unhide rowB).lt hq).1)); clear hrow hgrow hat)
          | (refine Gr.step_app (E := pgE) Try.underlying39 Try.infoMapd rfl (by decide) (by decide) (by rfl) _ _ (by rfl) wc.heap.size v1 (.slice (some ⟨w1.heap.size, 0, none⟩) 1 1) (L.take kk) [⟨s, p, f, r⟩] (by rfl) (by rfl) ((unhide rowA).grew ((Kp.refl [] w1).alloc _)) (Gr.src_one (Bk.new w1 68 [.int .i64 s, .int .i64 p, .int .i64 f, .int .i64 r]) rfl) (by simp; omega) ((unhide K2).alloc _).size ?_; intro v2 w2 hrow hgrow hat; have row2 := hide hrow; have K3 := hide (Gr.kp_grown ((unhide K2).alloc _) hgrow (fun q hq => ((unhide rowA).lt hq).1)); clear hrow hgrow hat)
          | (refine Gr.step_app (E := pgE) Try.underlying39 Try.infoMapd rfl (by decide) (by decide) (by rfl) _ _ (by rfl) wc.heap.size (.slice (some ⟨wc.heap.size, 0, none⟩) 0 0) (.slice (some ⟨g, 0, none⟩) kk cap) [] (L.take kk) (by rfl) (by rfl) (Gr.row_empty (Bk.newA wc.drew 68 #[]) (Nat.le_refl _)) ((unhide hS0 _ ((unhide K1).alloc _)).1.own.front kk cap (by omega)) (by simp; omega) ((unhide K1).alloc _).size ?_; intro v1 w1 hrow hgrow hat; have rowA := hide hrow; have K2 := hide (Gr.kp_grown ((unhide K1).alloc _) hgrow (fun q hq => by cases hq; first | exact Nat.le_refl _ | exact Nat.le_succ _)); clear hrow hgrow hat)
          | (refine Gr.step_app (E := pgE) Try.underlying39 Try.infoMapd rfl (by decide) (by decide) (by rfl) _ _ (by rfl) wc.heap.size (.slice (some ⟨wc.heap.size, 0, none⟩) 0 0) (.slice (some ⟨g, 0, none⟩) kk cap) [] (L.take kk) (by rfl) (by rfl) (Gr.row_empty ((Bk.newA wc.drew 68 #[]).alloc _) (Nat.le_refl _)) ((unhide hS0 _ (((unhide K1).alloc _).alloc _)).1.own.front kk cap (by omega)) (by simp; omega) (((unhide K1).alloc _).alloc _).size ?_; intro v1 w1 hrow hgrow hat; have rowB := hide hrow; have K2 := hide (Gr.kp_grown (((unhide K1).alloc _).alloc _) hgrow (fun q hq => by cases hq; first | exact Nat.le_refl _ | exact Nat.le_succ _)); have xB := hide (Gr.bk_grown (Gr.bk_next (wc.drew.alloc (.cells #[] 68)) 68 [.int .i64 s, .int .i64 p, .int .i64 f, .int .i64 r] (p := wc.heap.size + 1) (Gr.sz_da wc _)) hgrow (fun e => absurd (Option.some.inj e) (Nat.ne_of_gt (Nat.lt_succ_self _)))); clear hrow hgrow hat)
          | (refine Gr.step_app (E := pgE) Try.underlying39 Try.infoMapd rfl (by decide) (by decide) (by rfl) _ _ (by rfl) wc.heap.size (.slice (some ⟨wc.heap.size + 1, 0, none⟩) 0 0) (.slice (some ⟨g, 0, none⟩) kk cap) [] (L.take kk) (by rfl) (by rfl) (Gr.row_empty (Gr.bk_next (wc.drew.alloc (.cells #[.int .i64 s, .int .i64 p, .int .i64 f, .int .i64 r] 68)) 68 [] (Gr.sz_da wc _)) (Nat.le_succ _)) ((unhide hS0 _ (((unhide K1).alloc _).alloc _)).1.own.front kk cap (by omega)) (by simp; omega) (((unhide K1).alloc _).alloc _).size ?_; intro v1 w1 hrow hgrow hat; have rowC := hide hrow; have K2 := hide (Gr.kp_grown (((unhide K1).alloc _).alloc _) hgrow (fun q hq => by cases hq; first | exact Nat.le_refl _ | exact Nat.le_succ _)); have xC := hide (Gr.bk_grown ((Bk.new wc.drew 68 [.int .i64 s, .int .i64 p, .int .i64 f, .int .i64 r]).alloc _) hgrow (fun e => absurd (Option.some.inj e) (Nat.ne_of_lt (Nat.lt_succ_self _)))); clear hrow hgrow hat))
        all_goals
          go_wp2
          go_meet
          case rel => exact ⟨unhide K3, unhide row2⟩
      case rest =>
        obtain ⟨K4, hrow⟩ := hcut
        rw [unhide hB] at hrow
        have c4 := (unhide hS0 _ K4).1.head.cell (i := 0) rfl
        have f4 := (unhide hS0 _ K4).1.head.frozen
        have hsz := K4.size
        replace hrow := hide hrow
        replace K4 := hide K4
        have b3 : (kk : Int) ≤ (L.length : Int) := by omega
        have b4 : (L.length : Int) ≤ (cap : Int) := by omega
        by_cases hck : cap = kk
        · have hdr : L.drop kk = [] := List.drop_eq_nil_of_le (by omega)
          have hle : L.length - kk = 0 := by omega
          go_wp2_with (first
            | (at_builtin; refine Gr.list_app (E := pgE) Try.underlying39 Try.infoMapd rfl (by decide) (by decide) rfl _ _ rfl B _ _ (L.take kk ++ [(⟨s, p, f, r⟩ : Pg)]) (L.drop kk) rfl rfl (unhide hrow) (by rw [hdr]; exact Gr.src_nil (by omega)) ?c3 ?c4 ?_)
            | go_in)
          case c3 => simp; omega
          case c4 => rw [← unhide hB]; exact (unhide K4).size
          intro v2 w2 hrow2 hgrow hat
          have ht2 := Gr.bk_grown (unhide hS0 _ (unhide K4)).1.head hgrow (fun e => by have h7 := ((unhide hrow).lt e.symm).1; have h8 := unhide hB; omega)
          have K5 := Gr.kp_grown (unhide K4) hgrow (fun q hq => (by rw [unhide hB]; exact ((unhide hrow).lt hq).1))
          have c5 := ht2.cell (i := 0) rfl
          have f5 := ht2.frozen
          have hrow3 : Gr.Rw pgE B w2 v2 (pgIns L ⟨s, p, f, r⟩) := by rw [← unhide hins]; first | exact hrow2 | (rw [hdr, List.append_nil]; exact hrow2) | exact hrow2
          obtain ⟨a2, c2, rfl⟩ := hrow3.form
          have hR3 := RP.put (base := base) hrow3 (by have h8 := unhide hB; omega) ht2 hbt (by have h8 := unhide hB; omega) (by rw [pgIns_len]; omega)
          have K6 := ((hK0.then K5).mono (S' := [y]) (by simp)).setCell (p := ⟨y, 0, none⟩) (.inl (by simp))
          replace hR3 := hide hR3
          replace K6 := hide K6
          clear hrow hrow2 hrow3 hgrow hat ht2 K5 K4 b1 b3 b4 c4 f4
          go_wp2
          go_ret
          exact ⟨rfl, unhide hR3, unhide K6 _⟩
        · go_wp2_with (first
            | (at_builtin; refine Gr.list_app (E := pgE) Try.underlying39 Try.infoMapd rfl (by decide) (by decide) rfl _ _ rfl B _ _ (L.take kk ++ [(⟨s, p, f, r⟩ : Pg)]) (L.drop kk) rfl rfl (unhide hrow) ((unhide hS0 _ (unhide K4)).1.own.back kk _ hkk) ?c3 ?c4 ?_)
            | go_in)
          case c3 => simp; omega
          case c4 => rw [← unhide hB]; exact (unhide K4).size
          intro v2 w2 hrow2 hgrow hat
          have ht2 := Gr.bk_grown (unhide hS0 _ (unhide K4)).1.head hgrow (fun e => by have h7 := ((unhide hrow).lt e.symm).1; have h8 := unhide hB; omega)
          have K5 := Gr.kp_grown (unhide K4) hgrow (fun q hq => (by rw [unhide hB]; exact ((unhide hrow).lt hq).1))
          have c5 := ht2.cell (i := 0) rfl
          have f5 := ht2.frozen
          have hrow3 : Gr.Rw pgE B w2 v2 (pgIns L ⟨s, p, f, r⟩) := by rw [← unhide hins]; first | exact hrow2 | (rw [List.append_assoc]; exact hrow2) | exact hrow2
          obtain ⟨a2, c2, rfl⟩ := hrow3.form
          have hR3 := RP.put (base := base) hrow3 (by have h8 := unhide hB; omega) ht2 hbt (by have h8 := unhide hB; omega) (by rw [pgIns_len]; omega)
          have K6 := ((hK0.then K5).mono (S' := [y]) (by simp)).setCell (p := ⟨y, 0, none⟩) (.inl (by simp))
          replace hR3 := hide hR3
          replace K6 := hide K6
          clear hrow hrow2 hrow3 hgrow hat ht2 K5 K4 b1 b3 b4 c4 f4
          go_wp2
          go_ret
          exact ⟨rfl, unhide hR3, unhide K6 _⟩
end Go.Proofs.Ytlallciikcmjmaa
