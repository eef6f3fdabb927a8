/- The document's endpoint: Drop. -/
import Derived.Test.YthnpkojfkhndoaaKEp0
import Derived.BigQuiet
namespace Go.Proofs.Ythnpkojfkhndoaa
open Go.RowKit
set_option linter.unusedVariables false
set_option linter.unusedSimpArgs false
/-- A row stays where a row of another type grows. -/
theorem ro_grown {α β : Type} {T T' : TypeId} {sz sz' : Nat} {E : Gr.Enc α T sz} {E' : Gr.Enc β T' sz'} {base base' : Nat} {w w' : World} {v v' : Value} {L : List α} {M : List β} (h : Gr.Ro E base w v L) (h' : Gr.Rw E' base' w v' M) (hT : T ≠ T') (hg : w.grownBy w' v'.ownBlock) : Gr.Ro E base w' v L :=
  h.kept (Gr.kp_gb hg) (fun g e m => by
    obtain ⟨_, cs, h1⟩ := h.lt e
    obtain ⟨_, c, h2⟩ := h'.block (g := g) (by cases hv : v'.ownBlock with | none => rw [hv] at m; cases m | some q => rw [hv] at m; simp at m; rw [m])
    rw [h1] at h2
    simp at h2
    exact hT h2.2)
set_option maxRecDepth 10000 in
set_option maxHeartbeats 8000000 in
theorem redrop {base : Nat} {w : World} {y : Nat} {a : Option Addr} {ca : Nat} {S S' : List Ms} {b : Option Addr} {cb : Nat} {R R' : List Rc} {is : Bool} (h : RE base w y a ca S b cb R) {q1 q2 : Int} (hS' : S.filter (msN (q1, q2)) = S') (hR' : R.filter (rcN (q1, q2)) = R') (his : (decide (S'.length < S.length) || decide (R'.length < R.length)) = is) :
    Calls Try.prog 11 #[.pointer (some ⟨y, 0, none⟩), .agg #[.int .i64 q1, .int .i64 q2]] w (REP base y w a b (.bool is) S' R') := by
  have hs := h.ssm
  have hr := h.rsm
  have hyw := hide h.lt
  replace his := hide his
  have K0 := hide ((Kp.refl [] w).alloc (.cells #[.int .i64 q1, .int .i64 q2] 39))
  have H := hide (h.grew (unhide K0))
  have P0 := hide (Bk.new w 39 [.int .i64 q1, .int .i64 q2])
  have hw1 : Hid (w.heap.size + 1 ≤ (w.alloc (.cells #[.int .i64 q1, .int .i64 q2] 39)).heap.size) := by unfold Hid; simp
  clear h
  go_enter Try.func11, Try.ntmps11
  go_wp2_with fail
  generalize w.alloc (.cells #[.int .i64 q1, .int .i64 q2] 39) = w1 at *
  go_loopg [5, 6] S.length (fun m v i wx => ∃ j : Nat, j ≤ S.length ∧ m = S.length - j ∧ i = .int .i64 j ∧ Gr.Rw (msE 51) w1.heap.size wx v ((S.take j).filter (msN (q1, q2))) ∧ Kp [] w1 wx)
  case atStart => exact ⟨0, Nat.zero_le _, rfl, rfl, Gr.Rw.nil _ _, Kp.refl _ _⟩
  case round =>
    obtain ⟨j, hj, rfl, rfl, hP, hK⟩ := hrel
    have hR := (unhide H).grew hK
    have c0 := hR.head.cell (i := 0) rfl
    by_cases hlt : j < S.length
    · obtain ⟨g, off, rfl, _⟩ := hR.s.addr (by omega)
      have p0 := ((unhide P0).kept hK (by simp)).cell (i := 0) rfl
      have p1 := ((unhide P0).kept hK (by simp)).cell (i := 1) rfl
      obtain ⟨x, hx⟩ : ∃ x, S[j]? = some x := ⟨_, List.getElem?_eq_getElem hlt⟩
      obtain ⟨xs, xp, xw, xb, xc⟩ := x
      have x0 : wr.cell? ⟨g, off + j * 5, none⟩ = some (.int .i64 xs) := by have := hR.s.cell (i := j) (j := 0) hx rfl; simpa [← Nat.add_assoc] using this
      have x1 : wr.cell? ⟨g, off + j * 5 + 1, none⟩ = some (.int .i64 xp) := by have := hR.s.cell (i := j) (j := 1) hx rfl; simpa [← Nat.add_assoc] using this
      have x2 : wr.cell? ⟨g, off + j * 5 + 2, none⟩ = some (.int .u32 xw) := by have := hR.s.cell (i := j) (j := 2) hx rfl; simpa [← Nat.add_assoc] using this
      have x3 : wr.cell? ⟨g, off + j * 5 + 3, none⟩ = some (.int .i64 xb) := by have := hR.s.cell (i := j) (j := 3) hx rfl; simpa [← Nat.add_assoc] using this
      have x4 : wr.cell? ⟨g, off + j * 5 + 4, none⟩ = some (.bool xc) := by have := hR.s.cell (i := j) (j := 4) hx rfl; simpa [← Nat.add_assoc] using this
      have b1 : (j : Int) < (S.length : Int) := by omega
      have b2 : ((j : Int)).toNat = j := Int.toNat_natCast j
      obtain ⟨v, hv⟩ : ∃ v : Bool, (!decide ((xs, xp) = (q1, q2))) = v := ⟨_, rfl⟩
      have hne := fun w' => neqi xs xp q1 q2 w'
      rw [hv] at hne
      cases v with
      | false =>
        have hmore := hide (filtL_no (f := msN (q1, q2)) hx hv)
        clear hR hx hv
        replace hP := hide hP
        replace hK := hide hK
        go_wp2_with fail
        go_quiet (fail)
        go_wp2
        go_roundg (S.length - (j + 1))
        case measure => omega
        case rel => exact ⟨j + 1, by omega, rfl, by go_num, by rw [unhide hmore]; exact (unhide hP).grew ((Kp.refl [] _).drewN _), (unhide hK).drewN _⟩
      | true =>
        have hmore := hide (filtL_yes (f := msN (q1, q2)) hx hv)
        have hlen : ((S.take j).filter (msN (q1, q2))).length ≤ 1048575 := by have := List.length_filter_le (msN (q1, q2)) (S.take j); rw [List.length_take] at this; omega
        obtain ⟨F, hF⟩ : ∃ F, ((S.take j).filter (msN (q1, q2))) = F := ⟨_, rfl⟩
        rw [hF] at hP hlen
        replace hmore : Hid ((S.take (j + 1)).filter (msN (q1, q2)) = F ++ [(xs, xp, xw, xb, xc)]) := by unfold Hid; rw [← hF]; exact unhide hmore
        replace hlen := hide hlen
        clear hR hx hv hF
        replace hP := hide hP
        replace hK := hide hK
        go_wp2_with fail
        go_quiet (fail)
        go_wp2_with (first
          | (at_builtin; refine Gr.list_app (E := (msE 51)) Try.underlying32 Try.infoMsgR rfl (by decide) (by decide) rfl _ _ rfl w1.heap.size _ _ F [(xs, xp, xw, xb, xc)] rfl rfl ((unhide hP).grew (((Kp.refl [] wr).drewN _).alloc _)) (Gr.src_one (Bk.new (wr.drewN _) 51 [.int .i64 xs, .int .i64 xp, .int .u32 xw, .int .i64 xb, .bool xc]) rfl) ?c2 ?c3 ?_)
          | go_in)
        case c2 => have h9 := unhide hlen; show F.length + 1 ≤ 1048576; omega
        case c3 => have := (unhide hK).size; simp; omega
        intro v' w2 hown' hgrow hnil
        have hP1 : Hid (Gr.Rw (msE 51) w1.heap.size w2 v' ((S.take (j + 1)).filter (msN (q1, q2)))) := by
          unfold Hid
          rw [unhide hmore]
          exact hown'
        have hK1 := hide (Gr.kp_grown (((unhide hK).drewN _).alloc _) hgrow (fun k hk => ((unhide hP).lt hk).1))
        clear hP hK hmore hown' hgrow hnil
        go_wp2
        go_roundg (S.length - (j + 1))
        case measure => omega
        case rel => exact ⟨j + 1, by omega, rfl, by go_num, unhide hP1, unhide hK1⟩
    · have b1 : decide ((j : Int) < (S.length : Int)) = false := decide_eq_false (by omega)
      rw [List.take_of_length_le (show S.length ≤ j by omega)] at hP
      clear hR
      rw [hS'] at hP
      obtain ⟨a5, c5, rfl⟩ := hP.form
      have hSr := hide hP.ro
      clear hP
      replace hK := hide hK
      go_wp2_with fail
      go_loopg [7, 8] R.length (fun m v i wx => ∃ j : Nat, j ≤ R.length ∧ m = R.length - j ∧ i = .int .i64 j ∧ Gr.Rw (rcE 48) w1.heap.size wx v ((R.take j).filter (rcN (q1, q2))) ∧ Kp [] w1 wx ∧ Gr.Ro (msE 51) w1.heap.size wx (.slice a5 S'.length c5) S')
      case atStart => exact ⟨0, Nat.zero_le _, rfl, rfl, Gr.Rw.nil _ _, unhide hK, unhide hSr⟩
      case round =>
        obtain ⟨j, hj, rfl, rfl, hP, hK, hSr⟩ := hrel
        have hR := (unhide H).grew hK
        have c0 := hR.head.cell (i := 1) rfl
        by_cases hlt : j < R.length
        · obtain ⟨g, off, rfl, _⟩ := hR.r.addr (by omega)
          have p0 := ((unhide P0).kept hK (by simp)).cell (i := 0) rfl
          have p1 := ((unhide P0).kept hK (by simp)).cell (i := 1) rfl
          obtain ⟨x, hx⟩ : ∃ x, R[j]? = some x := ⟨_, List.getElem?_eq_getElem hlt⟩
          obtain ⟨xs, xp, xr⟩ := x
          have x0 : wr.cell? ⟨g, off + j * 3, none⟩ = some (.int .i64 xs) := by have := hR.r.cell (i := j) (j := 0) hx rfl; simpa [← Nat.add_assoc] using this
          have x1 : wr.cell? ⟨g, off + j * 3 + 1, none⟩ = some (.int .i64 xp) := by have := hR.r.cell (i := j) (j := 1) hx rfl; simpa [← Nat.add_assoc] using this
          have x2 : wr.cell? ⟨g, off + j * 3 + 2, none⟩ = some (.int .i64 xr) := by have := hR.r.cell (i := j) (j := 2) hx rfl; simpa [← Nat.add_assoc] using this
          have b1 : (j : Int) < (R.length : Int) := by omega
          have b2 : ((j : Int)).toNat = j := Int.toNat_natCast j
          obtain ⟨v, hv⟩ : ∃ v : Bool, (!decide ((xs, xp) = (q1, q2))) = v := ⟨_, rfl⟩
          have hne := fun w' => neqi xs xp q1 q2 w'
          rw [hv] at hne
          cases v with
          | false =>
            have hmore := hide (filtL_no (f := rcN (q1, q2)) hx hv)
            clear hR hx hv
            replace hP := hide hP
            replace hSr := hide hSr
            replace hK := hide hK
            go_wp2_with fail
            go_quiet (fail)
            go_wp2
            go_roundg (R.length - (j + 1))
            case measure => omega
            case rel => exact ⟨j + 1, by omega, rfl, by go_num, by rw [unhide hmore]; exact (unhide hP).grew ((Kp.refl [] _).drewN _), (unhide hK).drewN _, (unhide hSr).grew ((Kp.refl [] _).drewN _)⟩
          | true =>
            have hmore := hide (filtL_yes (f := rcN (q1, q2)) hx hv)
            have hlen : ((R.take j).filter (rcN (q1, q2))).length ≤ 1048575 := by have := List.length_filter_le (rcN (q1, q2)) (R.take j); rw [List.length_take] at this; omega
            obtain ⟨F, hF⟩ : ∃ F, ((R.take j).filter (rcN (q1, q2))) = F := ⟨_, rfl⟩
            rw [hF] at hP hlen
            replace hmore : Hid ((R.take (j + 1)).filter (rcN (q1, q2)) = F ++ [(xs, xp, xr)]) := by unfold Hid; rw [← hF]; exact unhide hmore
            replace hlen := hide hlen
            clear hR hx hv hF
            replace hP := hide hP
            replace hSr := hide hSr
            replace hK := hide hK
            go_wp2_with fail
            go_quiet (fail)
            go_wp2_with (first
              | (at_builtin; refine Gr.list_app (E := (rcE 48)) Try.underlying33 Try.infoRcvR rfl (by decide) (by decide) rfl _ _ rfl w1.heap.size _ _ F [(xs, xp, xr)] rfl rfl ((unhide hP).grew (((Kp.refl [] wr).drewN _).alloc _)) (Gr.src_one (Bk.new (wr.drewN _) 48 [.int .i64 xs, .int .i64 xp, .int .i64 xr]) rfl) ?c2 ?c3 ?_)
              | go_in)
            case c2 => have h9 := unhide hlen; show F.length + 1 ≤ 1048576; omega
            case c3 => have := (unhide hK).size; simp; omega
            intro v' w2 hown' hgrow hnil
            have hP1 : Hid (Gr.Rw (rcE 48) w1.heap.size w2 v' ((R.take (j + 1)).filter (rcN (q1, q2)))) := by
              unfold Hid
              rw [unhide hmore]
              exact hown'
            have hS1 := hide (ro_grown ((unhide hSr).grew (((Kp.refl [] wr).drewN _).alloc _)) ((unhide hP).grew (((Kp.refl [] wr).drewN _).alloc _)) (by decide) hgrow)
            have hK1 := hide (Gr.kp_grown (((unhide hK).drewN _).alloc _) hgrow (fun k hk => ((unhide hP).lt hk).1))
            clear hP hK hSr hmore hown' hgrow hnil
            go_wp2
            go_roundg (R.length - (j + 1))
            case measure => omega
            case rel => exact ⟨j + 1, by omega, rfl, by go_num, unhide hP1, unhide hK1, unhide hS1⟩
        · have b1 : decide ((j : Int) < (R.length : Int)) = false := decide_eq_false (by omega)
          rw [List.take_of_length_le (show R.length ≤ j by omega)] at hP
          clear hR
          rw [hR'] at hP
          have hlS := List.length_filter_le (msN (q1, q2)) S
          have hlR := List.length_filter_le (rcN (q1, q2)) R
          rw [hS'] at hlS
          rw [hR'] at hlR
          have hR := (unhide H).grew hK
          obtain ⟨a6, c6, rfl⟩ := hP.form
          have hb1 : base ≤ w1.heap.size := by have := hR.new; have := unhide hyw; have := (unhide hw1); omega
          obtain ⟨X1, k1⟩ := RE.putS (base := base) hSr rfl hb1 hR.head hR.r hR.new (by have := hR.ssm; omega) hR.rsm
          have hP' := hP.ro.kept k1 (fun g hg => ro_off hP.ro hR.head (by decide) hg)
          obtain ⟨X2, k2⟩ := RE.putR (base := base) hP' rfl hb1 X1.head X1.s hR.new (by have := hR.rsm; omega) X1.ssm
          have K2 := hide ((((unhide K0).then hK).mono (S' := [y]) (by simp)).then (k1.then k2))
          have f0 := hR.head.frozen
          have f1 := X1.head.frozen
          have e0 := hR.head.cell (i := 0) rfl
          have d1 := X1.head.cell (i := 1) rfl
          replace X2 := hide X2
          have hlt1 : Hid (S'.length < S.length ∨ ¬ S'.length < S.length) := Classical.em _
          have ho5 : Hid (∀ g, rb a5 = some g → w.heap.size ≤ g) := fun g e => by have := (hSr.lt ((rb_is _ _ _).trans e)).1; have := unhide hw1; omega
          have ho6 : Hid (∀ g, rb a6 = some g → w.heap.size ≤ g) := fun g e => by have := (hP.lt ((rb_is _ _ _).trans e)).1; have := unhide hw1; omega
          clear X1 k1 k2 hP' hP hSr hlS hlR
          replace hR := hide hR
          replace hK := hide hK
          rcases unhide hlt1 with h1 | h1
          · have g1 : (S'.length : Int) < (S.length : Int) := by omega
            obtain rfl : true = is := by rw [← unhide his, decide_eq_true h1]; rfl
            go_wp2
            go_ret
            exact ⟨rfl, ⟨_, _, _, _, unhide X2, fun g e => .inr (unhide ho5 g e), fun g e => .inr (unhide ho6 g e)⟩, unhide K2⟩
          · have g1 : decide ((S'.length : Int) < (S.length : Int)) = false := decide_eq_false (by omega)
            have g1' : decide (S'.length < S.length) = false := decide_eq_false h1
            by_cases h2 : R'.length < R.length
            · have g2 : (R'.length : Int) < (R.length : Int) := by omega
              obtain rfl : true = is := by rw [← unhide his, g1', decide_eq_true h2]; rfl
              go_wp2
              go_ret
              exact ⟨rfl, ⟨_, _, _, _, unhide X2, fun g e => .inr (unhide ho5 g e), fun g e => .inr (unhide ho6 g e)⟩, unhide K2⟩
            · have g2 : decide ((R'.length : Int) < (R.length : Int)) = false := decide_eq_false (by omega)
              have g2' : decide (R'.length < R.length) = false := decide_eq_false h2
              obtain rfl : false = is := by rw [← unhide his, g1', g2']; rfl
              go_wp2
              go_ret
              exact ⟨rfl, ⟨_, _, _, _, unhide X2, fun g e => .inr (unhide ho5 g e), fun g e => .inr (unhide ho6 g e)⟩, unhide K2⟩
end Go.Proofs.Ythnpkojfkhndoaa
