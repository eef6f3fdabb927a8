/- The document's Delete of chapter 8. -/
import Derived.Test.YtdlkaaiedfikoaaKKillM
import Derived.Test.YtdlkaaiedfikoaaKObj
import Derived.Test.YtdlkaaiedfikoaaKTab5
import Derived.Deep.DeepCutAuto
import Derived.Deep.CutBlock
namespace Go.Proofs.Ytdlkaaiedfikoaa
open Go.RowKit
set_option linter.unusedVariables false
/-- What is gone, in new memory, a code; what is left; nothing else of memory. -/
def DelP (base x : Nat) (w : World) (R : List (Int × Int) × List Sl × Int) (e : Ending) (w' : World) : Prop := ∃ v, e = .returned (.tuple #[v, .int .i64 R.2.2]) ∧ Ol w.heap.size w' v R.1 ∧ (∃ ra rc, RT base w' x ra rc R.2.1) ∧ Kp [x] w w'
/-- Two boxes, the place's and the capability's. -/
structure Dk (w : World) (x P C : Nat) (n s k o z b r : Int) (wx : World) : Prop where
  kp : Kp [x] w wx
  p : Bk wx P 28 [.int .i64 n, .int .i64 s]
  c : Bk wx C 31 [.int .i64 k, .int .i64 o, .int .i64 z, .int .i64 b, .int .i64 r]
theorem Dk.on {w : World} {x P C : Nat} {n s k o z b r : Int} {wx wy : World} (h : Dk w x P C n s k o z b r wx) (q : Kp [x] wx wy) (hp : P ≠ x) (hc : C ≠ x) : Dk w x P C n s k o z b r wy := ⟨h.kp.trans q (by simp) (by simp), h.p.kept q (by simpa using hp), h.c.kept q (by simpa using hc)⟩
theorem Dk.grew {w : World} {x P C : Nat} {n s k o z b r : Int} {wx wy : World} (h : Dk w x P C n s k o z b r wx) (q : Kp [] wx wy) : Dk w x P C n s k o z b r wy := ⟨h.kp.trans q (by simp) (by simp), h.p.kept q (by simp), h.c.kept q (by simp)⟩
theorem kp_by {wr w' : World} {row : Option Nat} (hg : wr.grownBy w' row) : Kp row.toList wr w' := by
  obtain ⟨h1, h2, h3, h4, h5⟩ := hg
  exact ⟨h1, h2, h3, h4, fun k hk hn => h5 k hk (fun e => hn (by rw [← e]; simp))⟩
theorem Ol.lt {base : Nat} {w : World} {v : Value} {ps : List (Int × Int)} (h : Ol base w v ps) {g : Nat} (hg : v.ownBlock = some g) : base ≤ g ∧ g < w.heap.size := World.ownsRow.lt h g hg
/-- The rows of a table are no list of objects. -/
theorem rt_apart {base b2 : Nat} {w : World} {x : Nat} {ra : Option Addr} {rc : Nat} {L : List Sl} {v : Value} {os : List (Int × Int)} (h : RT base w x ra rc L) (o : Ol b2 w v os) {g : Nat} (hg : v.ownBlock = some g) {g' : Nat} (hr : ra = some ⟨g', 0, none⟩) : g' ≠ g := by
  rintro rfl
  rcases h.own.2 with ⟨e, _⟩ | ⟨g1, c1, cur1, e1, _, hh1, _⟩
  · rw [hr] at e; cases e
  · rw [hr] at e1
    cases e1
    rcases o.2 with ⟨e, _⟩ | ⟨g2, c2, cur2, e2, _, hh2, _⟩
    · rw [e] at hg; cases hg
    · rw [e2] at hg
      cases hg
      rw [hh1] at hh2
      simp at hh2
theorem ol_one (w0 w : World) (n s : Int) (h : w0.heap.size ≤ w.heap.size) : Ol w0.heap.size (w.alloc (.cells #[.int .i64 n, .int .i64 s] 40)) (.slice (some ⟨w.heap.size, 0, none⟩) 1 1) [(n, s)] := by
  have hb := Bk.new w 40 [.int .i64 n, .int .i64 s]
  unfold Bk at hb
  exact ⟨rfl, .inr ⟨w.heap.size, 1, _, rfl, h, hb, by simp, by unfold maxLen; omega, by simp, by simp [prow]⟩⟩
set_option maxRecDepth 4000 in
set_option maxHeartbeats 4000000 in
theorem rdelete_no (m : Nat) {base x : Nat} {w : World} {ra : Option Addr} {rc : Nat} {L : List Sl} (h : RT base w x ra rc L) (n s : Int) (hn : lkS L n s = none) :
    Calls Try.prog 17 #[.pointer (some ⟨x, 0, none⟩), .agg #[.int .i64 n, .int .i64 s]] w (DelP base x w (delF m L n s)) := by
  rw [delF_none hn]
  have K0 := hide ((Kp.refl [] w).alloc (.cells #[.int .i64 n, .int .i64 s] 28))
  have H := hide h
  have hc : Hid (Calls Try.prog 22 #[.pointer (some ⟨x, 0, none⟩), .agg #[.int .i64 n, .int .i64 s]] (w.alloc (.cells #[.int .i64 n, .int .i64 s] 28)) fun e w' => e = .returned (.tuple #[.agg #[.int .i64 0, .int .i64 0, .int .i64 0, .int .i64 0, .int .i64 0], .bool false]) ∧ Kp [] (w.alloc (.cells #[.int .i64 n, .int .i64 s] 28)) w') := by
    rcases rget_lk (h.grew (unhide K0)) n s with ⟨_, q⟩ | ⟨y, hy, _⟩
    · exact q
    · rw [hn] at hy; cases hy
  clear h
  replace hn := hide hn
  go_enter Try.func17, Try.ntmps17
  go_wp2_with fail
  refine (unhide hc).mono ?_
  rintro e W1 ⟨rfl, K1⟩
  have K2 := hide (((unhide K0).then K1).alloc (.cells #[.int .i64 0, .int .i64 0, .int .i64 0, .int .i64 0, .int .i64 0] 31))
  clear K1 hc
  go_wp2
  refine bodyPost_ret (v := .tuple #[.slice none 0 0, .int .i64 4]) (by simp [results, Try.results17, go_sem, *]) rfl ⟨_, rfl, Ol.nil _ _, ⟨ra, rc, (unhide H).grew (unhide K2)⟩, (unhide K2).mono (by simp)⟩
set_option maxRecDepth 4000 in
set_option maxHeartbeats 8000000 in
theorem rdelete (m : Nat) : ∀ {base x : Nat} {w : World} {ra : Option Addr} {rc : Nat} {L : List Sl}, RT base w x ra rc L → L.length ≤ m → ∀ n s : Int,
    Calls Try.prog 17 #[.pointer (some ⟨x, 0, none⟩), .agg #[.int .i64 n, .int .i64 s]] w (DelP base x w (delF m L n s)) := by
  induction m with
  | zero =>
    intro base x w ra rc L h hL n s
    have e : L = [] := List.length_eq_zero_iff.1 (by omega)
    subst e
    exact rdelete_no 0 h n s rfl
  | succ m ih =>
    intro base x w ra rc L h hL n s
    cases ha : atL L n s with
    | none => exact rdelete_no (m + 1) h n s (by unfold lkS; rw [ha])
    | some i =>
      obtain ⟨y, hy, _⟩ := atL_some ha
      rw [delF_some ha hy]
      obtain ⟨L1, eL1⟩ : ∃ L1, dropL L n s i y = L1 := ⟨_, rfl⟩
      have hlen1 : L1.length ≤ m := by have := drop_len1 (n := n) (s := s) hy; rw [eL1] at this; omega
      have hsm : L1.length ≤ 65536 := by have := drop_len1 (n := n) (s := s) hy; have := h.small; rw [eL1] at *; omega
      have hget := rget_yes (h.grew ((Kp.refl [] w).alloc (.cells #[.int .i64 n, .int .i64 s] 28))) n s ha hy
      have hdrop : Hid (∀ wr ra rc, RT base wr x ra rc L → Calls Try.prog 40 #[.pointer (some ⟨x, 0, none⟩), .agg #[.int .i64 n, .int .i64 s]] wr (PutP base wr x L1)) := fun wr ra rc hr => by rw [← eL1]; exact rdrop_yes hr n s ha hy
      rw [eL1]
      obtain ⟨yn, ys, yu, yv, yk, yo, yz, yb, yr⟩ := y
      simp only at hget ⊢
      have xlt := h.head.lt
      have H := hide h
      replace hget := hide hget
      clear h ha hy eL1
      have K0 := hide ((Kp.refl [] w).alloc (.cells #[.int .i64 n, .int .i64 s] 28))
      have P0 := hide (Bk.new w 28 [.int .i64 n, .int .i64 s])
      have hPx : Hid (w.heap.size ≠ x) := by unfold Hid; omega
      have xlt' := hide xlt
      clear xlt
      obtain ⟨R, hR⟩ : ∃ R, (if 0 < (sel (nameF yk yo yz) L1).length then (([] : List (Int × Int)), L1, (0 : Int)) else if yk ≠ 2 then ([(yk, yo)], L1, 0) else ((yk, yo) :: (delS (delF m) yo 16 0 L1).1, (delS (delF m) yo 16 0 L1).2, 0)) = R := ⟨_, rfl⟩
      rw [hR]
      replace hR := hide hR
      go_enter Try.func17, Try.ntmps17
      go_wp2_with fail
      refine (unhide hget).mono ?_
      rintro e W1 ⟨rfl, K1⟩
      have D1 := hide (Dk.mk (x := x) (((unhide K0).then (K1.alloc (.cells #[.int .i64 yk, .int .i64 yo, .int .i64 yz, .int .i64 yb, .int .i64 yr] 31))).mono (by simp)) (((unhide P0).kept K1 (by simp)).alloc (.cells #[.int .i64 yk, .int .i64 yo, .int .i64 yz, .int .i64 yb, .int .i64 yr] 31)) (Bk.new W1 31 [.int .i64 yk, .int .i64 yo, .int .i64 yz, .int .i64 yb, .int .i64 yr]))
      have H1 := hide ((unhide H).grew ((unhide K0).then (K1.alloc (.cells #[.int .i64 yk, .int .i64 yo, .int .i64 yz, .int .i64 yb, .int .i64 yr] 31))))
      have hCx : Hid (W1.heap.size ≠ x) := by have h1 := K1.size; have h2 := (unhide K0).size; have h3 := unhide xlt'; unfold Hid; omega
      obtain ⟨C, eC⟩ : ∃ C, W1.heap.size = C := ⟨_, rfl⟩
      rw [eC] at D1 hCx
      clear K1 hget P0 K0
      have p0 := (unhide D1).p.cell (i := 0) rfl
      have p1 := (unhide D1).p.cell (i := 1) rfl
      go_wp2_with fail
      generalize W1.alloc (.cells #[.int .i64 yk, .int .i64 yo, .int .i64 yz, .int .i64 yb, .int .i64 yr] 31) = W2 at *
      clear eC
      refine (unhide hdrop _ _ _ (unhide H1)).mono ?_
      rintro e W3 ⟨rfl, ra3, rc3, H3, K3⟩
      have D3 := hide ((unhide D1).on K3 (unhide hPx) (unhide hCx))
      replace H3 := hide H3
      clear K3 D1 H1 p0 p1 hdrop
      obtain ⟨c0, c1, c2, c3, c4⟩ : W3.cell? ⟨C, 0, none⟩ = some (.int .i64 yk) ∧ W3.cell? ⟨C, 1, none⟩ = some (.int .i64 yo) ∧ W3.cell? ⟨C, 2, none⟩ = some (.int .i64 yz) ∧ W3.cell? ⟨C, 3, none⟩ = some (.int .i64 yb) ∧ W3.cell? ⟨C, 4, none⟩ = some (.int .i64 yr) := ⟨(unhide D3).c.cell rfl, (unhide D3).c.cell rfl, (unhide D3).c.cell rfl, (unhide D3).c.cell rfl, (unhide D3).c.cell rfl⟩
      go_wp2_with fail
      refine (rnamed_calls (unhide H3) yk yo yz yb yr).mono ?_
      rintro e W4 ⟨v4, rfl, P4, K4⟩
      obtain ⟨a4, c4', e4⟩ := P4.form
      subst e4
      have D4 := hide ((unhide D3).grew K4)
      have H4 := hide ((unhide H3).grew K4)
      clear P4 K4 D3 H3 c0 c1 c2 c3 c4
      obtain ⟨c0, c1, c2, c3, c4⟩ : W4.cell? ⟨C, 0, none⟩ = some (.int .i64 yk) ∧ W4.cell? ⟨C, 1, none⟩ = some (.int .i64 yo) ∧ W4.cell? ⟨C, 2, none⟩ = some (.int .i64 yz) ∧ W4.cell? ⟨C, 3, none⟩ = some (.int .i64 yb) ∧ W4.cell? ⟨C, 4, none⟩ = some (.int .i64 yr) := ⟨(unhide D4).c.cell rfl, (unhide D4).c.cell rfl, (unhide D4).c.cell rfl, (unhide D4).c.cell rfl, (unhide D4).c.cell rfl⟩
      have hsl := sel_len (nameF yk yo yz) L1
      obtain ⟨q, hq⟩ : ∃ q, (sel (nameF yk yo yz) L1).length = q := ⟨_, rfl⟩
      rw [hq] at hsl ⊢
      have hR1 := unhide hR
      rw [hq] at hR1
      clear hR hq
      by_cases hq0 : 0 < q
      · rw [if_pos hq0] at hR1
        subst hR1
        have b1 : (0 : Int) < (q : Int) := by omega
        go_wp2
        refine bodyPost_ret (v := .tuple #[.slice none 0 0, .int .i64 0]) (by simp [results, Try.results17, go_sem, *]) rfl ⟨_, rfl, Ol.nil _ _, ⟨ra3, rc3, unhide H4⟩, (unhide D4).kp⟩
      · rw [if_neg hq0] at hR1
        have b1 : decide ((0 : Int) < (q : Int)) = false := by simp; omega
        have D5 := hide ((unhide D4).grew ((Kp.refl [] W4).alloc (.cells #[.int .i64 yk, .int .i64 yo] 40)))
        have H5 := hide ((unhide H4).grew ((Kp.refl [] W4).alloc (.cells #[.int .i64 yk, .int .i64 yo] 40)))
        have O5 := hide (ol_one w W4 yk yo (unhide D4).kp.size)
        by_cases hk2 : yk = 2
        · subst hk2
          rw [if_neg (by decide)] at hR1
          replace hR1 := hide hR1
          have O6 := hide (ol_one W4 W4 2 yo (Nat.le_refl _))
          have hC4 : Hid (C < W4.heap.size ∧ w.heap.size < W4.heap.size) := ⟨(unhide D4).c.lt, (unhide D4).p.lt⟩
          clear D4 H4 O5
          obtain ⟨B, eB⟩ : ∃ B, W4.heap.size = B := ⟨_, rfl⟩
          have d0 := (unhide D5).c.cell (i := 0) rfl
          have d1 := (unhide D5).c.cell (i := 1) rfl
          rw [eB] at O6 hC4
          go_wp2_with fail
          generalize W4.alloc (.cells #[.int .i64 2, .int .i64 yo] 40) = W5 at *
          clear eB c0 c1 c2 c3 c4 d0 d1
          go_loopg [8, 9] 16 (fun mm v si wr => ∃ j : Nat, j ≤ 16 ∧ mm = 16 - j ∧ si = .int .i64 j ∧ ∃ os L' ra rc, Ol B wr v os ∧ RT base wr x ra rc L' ∧ Dk w x w.heap.size C n s 2 yo yz yb yr wr ∧ L'.length ≤ m ∧ os.length + L'.length ≤ 65540 ∧ B < wr.heap.size ∧ (os ++ (delS (delF m) yo (16 - j) j L').1, (delS (delF m) yo (16 - j) j L').2, (0 : Int)) = R)
          case atStart => exact ⟨0, by omega, rfl, rfl, [(2, yo)], L1, ra3, rc3, unhide O6, unhide H5, unhide D5, hlen1, by simp; omega, (unhide O6).lt (g := B) rfl |>.2, unhide hR1⟩
          case round =>
            obtain ⟨j, hj, rfl, rfl, os, L', ra', rc', hO, hT, hD, hlm, hol, hBr, hRR⟩ := hrel
            clear O6 H5 D5 hR1
            obtain ⟨av, cv, ev⟩ := hO.form
            subst ev
            by_cases hlt : j < 16
            · have b2 : (j : Int) < 16 := by omega
              have hdel := ih hT hlm yo (j : Int)
              have hsh := delF_len m L' yo (j : Int)
              rw [show 16 - j = (16 - (j + 1)) + 1 by omega, delS_more] at hRR
              obtain ⟨⟨r1, L2, cc⟩, hr⟩ : ∃ r, delF m L' yo (j : Int) = r := ⟨_, rfl⟩
              rw [hr] at hdel hsh hRR
              simp only at hsh hRR
              have c1 := hD.c.cell (i := 1) rfl
              replace hO := hide hO
              replace hT := hide hT
              replace hD := hide hD
              replace hdel := hide hdel
              replace hRR := hide hRR
              clear hr
              go_wp2_with fail
              refine (unhide hdel).mono ?_
              rintro e W6 ⟨v6, rfl, O7, ⟨ra6, rc6, H6⟩, K6⟩
              simp only at O7 H6 ⊢
              have hBx : B ≠ x := by have := unhide hC4; have := unhide xlt'; omega
              have O6 := hide ((unhide hO).kept K6 (fun g hg => by have := ((unhide hO).lt hg).1; have := unhide hC4; have := unhide xlt'; simp; omega))
              have D6 := hide ((unhide hD).on K6 (unhide hPx) (unhide hCx))
              replace H6 := hide H6
              replace O7 := hide O7
              have hBs : Hid (B ≤ W6.heap.size) := by
                have h2 := K6.size
                unfold Hid
                omega
              have hBs' : Hid (B < W6.heap.size) := by have h2 := K6.size; unfold Hid; omega
              clear K6 hO hT hD hdel c1
              go_wp2_with (first
                | (at_builtin; refine olist_app rfl _ _ rfl _ (.slice av os.length cv) _ os r1 rfl rfl (unhide O6) (unhide O7).src ?c1 ?c2 ?_)
                | go_in)
              case c1 => omega
              case c2 => exact unhide hBs
              intro v' W8 hO8 hg8 hat8
              have kb := kp_by hg8
              have H8 : Hid (RT base W8 x ra6 rc6 L2) := by
                refine (unhide H6).kept kb (fun mm => ?_) (fun g hg mm => ?_)
                · have := ((unhide O6).lt (Option.mem_toList.1 mm)).1
                  have := unhide hC4
                  have := unhide xlt'
                  omega
                · exact rt_apart (unhide H6) (unhide O6) (Option.mem_toList.1 mm) hg rfl
              have D8 : Hid (Dk w x w.heap.size C n s 2 yo yz yb yr W8) := by
                refine ⟨(unhide D6).kp.trans kb (by simp) (fun g mm => ?_), (unhide D6).p.kept kb (fun mm => ?_), (unhide D6).c.kept kb (fun mm => ?_)⟩
                all_goals
                  have := ((unhide O6).lt (Option.mem_toList.1 mm)).1
                  have := unhide hC4
                  omega
              have hB8 : B < W8.heap.size := Nat.lt_of_lt_of_le (unhide hBs') kb.size
              have O8 := hide hO8
              clear hO8 hg8 hat8 kb O6 O7 H6 D6
              go_wp2
              go_roundg (16 - (j + 1))
              case measure => omega
              case rel => exact ⟨j + 1, by omega, rfl, by go_num, os ++ r1, L2, ra6, rc6, unhide O8, unhide H8, unhide D8, by omega, by rw [List.length_append]; omega, hB8, by rw [List.append_assoc, show ((j + 1 : Nat) : Int) = (j : Int) + 1 by omega]; exact unhide hRR⟩
            · have b2 : decide ((j : Int) < 16) = false := by simp; omega
              obtain rfl : j = 16 := by omega
              have e1 : (os, L', (0 : Int)) = R := by rw [← hRR]; simp [delS]
              subst e1
              have hO2 := hide (hO.mono (base' := w.heap.size) (by have := unhide hC4; omega))
              replace hT := hide hT
              replace hD := hide hD
              clear hRR hO
              go_wp2
              refine bodyPost_ret (v := .tuple #[.slice av os.length cv, .int .i64 0]) (by simp [results, Try.results17, go_sem, *]) rfl ⟨_, rfl, unhide hO2, ⟨ra', rc', unhide hT⟩, (unhide hD).kp⟩
        · rw [if_pos hk2] at hR1
          subst hR1
          have b2 : (yk != 2) = true := by simp [hk2]
          replace hk2 := hide hk2
          have d0 := (unhide D5).c.cell (i := 0) rfl
          go_wp2
          refine bodyPost_ret (v := .tuple #[.slice (some ⟨W4.heap.size, 0, none⟩) 1 1, .int .i64 0]) (by simp [results, Try.results17, go_sem, *]) rfl ⟨_, rfl, unhide O5, ⟨ra3, rc3, unhide H5⟩, (unhide D5).kp⟩
end Go.Proofs.Ytdlkaaiedfikoaa
