/- The document's table: all that is below a place. -/
import Derived.Test.YtnkpjefbmmhjjaaKTab3
namespace Go.Proofs.Ytnkpjefbmmhjjaa
open Go.RowKit
set_option linter.unusedVariables false
/-- Up from a place, no further than the one that is asked for, or to where there is no parent. -/
def climb (L : List Sl) (n s : Int) : Nat → Int → Int → Int × Int
  | 0, u, v => (u, v)
  | m + 1, u, v => if (u = n ∧ v = s) ∨ (u = 0 ∧ v = 0) then (u, v) else climb L n s m (parL L u v).1 (parL L u v).2
theorem climb_stop {L : List Sl} {n s u v : Int} (h : (u = n ∧ v = s) ∨ (u = 0 ∧ v = 0)) (m : Nat) : climb L n s m u v = (u, v) := by
  cases m with
  | zero => rfl
  | succ m => unfold climb; rw [if_pos h]
theorem climb_up {L : List Sl} {n s u v u' v' : Int} (h : ¬ ((u = n ∧ v = s) ∨ (u = 0 ∧ v = 0))) (hp : parL L u v = (u', v')) (m : Nat) : climb L n s (m + 1) u v = climb L n s m u' v' := by
  rw [climb, if_neg h, hp]
def lowF (L : List Sl) (n s : Int) (x : Sl) : Bool := ((climb L n s (L.length + 1) x.u x.v).1 == n && (climb L n s (L.length + 1) x.u x.v).2 == s) && !(n == 0 && s == 0)
theorem bk_two {w : World} {q : Nat} {T : TypeId} {a b c d : Value} (h : Bk w q T [a, b]) : Bk ((w.setCell ⟨q, 0, none⟩ c).setCell ⟨q, 1, none⟩ d) q T [c, d] := (h.set 0 c).set 1 d
theorem stop_bk {L : List Sl} {n s yu yv fu fv : Int} {m q : Nat} {T : TypeId} {w : World} (hc : climb L n s m yu yv = (fu, fv)) (h : (yu = n ∧ yv = s) ∨ (yu = 0 ∧ yv = 0)) (hq : Bk w q T [.int .i64 yu, .int .i64 yv]) : Bk w q T [.int .i64 fu, .int .i64 fv] := by
  rw [climb_stop h] at hc; cases hc; exact hq
theorem step_climb {L : List Sl} {n s yu yv u' v' : Int} {l : Nat} {q : Int × Int} (hl : l ≤ L.length) (hc : climb L n s (L.length + 1 - l) yu yv = q) (h : ¬ ((yu = n ∧ yv = s) ∨ (yu = 0 ∧ yv = 0))) (hp : parL L yu yv = (u', v')) : climb L n s (L.length + 1 - (l + 1)) u' v' = q := by
  rw [show L.length + 1 - l = L.length + 1 - (l + 1) + 1 by omega, climb_up h hp] at hc
  exact hc
set_option maxRecDepth 4000 in
set_option maxHeartbeats 2000000 in
theorem rbelow_calls {base : Nat} {w : World} {t : Nat} {a : Option Addr} {cap : Nat} {L : List Sl} (h : RT base w t a cap L) (n s : Int) :
    Calls Try.prog 28 #[.pointer (some ⟨t, 0, none⟩), .agg #[.int .i64 n, .int .i64 s]] w (ListP w (sel (lowF L n s) L)) := by
  obtain ⟨i0, hi, hinf⟩ := Option.map_eq_some_iff.1 Try.infoPlace
  simp only [Prod.mk.injEq] at hinf
  obtain ⟨hz0, hz1, hz2⟩ := hinf
  have hs := h.small
  have K0 := (Kp.refl [] w).alloc (.cells #[.int .i64 n, .int .i64 s] 35)
  have H := h.grew K0
  have P0 := Bk.new w 35 [.int .i64 n, .int .i64 s]
  have c0 := H.head.cell (i := 0) rfl
  replace K0 := hide K0
  replace H := hide H
  replace P0 := hide P0
  clear h
  obtain ⟨F, hF⟩ : ∃ F, lowF L n s = F := ⟨_, rfl⟩
  rw [hF]
  replace hF := hide hF
  go_enter Try.func28, Try.ntmps28
  go_wp2_with fail
  generalize w.alloc (.cells #[.int .i64 n, .int .i64 s] 35) = w1 at K0 H P0 c0
  go_loopg [5, 6] L.length (fun m v i wx => ∃ j : Nat, j ≤ L.length ∧ m = L.length - j ∧ i = .int .i64 j ∧ Pl w1.heap.size wx v (sel F (L.take j)) ∧ Kp [] w1 wx)
  case atStart => exact ⟨0, Nat.zero_le _, rfl, rfl, Pl.nil _ _, Kp.refl _ _⟩
  case round =>
    obtain ⟨j, hj, rfl, rfl, hP, hK⟩ := hrel
    clear c0
    have hR := (unhide H).grew hK
    have hB := (unhide P0).kept hK (by simp)
    have c0 := hR.head.cell (i := 0) rfl
    by_cases hlt : j < L.length
    · obtain ⟨g, rfl⟩ := hR.addr (by omega)
      obtain ⟨x, hx⟩ : ∃ x, L[j]? = some x := ⟨_, List.getElem?_eq_getElem hlt⟩
      obtain ⟨xn, hn⟩ : ∃ v, x.n = v := ⟨_, rfl⟩
      obtain ⟨xs, hs'⟩ : ∃ v, x.s = v := ⟨_, rfl⟩
      have x0 : wr.cell? ⟨g, j * 9, none⟩ = some (.int .i64 xn) := by rw [← hn]; exact hR.cell hx 0 (by omega)
      have x1 : wr.cell? ⟨g, j * 9 + 1, none⟩ = some (.int .i64 xs) := by rw [← hs']; exact hR.cell hx 1 (by omega)
      have b1 : (j : Int) < (L.length : Int) := by omega
      have b2 : ((j : Int)).toNat = j := Int.toNat_natCast j
      have hlen := sel_len F (L.take j)
      rw [List.length_take] at hlen
      obtain ⟨ps, hps⟩ : ∃ ps, sel F (L.take j) = ps := ⟨_, rfl⟩
      have hyes : F x = true → Hid (sel F (L.take (j + 1)) = ps ++ [(xn, xs)]) := fun hf => by unfold Hid; rw [sel_yes hx hf, hps, hn, hs']
      have hno : F x = false → Hid (sel F (L.take (j + 1)) = ps) := fun hf => by unfold Hid; rw [sel_no hx hf, hps]
      rw [hps] at hP hlen
      obtain ⟨xu, hu⟩ : ∃ v, x.u = v := ⟨_, rfl⟩
      obtain ⟨xv, hv⟩ : ∃ v, x.v = v := ⟨_, rfl⟩
      have x2 : wr.cell? ⟨g, j * 9 + 2, none⟩ = some (.int .i64 xu) := by rw [← hu]; exact hR.cell hx 2 (by omega)
      have x3 : wr.cell? ⟨g, j * 9 + 3, none⟩ = some (.int .i64 xv) := by rw [← hv]; exact hR.cell hx 3 (by omega)
      obtain ⟨⟨fu, fv⟩, hcl⟩ : ∃ q, climb L n s (L.length + 1) xu xv = q := ⟨_, rfl⟩
      have fx : F x = ((fu == n && fv == s) && !(n == 0 && s == 0)) := by rw [← unhide hF]; unfold lowF; rw [hu, hv, hcl]
      have hX : ∀ w', Kp [] wr w' → w'.cell? ⟨t, 0, none⟩ = some (.slice (some ⟨g, 0, none⟩) L.length cap) ∧ w'.cell? ⟨g, j * 9, none⟩ = some (.int .i64 xn) ∧ w'.cell? ⟨g, j * 9 + 1, none⟩ = some (.int .i64 xs) ∧ w'.cell? ⟨w.heap.size, 0, none⟩ = some (.int .i64 n) ∧ w'.cell? ⟨w.heap.size, 1, none⟩ = some (.int .i64 s) := fun w' kk => by
        have R' := hR.grew kk
        have B' := hB.kept kk (by simp)
        rw [← hn, ← hs']
        exact ⟨R'.head.cell rfl, R'.cell hx 0 (by omega), R'.cell hx 1 (by omega), B'.cell rfl, B'.cell rfl⟩
      have hRR : ∀ w', Kp [] wr w' → RT base w' t (some ⟨g, 0, none⟩) cap L := fun w' kk => hR.grew kk
      have hq0 := Bk.new wr 35 [.int .i64 xu, .int .i64 xv]
      have hk0 := (Kp.refl [] wr).alloc (.cells #[.int .i64 xu, .int .i64 xv] 35)
      have y0 := hX _ hk0
      replace hq0 := hide hq0
      replace hk0 := hide hk0
      replace hX := hide hX
      replace hRR := hide hRR
      replace hcl := hide hcl
      clear hR hn hs' hps hB hu hv hx
      replace hP := hide hP
      replace hK := hide hK
      go_upto_block 2 with fail
      go_cut [] (fun wx => Bk wx wr.heap.size 35 [.int .i64 fu, .int .i64 fv] ∧ Kp [] wr wx)
      case first =>
        go_wp2_with fail
        go_loopg [8] (L.length + 1) (fun m i wx => ∃ (l : Nat) (yu yv : Int), l ≤ L.length + 1 ∧ m = L.length + 1 - l ∧ i = .int .i64 l ∧ climb L n s (L.length + 1 - l) yu yv = (fu, fv) ∧ Bk wx wr.heap.size 35 [.int .i64 yu, .int .i64 yv] ∧ Kp [] wr wx)
        case atStart => exact ⟨0, xu, xv, by omega, rfl, rfl, unhide hcl, unhide hq0, unhide hk0⟩
        case round =>
          obtain ⟨l, yu, yv, hl, rfl, rfl, hc, hq, hk⟩ := hrel
          have y0 := unhide hX _ hk
          have q0 := hq.cell (i := 0) rfl
          have q1 := hq.cell (i := 1) rfl
          have qf := hq.frozen
          replace hq := hide hq
          replace hc := hide hc
          replace hk := hide hk
          by_cases hle : l ≤ L.length
          · have b3 : (l : Int) ≤ (L.length : Int) := by omega
            obtain ⟨⟨u', v'⟩, hp⟩ : ∃ q, parL L yu yv = q := ⟨_, rfl⟩
            replace hp := hide hp
            go_wp2_with fail
            all_goals first
              | (go_meet
                 case rel => exact ⟨stop_bk (unhide hc) (by omega) (unhide hq), unhide hk⟩)
              | (subst_vars
                 go_meet
                 case rel => exact ⟨stop_bk (unhide hc) (by omega) (unhide hq), unhide hk⟩)
              | (have hst : Hid (¬ ((yu = n ∧ yv = s) ∨ (yu = 0 ∧ yv = 0))) := by unfold Hid; omega
                 subst_vars
                 refine (rparent_calls (unhide hRR _ (unhide hk)) _ _ u' v' (unhide hp)).mono ?_
                 rintro e W1 ⟨rfl, K1⟩
                 have hq1 := (unhide hq).kept K1 (by simp)
                 have hk1 := hide ((unhide hk).then K1)
                 have z0 := hq1.cell (i := 0) rfl
                 have z1 := hq1.cell (i := 1) rfl
                 have zf := hq1.frozen
                 have hq2 := hide (bk_two (c := .int .i64 u') (d := .int .i64 v') hq1)
                 have hc2 := hide (step_climb hle (unhide hc) (unhide hst) (unhide hp))
                 clear hq hk hc hp hst K1 hq1
                 go_wp2
                 go_roundg (L.length + 1 - (l + 1))
                 case measure => omega
                 case rel => exact ⟨l + 1, u', v', by omega, rfl, by go_num, unhide hc2, unhide hq2, ((unhide hk1).setCell (.inr (Nat.le_refl _)) _).setCell (.inr (Nat.le_refl _)) _⟩)
          · have b3 : decide ((l : Int) ≤ (L.length : Int)) = false := decide_eq_false (by omega)
            have hl0 : L.length + 1 - l = 0 := by omega
            have hc' : climb L n s 0 yu yv = (fu, fv) := by rw [← hl0]; exact unhide hc
            cases hc'
            go_wp2
            go_meet
            case rel => exact ⟨unhide hq, unhide hk⟩
      case rest =>
        obtain ⟨hq, hk⟩ := hcut
        have y1 := unhide hX _ hk
        have q0 := hq.cell (i := 0) rfl
        have q1 := hq.cell (i := 1) rfl
        replace hP := hide ((unhide hP).kept hk (by simp))
        replace hK := hide ((unhide hK).then hk)
        clear hq hk hq0 hk0 y0
        by_cases e1 : fu = n
        · subst e1
          by_cases e2 : fv = s
          · subst e2
            by_cases z1 : fu = 0
            · subst z1
              by_cases z2 : fv = 0
              · subst z2
                have hsel := hno (by rw [fx]; rfl)
                clear hyes hno fx
                go_wp2
                go_roundg (L.length - (j + 1))
                case measure => omega
                case rel => exact ⟨j + 1, by omega, rfl, by go_num, by rw [unhide hsel]; exact unhide hP, unhide hK⟩
              · have z2' : (fv == 0) = false := beq_eq_false_iff_ne.2 z2
                have hsel := hyes (by rw [fx]; simp [z2])
                clear hyes hno fx
                go_wp2_with (first
                  | (at_builtin; refine wpList_append_own _ rfl _ _ 46 rfl w1.heap.size 35 i0 (.agg #[.int .i64 0, .int .i64 0]) 2 16 Try.underlying46 hi hz0 hz1 hz2 rfl (by decide) _ _ _ rfl ((unhide hP).alloc _) ⟨_, 0, none⟩ 1 1 [.int .i64 xn, .int .i64 xs] rfl rfl (place_new _ _ _) ?c2 ?c3 ?c4 ?c5 ?_)
                  | go_in)
                case c2 => intro u hu; simp at hu; rcases hu with rfl | rfl <;> rfl
                case c3 => unfold maxLen; omega
                case c4 => omega
                case c5 => exact ((unhide hK).alloc _).size
                intro v' w2 hown' hgrow hnil
                have hP1 : Hid (Pl w1.heap.size w2 v' (sel F (L.take (j + 1)))) := by
                  unfold Hid
                  rw [unhide hsel]
                  exact Pl.more hown'
                have hK1 := hide (kp_grown ((unhide hK).alloc _) hgrow (fun k hk => (World.ownsRow.lt (unhide hP) k hk).1))
                clear hP hK hsel hown' hgrow hnil
                go_wp2
                go_roundg (L.length - (j + 1))
                case measure => omega
                case rel => exact ⟨j + 1, by omega, rfl, by go_num, unhide hP1, unhide hK1⟩
            · have z1' : (fu == 0) = false := beq_eq_false_iff_ne.2 z1
              have hsel := hyes (by rw [fx]; simp [z1])
              clear hyes hno fx
              go_wp2_with (first
                | (at_builtin; refine wpList_append_own _ rfl _ _ 46 rfl w1.heap.size 35 i0 (.agg #[.int .i64 0, .int .i64 0]) 2 16 Try.underlying46 hi hz0 hz1 hz2 rfl (by decide) _ _ _ rfl ((unhide hP).alloc _) ⟨_, 0, none⟩ 1 1 [.int .i64 xn, .int .i64 xs] rfl rfl (place_new _ _ _) ?c2 ?c3 ?c4 ?c5 ?_)
                | go_in)
              case c2 => intro u hu; simp at hu; rcases hu with rfl | rfl <;> rfl
              case c3 => unfold maxLen; omega
              case c4 => omega
              case c5 => exact ((unhide hK).alloc _).size
              intro v' w2 hown' hgrow hnil
              have hP1 : Hid (Pl w1.heap.size w2 v' (sel F (L.take (j + 1)))) := by
                unfold Hid
                rw [unhide hsel]
                exact Pl.more hown'
              have hK1 := hide (kp_grown ((unhide hK).alloc _) hgrow (fun k hk => (World.ownsRow.lt (unhide hP) k hk).1))
              clear hP hK hsel hown' hgrow hnil
              go_wp2
              go_roundg (L.length - (j + 1))
              case measure => omega
              case rel => exact ⟨j + 1, by omega, rfl, by go_num, unhide hP1, unhide hK1⟩
          · have e2' : (fv == s) = false := beq_eq_false_iff_ne.2 e2
            have hsel := hno (by rw [fx]; simp [e2])
            clear hyes hno fx
            go_wp2
            go_roundg (L.length - (j + 1))
            case measure => omega
            case rel => exact ⟨j + 1, by omega, rfl, by go_num, by rw [unhide hsel]; exact unhide hP, unhide hK⟩
        · have e1' : (fu == n) = false := beq_eq_false_iff_ne.2 e1
          have hsel := hno (by rw [fx]; simp [e1])
          clear hyes hno fx
          go_wp2
          go_roundg (L.length - (j + 1))
          case measure => omega
          case rel => exact ⟨j + 1, by omega, rfl, by go_num, by rw [unhide hsel]; exact unhide hP, unhide hK⟩
    · have b1 : decide ((j : Int) < (L.length : Int)) = false := decide_eq_false (by omega)
      rw [List.take_of_length_le (show L.length ≤ j by omega)] at hP
      have hP' := hide (hP.mono (unhide K0).size)
      have hK' := hide ((unhide K0).then hK)
      clear hR hB hP hK
      go_wp2
      go_ret
      exact ⟨_, rfl, unhide hP', unhide hK'⟩
end Go.Proofs.Ytnkpjefbmmhjjaa
