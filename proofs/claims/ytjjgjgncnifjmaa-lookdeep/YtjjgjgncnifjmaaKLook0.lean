/- The document's look: the way to a slot. -/
import Derived.Test.YtjjgjgncnifjmaaKAddr
import Derived.Test.YtjjgjgncnifjmaaKLk
import Derived.Test.YtjjgjgncnifjmaaKBits
import Derived.Deep.DeepCutAuto
import Derived.Deep.CutBlock
namespace Go.Proofs.Ytjjgjgncnifjmaa
open Go.RowKit
set_option linter.unusedVariables false
/-- The way through so many nodes at most. -/
def goL (L : List Sl) : Nat → Int → Int → Int → Int → Int → Int → Int → Option (Int × Int)
  | 0, _, _, _, _, _, _, _ => none
  | m + 1, k, o, z, b, r, v, d => if stepOk k o z b r v d = true then (if stepL k o z b r v d = 0 then some (o, stepS k o z b r v d) else (match lkS L o (stepS k o z b r v d) with | none => none | some x => goL L m x.k x.o x.z x.b x.r (v % ((2 ^ (stepL k o z b r v d).toNat : Nat) : Int)) (stepL k o z b r v d))) else none
def findL (L : List Sl) (k o z b r a : Int) : Option (Int × Int) := if splitOk a = true then goL L 6 k o z b r (splitV a) (splitD a) else none
/-- A place and a code. -/
def findV (q : Option (Int × Int)) : Value := match q with | some p => .tuple #[.agg #[.int .i64 p.1, .int .i64 p.2], .int .i64 0] | none => .tuple #[.agg #[.int .i64 0, .int .i64 0], .int .i64 2]
theorem goL_no {L : List Sl} {m : Nat} {k o z b r v d : Int} (h : ¬ stepP k o z b r v d) : goL L m k o z b r v d = none := by
  cases m with
  | zero => rfl
  | succ m => rw [goL, (step_no h).1]; rfl
theorem goL_end {L : List Sl} {m : Nat} {k o z b r v d : Int} (h : stepP k o z b r v d) (hl : d - z - 4 = 0) : goL L (m + 1) k o z b r v d = some (o, v / ((2 ^ (d - z - 4).toNat : Nat) : Int) % 16) := by
  obtain ⟨h1, h2, h3⟩ := step_yes h
  rw [goL, if_pos h1, h2, h3, if_pos hl]
theorem goL_none {L : List Sl} {m : Nat} {k o z b r v d S : Int} (h : stepP k o z b r v d) (hl : ¬ d - z - 4 = 0) (hS : v / ((2 ^ (d - z - 4).toNat : Nat) : Int) % 16 = S) (hx : lkS L o S = none) : goL L (m + 1) k o z b r v d = none := by
  obtain ⟨h1, h2, h3⟩ := step_yes h
  rw [goL, if_pos h1, h2, h3, if_neg hl, hS, hx]
theorem goL_on {L : List Sl} {m : Nat} {k o z b r v d S : Int} {x : Sl} (h : stepP k o z b r v d) (hl : ¬ d - z - 4 = 0) (hS : v / ((2 ^ (d - z - 4).toNat : Nat) : Int) % 16 = S) (hx : lkS L o S = some x) : goL L (m + 1) k o z b r v d = goL L m x.k x.o x.z x.b x.r (v % ((2 ^ (d - z - 4).toNat : Nat) : Int)) (d - z - 4) := by
  obtain ⟨h1, h2, h3⟩ := step_yes h
  rw [goL, if_pos h1, h2, h3, if_neg hl, hS, hx]
theorem and_lowL {v l : Int} (h0 : 0 ≤ v) (h1 : v < 16777216) (hl : 0 ≤ l) (hl2 : l ≤ 24) {p : Int} (hp : ((2 ^ l.toNat : Nat) : Int) = p) : bits .and .i64 v (p - 1) = v % p := by
  obtain ⟨n, rfl⟩ := Int.eq_ofNat_of_zero_le h0
  have hb := pow24 l hl hl2
  have e : p - 1 = ((2 ^ l.toNat - 1 : Nat) : Int) := by omega
  rw [e, i64_low n l.toNat (by omega) (by omega), ← hp]
  simp
theorem rstep_yes (k o s b r v d S L : Int) (w : World) (h : stepP k o s b r v d) (hS : v / ((2 ^ (d - s - 4).toNat : Nat) : Int) % 16 = S) (hL : d - s - 4 = L) :
    Calls Try.prog 26 #[.agg #[.int .i64 k, .int .i64 o, .int .i64 s, .int .i64 b, .int .i64 r], .int .i64 v, .int .i64 d] w fun e w' => e = .returned (.tuple #[.int .i64 S, .int .i64 L, .bool true]) ∧ Kp [] w w' := by
  have := rstep_calls k o s b r v d w
  rw [(step_yes h).1, (step_yes h).2.1, (step_yes h).2.2, hS, hL] at this
  exact this
theorem rstep_no (k o s b r v d : Int) (w : World) (h : ¬ stepP k o s b r v d) :
    Calls Try.prog 26 #[.agg #[.int .i64 k, .int .i64 o, .int .i64 s, .int .i64 b, .int .i64 r], .int .i64 v, .int .i64 d] w fun e w' => e = .returned (.tuple #[.int .i64 0, .int .i64 0, .bool false]) ∧ Kp [] w w' := by
  have := rstep_calls k o s b r v d w
  rw [(step_no h).1, (step_no h).2.1, (step_no h).2.2] at this
  exact this
theorem rsplit_to (a v d : Int) (q : Bool) (w : World) (h : 0 ≤ a ∧ a < 4294967296) (h1 : splitV a = v) (h2 : splitD a = d) (h3 : splitOk a = q) :
    Calls Try.prog 25 #[.int .u32 a] w fun e w' => e = .returned (.tuple #[.int .i64 v, .int .i64 d, .bool q]) ∧ w' = w := by subst h1; subst h2; subst h3; exact rsplit_calls a w h
set_option maxRecDepth 4000 in
set_option maxHeartbeats 2000000 in
theorem rfind_calls {base x : Nat} {w : World} {ra : Option Addr} {rc : Nat} {L : List Sl} (h : RT base w x ra rc L) (k o z b r a : Int) (ha : 0 ≤ a ∧ a < 4294967296) :
    Calls Try.prog 13 #[.pointer (some ⟨x, 0, none⟩), .agg #[.int .i64 k, .int .i64 o, .int .i64 z, .int .i64 b, .int .i64 r], .int .u32 a] w fun e w' => e = .returned (findV (findL L k o z b r a)) ∧ Kp [] w w' := by
  obtain ⟨sv, hsv⟩ : ∃ v, splitV a = v := ⟨_, rfl⟩
  obtain ⟨sd, hsd⟩ : ∃ v, splitD a = v := ⟨_, rfl⟩
  obtain ⟨q, hq⟩ : ∃ v, splitOk a = v := ⟨_, rfl⟩
  obtain ⟨F, hF0⟩ : ∃ F, findL L k o z b r a = F := ⟨_, rfl⟩
  rw [hF0]
  unfold findL at hF0
  rw [hq, hsv, hsd] at hF0
  replace hF0 := hide hF0
  have H := hide h
  replace hsv := hide hsv
  replace hsd := hide hsd
  replace hq := hide hq
  clear h
  go_enter Try.func13, Try.ntmps13
  go_wp2_with fail
  refine (rsplit_to a sv sd q _ ha (unhide hsv) (unhide hsd) (unhide hq)).mono ?_
  rintro e W1 ⟨rfl, rfl⟩
  cases q
  · have hn : F = none := (unhide hF0).symm
    subst hn
    clear hF0
    go_wp2
    refine bodyPost_ret (v := .tuple #[.agg #[.int .i64 0, .int .i64 0], .int .i64 2]) (by simp [results, Try.results13, go_sem, *]) rfl ⟨rfl, ?_⟩
    exact ((Kp.refl [] w).alloc _).alloc _
  · have hF : goL L 6 k o z b r sv sd = F := unhide hF0
    clear hF0
    have K0 := hide ((((Kp.refl [] w).alloc (.cells #[.int .i64 k, .int .i64 o, .int .i64 z, .int .i64 b, .int .i64 r] 24)).alloc (.cells #[.int .i64 0, .int .i64 0] 40)).alloc (.cells #[.int .i64 k, .int .i64 o, .int .i64 z, .int .i64 b, .int .i64 r] 24))
    have R0 := hide ((Bk.next (p := w.heap.size + 1) (w.alloc (.cells #[.int .i64 k, .int .i64 o, .int .i64 z, .int .i64 b, .int .i64 r] 24)) 40 [.int .i64 0, .int .i64 0] (by simp)).alloc (.cells #[.int .i64 k, .int .i64 o, .int .i64 z, .int .i64 b, .int .i64 r] 24))
    have C0 := hide (Bk.next (p := w.heap.size + 1 + 1) ((w.alloc (.cells #[.int .i64 k, .int .i64 o, .int .i64 z, .int .i64 b, .int .i64 r] 24)).alloc (.cells #[.int .i64 0, .int .i64 0] 40)) 24 [.int .i64 k, .int .i64 o, .int .i64 z, .int .i64 b, .int .i64 r] (by simp))
    obtain ⟨t, et⟩ : ∃ t, w.heap.size = t := ⟨_, rfl⟩
    rw [et] at R0 C0
    replace hF := hide hF
    have hsz : Hid (w.heap.size ≤ t) := by unfold Hid; omega
    clear hsv hsd hq
    go_wp2_with fail
    clear et
    go_loopg [8, 9, 12] 6 (fun m vv dd i wr => ∃ (j : Nat) (k o z b r v d : Int), j ≤ 6 ∧ m = 6 - j ∧ i = .int .i64 j ∧ vv = .int .i64 v ∧ dd = .int .i64 d ∧ Bk wr (t + 1) 40 [.int .i64 0, .int .i64 0] ∧ Bk wr (t + 1 + 1) 24 [.int .i64 k, .int .i64 o, .int .i64 z, .int .i64 b, .int .i64 r] ∧ goL L (6 - j) k o z b r v d = F ∧ Kp [] w wr)
    case atStart => exact ⟨0, k, o, z, b, r, sv, sd, Nat.zero_le _, by omega, rfl, rfl, rfl, unhide R0, unhide C0, unhide hF, unhide K0⟩
    case round =>
      obtain ⟨j, k, o, z, b, r, v, d, hj, rfl, rfl, rfl, rfl, hR, hC, hG, hK⟩ := hrel
      clear R0 C0 hF K0
      by_cases hlt : j < 6
      · have b1 : (j : Int) < 6 := by omega
        have c0 := hC.cell (i := 0) rfl
        have c1 := hC.cell (i := 1) rfl
        have c2 := hC.cell (i := 2) rfl
        have c3 := hC.cell (i := 3) rfl
        have c4 := hC.cell (i := 4) rfl
        rw [show 6 - j = (6 - (j + 1)) + 1 by omega] at hG
        have hclt := hC.lt
        by_cases hs : stepP k o z b r v d
        · obtain ⟨S, hS⟩ : ∃ S, v / ((2 ^ (d - z - 4).toNat : Nat) : Int) % 16 = S := ⟨_, rfl⟩
          obtain ⟨lf, hlf⟩ : ∃ lf, d - z - 4 = lf := ⟨_, rfl⟩
          have hsb : (0 ≤ lf ∧ lf ≤ 24) ∧ (0 ≤ v ∧ v < 16777216) := by
            obtain ⟨hk2, ⟨_, _, _, hfit⟩, hd, hv, hz, _⟩ := hs
            have hp := pow24 d hd.1 hd.2
            subst hk2
            unfold fitP at hfit
            simp at hfit
            omega
          by_cases hl0 : lf = 0
          · have hres := goL_end (L := L) (m := 6 - (j + 1)) hs (hlf.trans hl0)
            rw [hG, hS] at hres
            replace hs := hide hs
            replace hS := hide hS
            replace hlf := hide hlf
            subst hl0
            replace hK := hide hK
            replace hR := hide hR
            replace hC := hide hC
            subst hres
            go_wp2_with fail
            refine (rstep_yes k o z b r v d S 0 _ (unhide hs) (unhide hS) (unhide hlf)).mono ?_
            rintro e W3 ⟨rfl, K3⟩
            have hC3 := (unhide hC).kept K3 (by simp)
            have hR3 := hide ((unhide hR).kept K3 (by simp))
            have hK3 := hide ((unhide hK).then K3)
            have d1 := hC3.cell (i := 1) rfl
            have r0 := (unhide hR3).cell (i := 0) rfl
            have r1 := (unhide hR3).cell (i := 1) rfl
            have fr := (unhide hR3).frozen
            have rlt := (unhide hR3).lt
            clear K3 hC3 hC hK hR c0 c1 c2 c3 c4
            go_wp2
            refine bodyPost_ret (v := .tuple #[.agg #[.int .i64 o, .int .i64 S], .int .i64 0]) (by simp [results, Try.results13, go_sem, *]) rfl ⟨rfl, ?_⟩
            exact (kp_put2 (unhide hK3) (by have := unhide hsz; omega) _ _).alloc _
          · obtain ⟨P, hP⟩ : ∃ P, ((2 ^ lf.toNat : Nat) : Int) = P := ⟨_, rfl⟩
            have hPb := pow24 lf hsb.1.1 hsb.1.2
            rw [hP] at hPb
            have hsh : wrap64 ((2 : Int) ^ lf.toNat) = P := (wrap_pow lf hsb.1.1 hsb.1.2).trans hP
            have hand : bits .and .i64 v (P - 1) = v % P := and_lowL hsb.2.1 hsb.2.2 hsb.1.1 hsb.1.2 hP
            have hl0' : (lf == 0) = false := beq_eq_false_iff_ne.2 hl0
            replace hK := hide hK
            replace hR := hide hR
            replace hC := hide hC
            rcases rget_lk ((unhide H).grew (unhide hK)) o S with ⟨hn, _⟩ | ⟨y, hy, _⟩
            · have hres := goL_none (L := L) (m := 6 - (j + 1)) hs (by rw [hlf]; exact hl0) hS hn
              rw [hG] at hres
              subst hres
              replace hs := hide hs
              replace hS := hide hS
              replace hlf := hide hlf
              replace hn := hide hn
              replace hP := hide hP
              go_wp2_with fail
              refine (rstep_yes k o z b r v d S lf _ (unhide hs) (unhide hS) (unhide hlf)).mono ?_
              rintro e W3 ⟨rfl, K3⟩
              have hC3 := (unhide hC).kept K3 (by simp)
              have hR3 := hide ((unhide hR).kept K3 (by simp))
              have hK3 := hide (((unhide hK).then K3).alloc (.cells #[.int .i64 o, .int .i64 S] 40))
              have d1 := hC3.cell (i := 1) rfl
              clear K3 hC3 hC hK hR c0 c1 c2 c3 c4
              go_wp2_with fail
              rcases rget_lk ((unhide H).grew (unhide hK3)) o S with ⟨hn2, hc⟩ | ⟨y, hy, _⟩
              · refine hc.mono ?_
                rintro e W4 ⟨rfl, K4⟩
                have hR4 := hide ((((unhide hR3).alloc (.cells #[.int .i64 o, .int .i64 S] 40)).kept K4 (by simp)).alloc (.cells #[.int .i64 0, .int .i64 0, .int .i64 0, .int .i64 0, .int .i64 0] 24))
                have r0 := (unhide hR4).cell (i := 0) rfl
                have r1 := (unhide hR4).cell (i := 1) rfl
                have fr := (unhide hR4).frozen
                have hK4 := hide (((unhide hK3).then K4).alloc (.cells #[.int .i64 0, .int .i64 0, .int .i64 0, .int .i64 0, .int .i64 0] 24))
                clear K4 hn2
                go_wp2
                refine bodyPost_ret (v := .tuple #[.agg #[.int .i64 0, .int .i64 0], .int .i64 2]) (by simp [results, Try.results13, go_sem, *]) rfl ⟨rfl, ?_⟩
                exact kp_put2 (unhide hK4) (by have := unhide hsz; omega) _ _
              · rw [unhide hn] at hy; cases hy
            · have hres := goL_on (L := L) (m := 6 - (j + 1)) hs (by rw [hlf]; exact hl0) hS hy
              rw [hG, hlf, hP] at hres
              replace hres := hide hres
              replace hs := hide hs
              replace hS := hide hS
              replace hlf := hide hlf
              replace hy := hide hy
              replace hP := hide hP
              go_wp2_with fail
              refine (rstep_yes k o z b r v d S lf _ (unhide hs) (unhide hS) (unhide hlf)).mono ?_
              rintro e W3 ⟨rfl, K3⟩
              have hC3 := hide ((unhide hC).kept K3 (by simp))
              have hR3 := hide ((unhide hR).kept K3 (by simp))
              have hK3 := hide (((unhide hK).then K3).alloc (.cells #[.int .i64 o, .int .i64 S] 40))
              have d1 := (unhide hC3).cell (i := 1) rfl
              clear K3 hC hK hR c0 c1 c2 c3 c4
              go_wp2_with fail
              rcases rget_lk ((unhide H).grew (unhide hK3)) o S with ⟨hn2, _⟩ | ⟨y2, hy2, hc⟩
              · rw [unhide hy] at hn2; cases hn2
              · have ey : y2 = y := by rw [unhide hy] at hy2; exact (Option.some.inj hy2).symm
                subst ey
                refine hc.mono ?_
                rintro e W4 ⟨rfl, K4⟩
                obtain ⟨yn, ys, yu, yv, yk, yo, yz, yb, yr⟩ := y2
                have hR4 := hide ((((unhide hR3).alloc (.cells #[.int .i64 o, .int .i64 S] 40)).kept K4 (by simp)).alloc (.cells #[.int .i64 yk, .int .i64 yo, .int .i64 yz, .int .i64 yb, .int .i64 yr] 24))
                have hC4 := hide ((((unhide hC3).alloc (.cells #[.int .i64 o, .int .i64 S] 40)).kept K4 (by simp)).alloc (.cells #[.int .i64 yk, .int .i64 yo, .int .i64 yz, .int .i64 yb, .int .i64 yr] 24))
                have fr := (unhide hC4).frozen
                have c0 := (unhide hC4).cell (i := 0) rfl
                have c1 := (unhide hC4).cell (i := 1) rfl
                have c2 := (unhide hC4).cell (i := 2) rfl
                have c3 := (unhide hC4).cell (i := 3) rfl
                have c4 := (unhide hC4).cell (i := 4) rfl
                have hK4 := hide (((unhide hK3).then K4).alloc (.cells #[.int .i64 yk, .int .i64 yo, .int .i64 yz, .int .i64 yb, .int .i64 yr] 24))
                clear K4 hy2 hR3 hC3 hK3
                go_wp2
                go_roundg (6 - (j + 1))
                case measure => omega
                case rel => exact ⟨j + 1, yk, yo, yz, yb, yr, v % P, lf, by omega, rfl, by go_num, rfl, rfl, (unhide hR4).kept (kp_put5 (Kp.refl [t + 1 + 1] _) (.inl (by simp)) _ _ _ _ _) (by simp), bk_put5 (unhide hC4) _ _ _ _ _, (unhide hres).symm, kp_put5 (unhide hK4) (.inr (by have := unhide hsz; omega)) _ _ _ _ _⟩
        · have hres := goL_no (L := L) (m := 6 - (j + 1) + 1) hs
          rw [hG] at hres
          subst hres
          replace hs := hide hs
          replace hK := hide hK
          replace hR := hide hR
          clear hC
          go_wp2_with fail
          refine (rstep_no k o z b r v d _ (unhide hs)).mono ?_
          rintro e W3 ⟨rfl, K3⟩
          have hR3 := hide ((unhide hR).kept K3 (by simp))
          have r0 := (unhide hR3).cell (i := 0) rfl
          have r1 := (unhide hR3).cell (i := 1) rfl
          have fr := (unhide hR3).frozen
          have hK3 := hide ((unhide hK).then K3)
          clear K3
          go_wp2
          refine bodyPost_ret (v := .tuple #[.agg #[.int .i64 0, .int .i64 0], .int .i64 2]) (by simp [results, Try.results13, go_sem, *]) rfl ⟨rfl, ?_⟩
          exact kp_put2 (unhide hK3) (by have := unhide hsz; omega) _ _
      · have b1 : decide ((j : Int) < 6) = false := by simp; omega
        obtain rfl : j = 6 := by omega
        have hn : F = none := hG.symm
        subst hn
        have r0 := hR.cell (i := 0) rfl
        have r1 := hR.cell (i := 1) rfl
        have fr := hR.frozen
        replace hK := hide hK
        replace hR := hide hR
        clear hC
        go_wp2
        refine bodyPost_ret (v := .tuple #[.agg #[.int .i64 0, .int .i64 0], .int .i64 2]) (by simp [results, Try.results13, go_sem, *]) rfl ⟨rfl, ?_⟩
        exact kp_put2 (unhide hK) (by have := unhide hsz; omega) _ _
/-- What Cap tells: a capability, its place, a code. -/
def lookAt (L : List Sl) (q : Option (Int × Int)) (kind : Int) : Value := match q with
  | none => .tuple #[.agg #[.int .i64 0, .int .i64 0, .int .i64 0, .int .i64 0, .int .i64 0], .agg #[.int .i64 0, .int .i64 0], .int .i64 2]
  | some p => match lkS L p.1 p.2 with
    | none => .tuple #[.agg #[.int .i64 0, .int .i64 0, .int .i64 0, .int .i64 0, .int .i64 0], .agg #[.int .i64 0, .int .i64 0], .int .i64 4]
    | some x => if kind = 0 ∨ x.k = kind then .tuple #[.agg #[.int .i64 x.k, .int .i64 x.o, .int .i64 x.z, .int .i64 x.b, .int .i64 x.r], .agg #[.int .i64 p.1, .int .i64 p.2], .int .i64 0] else .tuple #[.agg #[.int .i64 0, .int .i64 0, .int .i64 0, .int .i64 0, .int .i64 0], .agg #[.int .i64 0, .int .i64 0], .int .i64 5]
end Go.Proofs.Ytjjgjgncnifjmaa
