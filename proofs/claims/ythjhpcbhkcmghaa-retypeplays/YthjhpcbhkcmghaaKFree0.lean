/- What keeps an Untyped's units from being taken anew; the document's free. -/
import Derived.Test.YthjhpcbhkcmghaaKTab
import Derived.Test.YthjhpcbhkcmghaaKCaps
import Derived.Deep.DeepCutAuto
import Derived.Deep.CutBlock
import Derived.Deep.RegionHeld3
import Derived.BigRegion
namespace Go.Proofs.Ythjhpcbhkcmghaa
open Go.RowKit
set_option linter.unusedVariables false
/-- Units that a capability has. -/
def unitsL (y : Sl) : Int := if y.k = 1 then y.z else 1
/-- An Untyped that has all of these. -/
def allB (o z : Int) (y : Sl) : Bool := (y.k == 1) && (decide (y.o ≤ o) && decide (o + z ≤ y.o + y.z))
def meetB (o z : Int) (y : Sl) : Bool := decide (y.o < o + z) && decide (o < y.o + unitsL y)
def keepB (o z : Int) (y : Sl) : Bool := !(allB o z y) && meetB o z y
def freeL (L : List Sl) (o z : Int) : Bool := !(L.any (keepB o z))
/-- Numbers as a capability's that is right are. -/
structure CapNs (k o z : Int) : Prop where
  o1 : 1 ≤ o
  o64 : o ≤ 64
  z0 : 0 ≤ z
  z64 : z ≤ 64
  u : k = 1 → 1 ≤ z ∧ z ≤ 65 - o
theorem capns_of {k o z b r : Int} (h : chk k o z b r = true) : CapNs k o z := by
  obtain ⟨_, _, ⟨h1, h2⟩, h3⟩ := (chk_iff _ _ _ _ _).1 h
  unfold fitP at h3
  by_cases k1 : k = 1
  · rw [if_pos k1] at h3
    exact ⟨h1, h2, by omega, by omega, fun _ => by omega⟩
  · rw [if_neg k1] at h3
    by_cases k2 : k = 2
    · rw [if_pos k2] at h3
      exact ⟨h1, h2, by omega, by omega, fun q => absurd q k1⟩
    · rw [if_neg k2] at h3
      split at h3
      · exact ⟨h1, h2, by omega, by omega, fun q => absurd q k1⟩
      · exact ⟨h1, h2, by omega, by omega, fun q => absurd q k1⟩
theorem CapNs.units {y : Sl} (h : CapNs y.k y.o y.z) : 1 ≤ unitsL y ∧ unitsL y ≤ 64 := by
  unfold unitsL
  split
  · rename_i e
    have := h.u e
    have := h.z64
    omega
  · omega
theorem free_no {L : List Sl} {o z : Int} {y : Sl} (hy : y ∈ L) (h : keepB o z y = true) : freeL L o z = false := by
  unfold freeL
  rw [List.any_eq_true.2 ⟨y, hy, h⟩]
  rfl
theorem free_yes {L : List Sl} {o z : Int} (h : ∀ l, l < L.length → ∀ y, L[l]? = some y → keepB o z y = false) : freeL L o z = true := by
  unfold freeL
  rw [Bool.not_eq_true', List.any_eq_false]
  intro y hy
  obtain ⟨l, hl, rfl⟩ := List.mem_iff_getElem.1 hy
  rw [h l hl _ (List.getElem?_eq_getElem hl)]
  simp
theorem keep_more {L : List Sl} {o z : Int} {j : Nat} {x : Sl} (h : ∀ l, l < j → ∀ y, L[l]? = some y → keepB o z y = false) (hx : L[j]? = some x) (hn : keepB o z x = false) : ∀ l, l < j + 1 → ∀ y, L[l]? = some y → keepB o z y = false := by
  intro l hl y hy
  by_cases e : l = j
  · subst e; rw [hx] at hy; cases hy; exact hn
  · exact h l (by omega) y hy
theorem runits_calls (k o z b r : Int) (w : World) (u : Int) (hu : (if k = 1 then z else 1) = u) :
    Calls Try.prog 54 #[capV k o z b r] w fun e w' => e = .returned (.int .i64 u) ∧ Kp [] w w' := by
  by_cases k1 : k = 1
  · subst k1
    rw [if_pos rfl] at hu
    subst hu
    go_enter Try.func54, Try.ntmps54
    go_wp2
    go_ret
    exact ⟨rfl, (Kp.refl _ _).alloc _⟩
  · rw [if_neg k1] at hu
    subst hu
    have k1' : (k == 1) = false := by simp [k1]
    clear k1
    go_enter Try.func54, Try.ntmps54
    go_wp2
    go_ret
    exact ⟨rfl, (Kp.refl _ _).alloc _⟩
set_option maxRecDepth 4000 in
set_option maxHeartbeats 2000000 in
theorem rfree_calls {base : Nat} {w : World} {t : Nat} {a : Option Addr} {cap : Nat} {L : List Sl} (h : RT base w t a cap L) (hc : ∀ y ∈ L, CapNs y.k y.o y.z) {k o z b r : Int} (ho : CapNs k o z) :
    Calls Try.prog 44 #[.pointer (some ⟨t, 0, none⟩), .agg #[.int .i64 k, .int .i64 o, .int .i64 z, .int .i64 b, .int .i64 r]] w fun e w' => e = .returned (.bool (freeL L o z)) ∧ Kp [] w w' := by
  have hs := h.small
  have H := hide (h.grew ((Kp.refl [] w).alloc (.cells #[.int .i64 k, .int .i64 o, .int .i64 z, .int .i64 b, .int .i64 r] 38)))
  have K0 := hide ((Kp.refl [] w).alloc (.cells #[.int .i64 k, .int .i64 o, .int .i64 z, .int .i64 b, .int .i64 r] 38))
  have P0 := hide (Bk.new w 38 [.int .i64 k, .int .i64 o, .int .i64 z, .int .i64 b, .int .i64 r])
  have c0 := (unhide H).head.cell (i := 0) rfl
  replace hc := hide hc
  replace ho := hide ho
  obtain ⟨S2, hS2⟩ : ∃ S, o + z = S := ⟨_, rfl⟩
  have w2 : IntKind.i64.wrap (o + z) = S2 := by rw [IntKind.wrap_i64]; have := (unhide ho).o1; have := (unhide ho).o64; have := (unhide ho).z0; have := (unhide ho).z64; omega
  replace hS2 := hide hS2
  clear h
  go_enter Try.func44, Try.ntmps44
  go_wp2_with fail
  generalize w.alloc (.cells #[.int .i64 k, .int .i64 o, .int .i64 z, .int .i64 b, .int .i64 r] 38) = w1 at *
  go_loopg [5] L.length (fun m i wx => ∃ j : Nat, j ≤ L.length ∧ m = L.length - j ∧ i = .int .i64 j ∧ (∀ l, l < j → ∀ y, L[l]? = some y → keepB o z y = false) ∧ Kp [] w1 wx)
  case atStart => exact ⟨0, Nat.zero_le _, rfl, rfl, fun l hl => by omega, Kp.refl _ _⟩
  case round =>
    obtain ⟨j, hj, rfl, rfl, hnot, hK⟩ := hrel
    clear c0
    have hR := (unhide H).grew hK
    have c0 := hR.head.cell (i := 0) rfl
    by_cases hlt : j < L.length
    · obtain ⟨g, rfl⟩ := hR.addr (by omega)
      obtain ⟨x, hx⟩ : ∃ x, L[j]? = some x := ⟨_, List.getElem?_eq_getElem hlt⟩
      have hxn := unhide hc x (List.mem_of_getElem? hx)
      have hun := hxn.units
      obtain ⟨kb, hkb⟩ : ∃ v, keepB o z x = v := ⟨_, rfl⟩
      have hx' := hide hx
      obtain ⟨xn, xs, xu, xv, xk, xo, xz, xb, xr⟩ := x
      have x4 : wr.cell? ⟨g, j * 9 + 4, none⟩ = some (.int .i64 xk) := hR.cell hx 4 (by omega)
      have x5 : wr.cell? ⟨g, j * 9 + 5, none⟩ = some (.int .i64 xo) := hR.cell hx 5 (by omega)
      have x6 : wr.cell? ⟨g, j * 9 + 6, none⟩ = some (.int .i64 xz) := hR.cell hx 6 (by omega)
      have x7 : wr.cell? ⟨g, j * 9 + 7, none⟩ = some (.int .i64 xb) := hR.cell hx 7 (by omega)
      have x8 : wr.cell? ⟨g, j * 9 + 8, none⟩ = some (.int .i64 xr) := hR.cell hx 8 (by omega)
      obtain ⟨un, hU⟩ : ∃ u, unitsL ⟨xn, xs, xu, xv, xk, xo, xz, xb, xr⟩ = u := ⟨_, rfl⟩
      rw [hU] at hun
      obtain ⟨S1, hS1⟩ : ∃ S, xo + xz = S := ⟨_, rfl⟩
      obtain ⟨S3, hS3⟩ : ∃ S, xo + un = S := ⟨_, rfl⟩
      have q1 := hxn.o1
      have q2 := hxn.o64
      have q3 := hxn.z0
      have q4 := hxn.z64
      simp only at q1 q2 q3 q4
      have w1' : IntKind.i64.wrap (xo + xz) = S1 := by rw [IntKind.wrap_i64]; omega
      have w3 : IntKind.i64.wrap (xo + un) = S3 := by rw [IntKind.wrap_i64]; omega
      have b1 : (j : Int) < (L.length : Int) := by omega
      have b2 : ((j : Int)).toNat = j := Int.toNat_natCast j
      obtain ⟨v1, g1⟩ : ∃ v, (xk == 1) = v := ⟨_, rfl⟩
      obtain ⟨v2, g2⟩ : ∃ v, decide (xo ≤ o) = v := ⟨_, rfl⟩
      obtain ⟨v3, g3⟩ : ∃ v, decide (S2 ≤ S1) = v := ⟨_, rfl⟩
      obtain ⟨v4, g4⟩ : ∃ v, decide (xo < S2) = v := ⟨_, rfl⟩
      obtain ⟨v5, g5⟩ : ∃ v, decide (o < S3) = v := ⟨_, rfl⟩
      have hka : Hid ((!(v1 && (v2 && v3)) && (v4 && v5)) = kb) := by
        unfold Hid
        rw [← hkb, ← g1, ← g2, ← g3, ← g4, ← g5, ← hS1, ← unhide hS2, ← hS3, ← hU]
        rfl
      have hU' : Hid ((if xk = 1 then xz else 1) = un) := hU
      obtain ⟨all, hall⟩ : ∃ v, (v1 && (v2 && v3)) = v := ⟨_, rfl⟩
      have hR' := hide hR
      replace hK := hide hK
      replace hnot := hide hnot
      replace hkb := hide hkb
      clear hR hx hU hun hxn q1 q2 q3 q4 hS1 hS3
      have C1 := hide (Bk.new wr 38 [.int .i64 xk, .int .i64 xo, .int .i64 xz, .int .i64 xb, .int .i64 xr])
      have KC := hide ((unhide hK).alloc (.cells #[.int .i64 xk, .int .i64 xo, .int .i64 xz, .int .i64 xb, .int .i64 xr] 38))
      obtain ⟨D, hD⟩ : ∃ D, wr.heap.size = D := ⟨_, rfl⟩
      rw [hD] at C1
      go_upto_region 5 with fail
      generalize wr.alloc (.cells #[.int .i64 xk, .int .i64 xo, .int .i64 xz, .int .i64 xb, .int .i64 xr] 38) = W2 at *
      clear c0 x4 x5 x6 x7 x8 hD
      have d0 := (unhide C1).cell (i := 0) rfl
      have d1 := (unhide C1).cell (i := 1) rfl
      have d2 := (unhide C1).cell (i := 2) rfl
      have e1 := ((unhide P0).kept (unhide KC) (by simp)).cell (i := 1) rfl
      have e2 := ((unhide P0).kept (unhide KC) (by simp)).cell (i := 2) rfl
      go_cut [7] (fun v wx => v = .bool all ∧ wx = W2)
      case first =>
        clear g4 g5 hka
        cases v1
        · have : all = false := by rw [← hall]; rfl
          subst this
          clear g2 g3 hall
          go_wp2
          go_meet
          case rel => exact ⟨rfl, rfl⟩
        · cases v2
          · have : all = false := by rw [← hall]; rfl
            subst this
            clear g3 hall
            go_wp2
            go_meet
            case rel => exact ⟨rfl, rfl⟩
          · have : all = v3 := by rw [← hall]; rfl
            subst this
            clear hall
            go_wp2
            go_meet
            case rel => first | exact ⟨rfl, rfl⟩ | exact ⟨by rw [g3], rfl⟩
      case rest =>
        obtain ⟨rfl, rfl⟩ := hcut
        have hka2 : Hid ((!all && (v4 && v5)) = kb) := by
          have q := unhide hka
          unfold Hid
          rw [← hall]
          exact q
        clear hka g1 g2 g3 hall
        have hround : Hid (kb = false → ∀ l, l < j + 1 → ∀ y, L[l]? = some y → keepB o z y = false) := fun e => keep_more (unhide hnot) (unhide hx') ((unhide hkb).trans e)
        have hend : Hid (kb = true → freeL L o z = false) := fun e => free_no (List.mem_of_getElem? (unhide hx')) ((unhide hkb).trans e)
        clear hkb hnot hx'
        cases all
        · cases v4
          · have hk2 := unhide hka2
            simp only [Bool.not_false, Bool.true_and, Bool.false_and] at hk2
            subst hk2
            replace hround := hide (unhide hround rfl)
            clear hend g5 hka2
            go_wp2_with fail
            go_big_region
            go_wp2
            go_roundg (L.length - (j + 1))
            case measure => omega
            case rel => exact ⟨j + 1, by omega, rfl, by go_num, unhide hround, (unhide KC).drewN _⟩
          · have hk2 := unhide hka2
            simp only [Bool.not_false, Bool.true_and] at hk2
            subst hk2
            clear hka2
            have d3 := (unhide C1).cell (i := 3) rfl
            have d4 := (unhide C1).cell (i := 4) rfl
            have P2 := hide ((unhide P0).kept (unhide KC) (by simp))
            have K3 := hide ((Kp.refl [] wc).drew)
            have hS : Hid (∀ w', Kp [] wc w' → (w'.cell? ⟨D, 0, none⟩ = some (.int .i64 xk) ∧ w'.cell? ⟨D, 1, none⟩ = some (.int .i64 xo) ∧ w'.cell? ⟨D, 2, none⟩ = some (.int .i64 xz) ∧ w'.cell? ⟨D, 3, none⟩ = some (.int .i64 xb) ∧ w'.cell? ⟨D, 4, none⟩ = some (.int .i64 xr) ∧ w'.cell? ⟨w.heap.size, 1, none⟩ = some (.int .i64 o) ∧ w'.cell? ⟨w.heap.size, 2, none⟩ = some (.int .i64 z))) := fun w' K => by
              have D' := (unhide C1).kept K (by simp)
              have E' := (unhide P2).kept K (by simp)
              exact ⟨D'.cell rfl, D'.cell rfl, D'.cell rfl, D'.cell rfl, D'.cell rfl, E'.cell rfl, E'.cell rfl⟩
            go_wp2_with fail
            go_region_held3 (fun w' => w'.cell? ⟨D, 0, none⟩ = some (.int .i64 xk) ∧ w'.cell? ⟨D, 1, none⟩ = some (.int .i64 xo) ∧ w'.cell? ⟨D, 2, none⟩ = some (.int .i64 xz) ∧ w'.cell? ⟨D, 3, none⟩ = some (.int .i64 xb) ∧ w'.cell? ⟨D, 4, none⟩ = some (.int .i64 xr) ∧ w'.cell? ⟨w.heap.size, 1, none⟩ = some (.int .i64 o) ∧ w'.cell? ⟨w.heap.size, 2, none⟩ = some (.int .i64 z)) (first | exact unhide hS _ (unhide K4) | exact unhide hS _ (unhide K3)) (first
              | (go_at_call 54; (with_reducible refine (runits_calls xk xo xz xb xr _ un (unhide hU')).mono ?_); rintro e V1 ⟨rfl, kk⟩; have K4 := hide ((unhide K3).then kk); clear kk))
            all_goals
              cases v5
              · replace hround := hide (unhide hround rfl)
                clear hend
                go_wp2
                go_roundg (L.length - (j + 1))
                case measure => omega
                case rel => exact ⟨j + 1, by omega, rfl, by go_num, unhide hround, (unhide KC).then (unhide K4)⟩
              · replace hend := hide (unhide hend rfl)
                clear hround
                go_wp2
                go_ret
                exact ⟨ret_bool (unhide hend).symm, (unhide K0).then ((unhide KC).then (unhide K4))⟩
        · have hk2 := unhide hka2
          simp only [Bool.not_true, Bool.false_and] at hk2
          subst hk2
          replace hround := hide (unhide hround rfl)
          clear hend g4 g5 hka2
          go_wp2_with fail
          go_big_region
          go_wp2
          go_roundg (L.length - (j + 1))
          case measure => omega
          case rel => exact ⟨j + 1, by omega, rfl, by go_num, unhide hround, (unhide KC).drewN _⟩
    · have b1 : decide ((j : Int) < (L.length : Int)) = false := decide_eq_false (by omega)
      have hf := hide (free_yes (o := o) (z := z) (fun l hl => hnot l (by omega)))
      replace hK := hide hK
      clear hR hnot
      go_wp2
      go_ret
      exact ⟨ret_bool (unhide hf).symm, (unhide K0).then (unhide hK)⟩
end Go.Proofs.Ythjhpcbhkcmghaa
