/- The program's look: the way to a slot. -/
import Derived.Test.YtjjgjgncnifjmaaKLaw4
import Derived.Test.YtjjgjgncnifjmaaKLook0b
import Derived.Test.YtjjgjgncnifjmaaKSlots2
namespace Go.Proofs.Ytjjgjgncnifjmaa
open Go.RowKit
set_option linter.unusedVariables false
/-- One step more, also where nothing stands. -/
theorem goL_next {L : List Sl} {m : Nat} {k o z b r v d S lf P : Int} (h : stepP k o z b r v d) (hl : ¬ lf = 0) (hlf : d - z - 4 = lf) (hS : v / ((2 ^ (d - z - 4).toNat : Nat) : Int) % 16 = S) (hP : ((2 ^ lf.toNat : Nat) : Int) = P) :
    ∃ k' o' z' b' r' : Int, capO (lookS L o S) = .agg #[.int .i64 k', .int .i64 o', .int .i64 z', .int .i64 b', .int .i64 r'] ∧ goL L (m + 1) k o z b r v d = goL L m k' o' z' b' r' (v % P) lf := by
  cases hx : lookS L o S with
  | none =>
    refine ⟨0, 0, 0, 0, 0, rfl, ?_⟩
    rw [goL_none h (by rw [hlf]; exact hl) hS hx]
    exact (goL_no fun q => by have := q.1; omega).symm
  | some x =>
    refine ⟨x.k, x.o, x.z, x.b, x.r, rfl, ?_⟩
    rw [goL_on h (by rw [hlf]; exact hl) hS hx, hlf, hP]
set_option maxHeartbeats 400000 in
theorem llow_calls (v l P : Int) (w : World) (h0 : 0 ≤ v) (h1 : v < 16777216) (hl : 0 ≤ l) (hl2 : l ≤ 24) (hP : ((2 ^ l.toNat : Nat) : Int) = P) :
    Calls Try.prog 23 #[.int .i64 v, .int .i64 l] w fun e w' => e = .returned (.int .i64 (v % P)) ∧ Kp [] w w' := by
  have hPb := pow24 l hl hl2
  rw [hP] at hPb
  have hsh : wrap64 ((2 : Int) ^ l.toNat) = P := (wrap_pow l hl hl2).trans hP
  have hand : bits .and .i64 v (P - 1) = v % P := and_lowL h0 h1 hl hl2 hP
  replace hP := hide hP
  have K := hide (Kp.refl [] w)
  go_enter Try.func23, Try.ntmps23
  go_wp2
  go_ret
  exact ⟨rfl, unhide K⟩
set_option maxRecDepth 4000 in
set_option maxHeartbeats 2000000 in
theorem find_calls {x : Nat} {w : World} {mp : Option Nat} {L : List Sl} (h : PT w x mp L) (k o z b r a : Int) (ha : 0 ≤ a ∧ a < 4294967296) :
    Calls Try.prog 12 #[.pointer (some ⟨x, 0, none⟩), .agg #[.int .i64 k, .int .i64 o, .int .i64 z, .int .i64 b, .int .i64 r], .int .u32 a] w fun e w' => e = .returned (findV (findL L k o z b r a)) ∧ Kp [] w w' := by
  obtain ⟨sv, hsv⟩ : ∃ v, splitV a = v := ⟨_, rfl⟩
  obtain ⟨sd, hsd⟩ : ∃ v, splitD a = v := ⟨_, rfl⟩
  obtain ⟨q, hq⟩ : ∃ v, splitOk a = v := ⟨_, rfl⟩
  obtain ⟨F, hF0⟩ : ∃ F, findL L k o z b r a = F := ⟨_, rfl⟩
  rw [hF0]
  unfold findL at hF0
  rw [hq, hsv, hsd] at hF0
  replace hF0 := hide hF0
  have H := hide h
  replace hsv := hide hsv
  replace hsd := hide hsd
  replace hq := hide hq
  clear h
  have K0 := hide (((Kp.refl [] w).alloc (.cells #[.int .i64 k, .int .i64 o, .int .i64 z, .int .i64 b, .int .i64 r] 24)).alloc (.cells #[.int .i64 0, .int .i64 0] 40))
  have R0 := hide (Bk.next (p := w.heap.size + 1) (w.alloc (.cells #[.int .i64 k, .int .i64 o, .int .i64 z, .int .i64 b, .int .i64 r] 24)) 40 [.int .i64 0, .int .i64 0] (by simp))
  have C0 := hide ((Bk.new w 24 [.int .i64 k, .int .i64 o, .int .i64 z, .int .i64 b, .int .i64 r]).alloc (.cells #[.int .i64 0, .int .i64 0] 40))
  obtain ⟨t, et⟩ : ∃ t, w.heap.size = t := ⟨_, rfl⟩
  rw [et] at R0 C0
  have hsz : Hid (w.heap.size ≤ t) := by unfold Hid; omega
  go_enter Try.func12, Try.ntmps12
  go_wp2_with fail
  refine (split_kp a sv sd q _ ha (unhide hsv) (unhide hsd) (unhide hq)).mono ?_
  rintro e W1 ⟨rfl, K1⟩
  have R1 := hide ((unhide R0).kept K1 (by simp))
  have C1 := hide ((unhide C0).kept K1 (by simp))
  have hK1 := hide ((unhide K0).then K1)
  clear R0 C0 K0 K1 et
  cases q
  · have hn : F = none := (unhide hF0).symm
    subst hn
    clear hF0
    have r0 := (unhide R1).cell (i := 0) rfl
    have r1 := (unhide R1).cell (i := 1) rfl
    have fr := (unhide R1).frozen
    go_wp2
    refine bodyPost_ret (v := .tuple #[.agg #[.int .i64 0, .int .i64 0], .int .i64 2]) (by simp [results, Try.results12, go_sem, *]) rfl ⟨rfl, ?_⟩
    exact kp_put2 (unhide hK1) (by have := unhide hsz; omega) _ _
  · have hF : goL L 6 k o z b r sv sd = F := unhide hF0
    clear hF0
    replace hF := hide hF
    have c0 := (unhide C1).cell (i := 0) rfl
    have c1 := (unhide C1).cell (i := 1) rfl
    have c2 := (unhide C1).cell (i := 2) rfl
    have c3 := (unhide C1).cell (i := 3) rfl
    have c4 := (unhide C1).cell (i := 4) rfl
    clear hsv hsd hq
    have R2 := hide ((unhide R1).alloc (.cells #[.int .i64 k, .int .i64 o, .int .i64 z, .int .i64 b, .int .i64 r] 24))
    have C2 := hide (Bk.new W1 24 [.int .i64 k, .int .i64 o, .int .i64 z, .int .i64 b, .int .i64 r])
    have hK2 := hide ((unhide hK1).alloc (.cells #[.int .i64 k, .int .i64 o, .int .i64 z, .int .i64 b, .int .i64 r] 24))
    obtain ⟨nd, en⟩ : ∃ n, W1.heap.size = n := ⟨_, rfl⟩
    have hnd : Hid (w.heap.size ≤ nd ∧ nd ≠ t + 1) := by
      have h1 := (unhide hK1).size
      have h2 := (unhide R1).lt
      unfold Hid
      omega
    rw [en] at C2
    clear R1 C1 hK1
    go_wp2_with fail
    generalize W1.alloc (.cells #[.int .i64 k, .int .i64 o, .int .i64 z, .int .i64 b, .int .i64 r] 24) = W2 at *
    clear en c0 c1 c2 c3 c4
    go_loopg [8, 9, 26] 6 (fun m vv dd i wr => ∃ (j : Nat) (k o z b r v d : Int), j ≤ 6 ∧ m = 6 - j ∧ i = .int .i64 j ∧ vv = .int .i64 v ∧ dd = .int .i64 d ∧ Bk wr (t + 1) 40 [.int .i64 0, .int .i64 0] ∧ Bk wr nd 24 [.int .i64 k, .int .i64 o, .int .i64 z, .int .i64 b, .int .i64 r] ∧ goL L (6 - j) k o z b r v d = F ∧ Kp [] w wr)
    case atStart => exact ⟨0, k, o, z, b, r, sv, sd, Nat.zero_le _, by omega, rfl, rfl, rfl, unhide R2, unhide C2, unhide hF, unhide hK2⟩
    case round =>
      obtain ⟨j, k, o, z, b, r, v, d, hj, rfl, rfl, rfl, rfl, hR, hC, hG, hK⟩ := hrel
      clear R2 C2 hF hK2
      by_cases hlt : j < 6
      · have b1 : (j : Int) < 6 := by omega
        have c0 := hC.cell (i := 0) rfl
        have c1 := hC.cell (i := 1) rfl
        have c2 := hC.cell (i := 2) rfl
        have c3 := hC.cell (i := 3) rfl
        have c4 := hC.cell (i := 4) rfl
        rw [show 6 - j = (6 - (j + 1)) + 1 by omega] at hG
        have hclt := hC.lt
        by_cases hs : stepP k o z b r v d
        · obtain ⟨S, hS⟩ : ∃ S, v / ((2 ^ (d - z - 4).toNat : Nat) : Int) % 16 = S := ⟨_, rfl⟩
          obtain ⟨lf, hlf⟩ : ∃ lf, d - z - 4 = lf := ⟨_, rfl⟩
          have hk2 : k = 2 := hs.1
          subst hk2
          have hsb : ((0 ≤ lf ∧ lf ≤ 24) ∧ (0 ≤ v ∧ v < 16777216)) ∧ (1 ≤ o ∧ o ≤ 64) := by
            obtain ⟨_, ⟨_, _, ho, hfit⟩, hd, hv, hz, _⟩ := hs
            have hp := pow24 d hd.1 hd.2
            unfold fitP at hfit
            simp at hfit
            omega
          have hin : Hid (PIn (o, S)) := ⟨in64_of (by show _ ≤ o; omega) (by show o ≤ _; omega), in64_of (by show _ ≤ S; omega) (by show S ≤ _; omega)⟩
          by_cases hl0 : lf = 0
          · have hres := goL_end (L := L) (m := 6 - (j + 1)) hs (hlf.trans hl0)
            rw [hG, hS] at hres
            replace hs := hide hs
            replace hS := hide hS
            replace hlf := hide hlf
            subst hl0
            replace hK := hide hK
            replace hR := hide hR
            replace hC := hide hC
            subst hres
            clear hsb
            go_wp2_with fail
            refine (astep_yes o z b r v d S 0 _ (unhide hs) (unhide hS) (unhide hlf)).mono ?_
            rintro e W3 ⟨rfl, K3⟩
            have hC3 := (unhide hC).kept K3 (by simp)
            have hR3 := hide ((unhide hR).kept K3 (by simp))
            have hK3 := hide ((unhide hK).then K3)
            have d1 := hC3.cell (i := 1) rfl
            have r0 := (unhide hR3).cell (i := 0) rfl
            have r1 := (unhide hR3).cell (i := 1) rfl
            have fr := (unhide hR3).frozen
            have rlt := (unhide hR3).lt
            clear K3 hC3 hC hK hR c0 c1 c2 c3 c4
            go_wp2
            refine bodyPost_ret (v := .tuple #[.agg #[.int .i64 o, .int .i64 S], .int .i64 0]) (by simp [results, Try.results12, go_sem, *]) rfl ⟨rfl, ?_⟩
            exact (kp_put2 (unhide hK3) (by have := unhide hsz; omega) _ _).alloc _
          · obtain ⟨P, hP⟩ : ∃ P, ((2 ^ lf.toNat : Nat) : Int) = P := ⟨_, rfl⟩
            obtain ⟨k', o', z', b', r', hcap, hnx⟩ := goL_next (L := L) (m := 6 - (j + 1)) hs hl0 hlf hS hP
            rw [hG] at hnx
            have hl0' : (lf == 0) = false := beq_eq_false_iff_ne.2 hl0
            replace hK := hide hK
            replace hR := hide hR
            replace hC := hide hC
            replace hs := hide hs
            replace hS := hide hS
            replace hlf := hide hlf
            replace hP := hide hP
            replace hcap := hide hcap
            replace hnx := hide hnx
            replace hsb := hide hsb
            obtain ⟨is, hIs⟩ : ∃ is, (lookS L o S).isSome = is := ⟨_, rfl⟩
            replace hIs := hide hIs
            go_wp2_with fail
            refine (astep_yes o z b r v d S lf _ (unhide hs) (unhide hS) (unhide hlf)).mono ?_
            rintro e W3 ⟨rfl, K3⟩
            have hC3 := hide (((unhide hC).kept K3 (by simp)).alloc (.cells #[.int .i64 o, .int .i64 S] 40))
            have hR3 := hide (((unhide hR).kept K3 (by simp)).alloc (.cells #[.int .i64 o, .int .i64 S] 40))
            have hP3 := hide (Bk.new W3 40 [.int .i64 o, .int .i64 S])
            have hK3 := hide (((unhide hK).then K3).alloc (.cells #[.int .i64 o, .int .i64 S] 40))
            have d1 := ((unhide hC).kept K3 (by simp)).cell (i := 1) rfl
            clear K3 hC hK hR c0 c1 c2 c3 c4
            obtain ⟨pl, epl⟩ : ∃ n, W3.heap.size = n := ⟨_, rfl⟩
            rw [epl] at hP3
            go_wp2_with fail
            generalize W3.alloc (.cells #[.int .i64 o, .int .i64 S] 40) = W4 at *
            clear epl d1
            refine (llow_calls v lf P _ (unhide hsb).1.2.1 (unhide hsb).1.2.2 (unhide hsb).1.1.1 (unhide hsb).1.1.2 (unhide hP)).mono ?_
            rintro e W5 ⟨rfl, K5⟩
            have hC5 := hide ((unhide hC3).kept K5 (by simp))
            have hR5 := hide ((unhide hR3).kept K5 (by simp))
            have hK5 := hide ((unhide hK3).then K5)
            have hP5 := (unhide hP3).kept K5 (by simp)
            have p0 := hP5.cell (i := 0) rfl
            have p1 := hP5.cell (i := 1) rfl
            clear K5 hC3 hR3 hK3 hP3 hP5
            go_wp2_with fail
            refine (get_calls ((unhide H).grew (unhide hK5)) (unhide hin)).mono ?_
            rw [unhide hcap, unhide hIs]
            rintro e W6 ⟨rfl, K6⟩
            have hC6 := hide ((unhide hC5).kept K6 (by simp))
            have hR6 := hide ((unhide hR5).kept K6 (by simp))
            have hK6 := hide ((unhide hK5).then K6)
            have fr := (unhide hC6).frozen
            have c0 := (unhide hC6).cell (i := 0) rfl
            have c1 := (unhide hC6).cell (i := 1) rfl
            have c2 := (unhide hC6).cell (i := 2) rfl
            have c3 := (unhide hC6).cell (i := 3) rfl
            have c4 := (unhide hC6).cell (i := 4) rfl
            clear K6 hC5 hR5 hK5 p0 p1
            go_wp2
            go_roundg (6 - (j + 1))
            case measure => omega
            case rel => exact ⟨j + 1, k', o', z', b', r', v % P, lf, by omega, rfl, by go_num, rfl, rfl, (unhide hR6).kept (kp_put5 (Kp.refl [nd] _) (.inl (by simp)) _ _ _ _ _) (by simpa using (unhide hnd).2.symm), bk_put5 (unhide hC6) _ _ _ _ _, (unhide hnx).symm, kp_put5 (unhide hK6) (.inr (unhide hnd).1) _ _ _ _ _⟩
        · have hres := goL_no (L := L) (m := 6 - (j + 1) + 1) hs
          rw [hG] at hres
          subst hres
          replace hs := hide hs
          replace hK := hide hK
          replace hR := hide hR
          clear hC
          go_wp2_with fail
          refine (astep_no k o z b r v d _ (unhide hs)).mono ?_
          rintro e W3 ⟨rfl, K3⟩
          have hR3 := hide ((unhide hR).kept K3 (by simp))
          have hK3 := hide ((unhide hK).then K3)
          have r0 := (unhide hR3).cell (i := 0) rfl
          have r1 := (unhide hR3).cell (i := 1) rfl
          have fr := (unhide hR3).frozen
          clear K3 hK hR c0 c1 c2 c3 c4
          go_wp2
          refine bodyPost_ret (v := .tuple #[.agg #[.int .i64 0, .int .i64 0], .int .i64 2]) (by simp [results, Try.results12, go_sem, *]) rfl ⟨rfl, ?_⟩
          exact kp_put2 (unhide hK3) (by have := unhide hsz; omega) _ _
      · have b1 : decide ((j : Int) < 6) = false := by simp; omega
        obtain rfl : j = 6 := by omega
        have hn : F = none := hG.symm
        subst hn
        have r0 := hR.cell (i := 0) rfl
        have r1 := hR.cell (i := 1) rfl
        have fr := hR.frozen
        replace hK := hide hK
        replace hR := hide hR
        clear hC
        go_wp2
        refine bodyPost_ret (v := .tuple #[.agg #[.int .i64 0, .int .i64 0], .int .i64 2]) (by simp [results, Try.results12, go_sem, *]) rfl ⟨rfl, ?_⟩
        exact kp_put2 (unhide hK) (by have := unhide hsz; omega) _ _
end Go.Proofs.Ytjjgjgncnifjmaa
