/- The document's look: what stands there, by its kind. -/
import Derived.Test.YtjjgjgncnifjmaaKLook0
namespace Go.Proofs.Ytjjgjgncnifjmaa
open Go.RowKit
set_option linter.unusedVariables false
theorem rfind_to {base x : Nat} {w : World} {ra : Option Addr} {rc : Nat} {L : List Sl} (h : RT base w x ra rc L) (k o z b r a : Int) (ha : 0 ≤ a ∧ a < 4294967296) {q : Option (Int × Int)} (hq : findL L k o z b r a = q) :
    Calls Try.prog 13 #[.pointer (some ⟨x, 0, none⟩), .agg #[.int .i64 k, .int .i64 o, .int .i64 z, .int .i64 b, .int .i64 r], .int .u32 a] w fun e w' => e = .returned (findV q) ∧ Kp [] w w' := by subst hq; exact rfind_calls h k o z b r a ha
/-- The two results' boxes, still blank. -/
structure Rb (w : World) (t : Nat) (W : World) : Prop where
  kp : Kp [] w W
  c : Bk W (t + 1) 24 [.int .i64 0, .int .i64 0, .int .i64 0, .int .i64 0, .int .i64 0]
  p : Bk W (t + 1 + 1) 40 [.int .i64 0, .int .i64 0]
theorem Rb.grew {w : World} {t : Nat} {W W' : World} (h : Rb w t W) (k : Kp [] W W') : Rb w t W' := ⟨h.kp.then k, h.c.kept k (by simp), h.p.kept k (by simp)⟩
theorem Rb.facts {w : World} {t : Nat} {W : World} (h : Rb w t W) : (∀ i, W.frozen? ⟨t + 1, i, none⟩ = false) ∧ (∀ i, W.frozen? ⟨t + 1 + 1, i, none⟩ = false) ∧ (W.cell? ⟨t + 1, 0, none⟩ = some (.int .i64 0) ∧ W.cell? ⟨t + 1, 1, none⟩ = some (.int .i64 0) ∧ W.cell? ⟨t + 1, 2, none⟩ = some (.int .i64 0) ∧ W.cell? ⟨t + 1, 3, none⟩ = some (.int .i64 0) ∧ W.cell? ⟨t + 1, 4, none⟩ = some (.int .i64 0)) ∧ W.cell? ⟨t + 1 + 1, 0, none⟩ = some (.int .i64 0) ∧ W.cell? ⟨t + 1 + 1, 1, none⟩ = some (.int .i64 0) :=
  ⟨h.c.frozen, h.p.frozen, ⟨h.c.cell rfl, h.c.cell rfl, h.c.cell rfl, h.c.cell rfl, h.c.cell rfl⟩, h.p.cell rfl, h.p.cell rfl⟩
theorem rb_start (w : World) (o : Obj) : Rb w w.heap.size (((w.alloc o).alloc (.cells #[.int .i64 0, .int .i64 0, .int .i64 0, .int .i64 0, .int .i64 0] 24)).alloc (.cells #[.int .i64 0, .int .i64 0] 40)) :=
  ⟨(((Kp.refl [] w).alloc _).alloc _).alloc _, (Bk.next (p := w.heap.size + 1) (w.alloc o) _ [.int .i64 0, .int .i64 0, .int .i64 0, .int .i64 0, .int .i64 0] (by simp)).alloc _, Bk.next (p := w.heap.size + 1 + 1) _ _ [.int .i64 0, .int .i64 0] (by simp)⟩
set_option maxRecDepth 4000 in
set_option maxHeartbeats 2000000 in
theorem rcap_calls {base x : Nat} {w : World} {ra : Option Addr} {rc : Nat} {L : List Sl} (h : RT base w x ra rc L) (k o z b r a kind : Int) (ha : 0 ≤ a ∧ a < 4294967296) :
    Calls Try.prog 15 #[.pointer (some ⟨x, 0, none⟩), .agg #[.int .i64 k, .int .i64 o, .int .i64 z, .int .i64 b, .int .i64 r], .int .u32 a, .int .i64 kind] w fun e w' => e = .returned (lookAt L (findL L k o z b r a) kind) ∧ Kp [] w w' := by
  obtain ⟨q, hq⟩ : ∃ q, findL L k o z b r a = q := ⟨_, rfl⟩
  rw [hq]
  obtain ⟨R, hR⟩ : ∃ R, lookAt L q kind = R := ⟨_, rfl⟩
  rw [hR]
  replace hR := hide hR
  replace hq := hide hq
  have H := hide h
  clear h
  have R0 := hide (rb_start w (.cells #[.int .i64 k, .int .i64 o, .int .i64 z, .int .i64 b, .int .i64 r] 24))
  obtain ⟨t, et⟩ : ∃ t, w.heap.size = t := ⟨_, rfl⟩
  rw [et] at R0
  have hsz : Hid (w.heap.size ≤ t) := by unfold Hid; omega
  go_enter Try.func15, Try.ntmps15
  go_wp2_with fail
  refine (rfind_to ((unhide H).grew (unhide R0).kp) k o z b r a ha (unhide hq)).mono ?_
  rintro e W1 ⟨rfl, K1⟩
  clear et
  cases q with
  | none =>
    have R1 := hide ((unhide R0).grew (K1.alloc (.cells #[.int .i64 0, .int .i64 0] 40)))
    obtain ⟨f1, f2, ⟨u0, u1, u2, u3, u4⟩, v0, v1⟩ := (unhide R1).facts
    have hres : R = .tuple #[.agg #[.int .i64 0, .int .i64 0, .int .i64 0, .int .i64 0, .int .i64 0], .agg #[.int .i64 0, .int .i64 0], .int .i64 2] := (unhide hR).symm
    subst hres
    clear K1 R0 hR
    unfold findV
    go_wp2
    refine bodyPost_ret (v := .tuple #[.agg #[.int .i64 0, .int .i64 0, .int .i64 0, .int .i64 0, .int .i64 0], .agg #[.int .i64 0, .int .i64 0], .int .i64 2]) (by simp [results, Try.results15, go_sem, *]) rfl ⟨rfl, ?_⟩
    exact kp_put2 (kp_put5 (unhide R1).kp (.inr (by have := unhide hsz; omega)) _ _ _ _ _) (by have := unhide hsz; omega) _ _
  | some p =>
    obtain ⟨pn, ps⟩ := p
    have R1 := hide ((unhide R0).grew (K1.alloc (.cells #[.int .i64 pn, .int .i64 ps] 40)))
    have B1 := hide (Bk.new W1 40 [.int .i64 pn, .int .i64 ps])
    have gt1 : t + 1 + 1 < W1.heap.size := ((unhide R0).p.kept K1 (by simp)).lt
    have n1 : ¬ W1.heap.size = t + 1 := by omega
    have n2 : ¬ t + 1 = W1.heap.size := by omega
    have n3 : ¬ W1.heap.size = t + 1 + 1 := by omega
    have n4 : ¬ t + 1 + 1 = W1.heap.size := by omega
    have hN := hide (rget_lk ((unhide H).grew (unhide R1).kp) pn ps)
    clear K1 R0
    have hR2 := unhide hR
    unfold lookAt at hR2
    simp only at hR2
    clear hR
    unfold findV
    rcases unhide hN with ⟨hn, hc⟩ | ⟨y, hy, hc⟩
    · rw [hn] at hR2
      simp only at hR2
      subst hR2
      replace hn := hide hn
      replace hc := hide hc
      clear hN
      go_wp2_with fail
      refine (unhide hc).mono ?_
      rintro e W2 ⟨rfl, K2⟩
      have R2 := hide ((unhide R1).grew (K2.alloc (.cells #[.int .i64 0, .int .i64 0, .int .i64 0, .int .i64 0, .int .i64 0] 24)))
      obtain ⟨f1, f2, ⟨u0, u1, u2, u3, u4⟩, v0, v1⟩ := (unhide R2).facts
      clear K2 hc R1 B1
      go_wp2
      refine bodyPost_ret (v := .tuple #[.agg #[.int .i64 0, .int .i64 0, .int .i64 0, .int .i64 0, .int .i64 0], .agg #[.int .i64 0, .int .i64 0], .int .i64 4]) (by simp [results, Try.results15, go_sem, *]) rfl ⟨rfl, ?_⟩
      exact kp_put2 (kp_put5 (unhide R2).kp (.inr (by have := unhide hsz; omega)) _ _ _ _ _) (by have := unhide hsz; omega) _ _
    · rw [hy] at hR2
      obtain ⟨yn, ys, yu, yv, yk, yo, yz, yb, yr⟩ := y
      simp only at hR2
      simp only at hc
      replace hR2 := hide hR2
      replace hc := hide hc
      clear hN hy
      go_wp2_with fail
      refine (unhide hc).mono ?_
      rintro e W2 ⟨rfl, K2⟩
      have R2 := hide ((unhide R1).grew (K2.alloc (.cells #[.int .i64 yk, .int .i64 yo, .int .i64 yz, .int .i64 yb, .int .i64 yr] 24)))
      obtain ⟨f1, f2, ⟨u0, u1, u2, u3, u4⟩, v0, v1⟩ := (unhide R2).facts
      have B2 := (((unhide B1).kept K2 (by simp)).alloc (.cells #[.int .i64 yk, .int .i64 yo, .int .i64 yz, .int .i64 yb, .int .i64 yr] 24))
      have p0 := B2.cell (i := 0) rfl
      have p1 := B2.cell (i := 1) rfl
      have plt := B2.lt
      have gt2 : t + 1 + 1 < W2.heap.size := ((unhide R1).p.kept K2 (by simp)).lt
      have m1 : ¬ W2.heap.size = t + 1 := by omega
      have m2 : ¬ t + 1 = W2.heap.size := by omega
      clear K2 hc R1 B1 B2
      by_cases h0 : kind = 0
      · have hR3 := unhide hR2
        rw [if_pos (.inl h0)] at hR3
        subst hR3 h0
        clear hR2
        go_wp2_with fail
        go_big_region
        all_goals
          go_wp2
          refine bodyPost_ret (v := .tuple #[.agg #[.int .i64 yk, .int .i64 yo, .int .i64 yz, .int .i64 yb, .int .i64 yr], .agg #[.int .i64 pn, .int .i64 ps], .int .i64 0]) (by simp [results, Try.results15, go_sem, *]) rfl ⟨rfl, ?_⟩
          exact (kp_put2 (kp_put5 (unhide R2).kp (.inr (by have := unhide hsz; omega)) _ _ _ _ _) (by have := unhide hsz; omega) _ _).drew
      · have g0 : (kind != 0) = true := by simp [h0]
        by_cases h1 : yk = kind
        · have hR3 := unhide hR2
          rw [if_pos (.inr h1)] at hR3
          subst hR3 h1
          clear hR2
          replace h0 := hide h0
          go_wp2_with fail
          go_big_region
          all_goals
            go_wp2
            refine bodyPost_ret (v := .tuple #[.agg #[.int .i64 yk, .int .i64 yo, .int .i64 yz, .int .i64 yb, .int .i64 yr], .agg #[.int .i64 pn, .int .i64 ps], .int .i64 0]) (by simp [results, Try.results15, go_sem, *]) rfl ⟨rfl, ?_⟩
            exact (kp_put2 (kp_put5 (unhide R2).kp (.inr (by have := unhide hsz; omega)) _ _ _ _ _) (by have := unhide hsz; omega) _ _).drew
        · have hR3 := unhide hR2
          rw [if_neg (by simp [h0, h1])] at hR3
          subst hR3
          clear hR2
          have g1 : (yk != kind) = true := by simp [h1]
          replace h0 := hide h0
          replace h1 := hide h1
          go_wp2
          refine bodyPost_ret (v := .tuple #[.agg #[.int .i64 0, .int .i64 0, .int .i64 0, .int .i64 0, .int .i64 0], .agg #[.int .i64 0, .int .i64 0], .int .i64 5]) (by simp [results, Try.results15, go_sem, *]) rfl ⟨rfl, ?_⟩
          exact kp_put2 (kp_put5 (unhide R2).kp (.inr (by have := unhide hsz; omega)) _ _ _ _ _) (by have := unhide hsz; omega) _ _
end Go.Proofs.Ytjjgjgncnifjmaa
