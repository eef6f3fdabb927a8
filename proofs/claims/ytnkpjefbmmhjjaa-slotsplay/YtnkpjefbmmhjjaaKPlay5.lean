/- The walk of SlotsPlay. -/
import Derived.Test.YtnkpjefbmmhjjaaKTwo5
import Derived.Test.YtnkpjefbmmhjjaaKPlace5
import Derived.Test.YtnkpjefbmmhjjaaKArgs
import Derived.Deep.DeepCutAuto
import Derived.Deep.CutBlock
namespace Go.Proofs.Ytnkpjefbmmhjjaa
open Go.RowKit
set_option linter.unusedVariables false
set_option maxRecDepth 4000 in
set_option maxHeartbeats 400000 in
theorem play_long (a0 a1 : Option Addr) (len0 cap0 len1 cap1 : Nat) (w : World) (hl : 40 < len0 ∨ 60 < len1) :
    Calls Try.prog 3 #[.slice a0 len0 cap0, .slice a1 len1 cap1] w fun e w' => e = .returned (.bool true) ∧ Below w.heap.size w w' := by
  by_cases h1 : 40 < len0
  · have h2 : (40 : Int) < (len0 : Int) := by omega
    go_enter Try.func3, Try.ntmps3
    go_wp2_with fail
    refine (first_calls _).mono ?_
    rintro e W0 ⟨rfl, K0⟩
    go_wp2
    go_ret
    exact ⟨rfl, K0.below (Nat.le_refl _) (by simp)⟩
  · have h2 : decide ((40 : Int) < (len0 : Int)) = false := by simp; omega
    have h3 : (60 : Int) < (len1 : Int) := by omega
    go_enter Try.func3, Try.ntmps3
    go_wp2_with fail
    refine (first_calls _).mono ?_
    rintro e W0 ⟨rfl, K0⟩
    go_wp2
    go_ret
    exact ⟨rfl, K0.below (Nat.le_refl _) (by simp)⟩
theorem py_start {w W : World} {a : Option Addr} {cap : Nat} {zs : List Int} (K : Kp [] w W) (hI : Ints .i64 w a zs) :
    Py w W.heap.size (W.heap.size + 1) (W.heap.size + 1 + 1) a cap zs [] [] 0 (((W.alloc (.cells #[.map none] 27)).alloc (.cells #[.slice none 0 0] 30)).alloc (.cells #[.slice a zs.length cap, .int .i64 0] 33)) := by
  refine ⟨TabIn.of (T := []) K rfl (((Kp.refl [] _).alloc _).alloc _), ⟨none, 0, ?_⟩, ?_⟩
  · exact ⟨(Bk.next (p := W.heap.size + 1) _ _ [.slice none 0 0] (by simp)).alloc _, ⟨rfl, .inl ⟨rfl, rfl⟩⟩, Nat.le_refl _, by simp, by simp⟩
  · exact ⟨Bk.next (p := W.heap.size + 1 + 1) _ _ [.slice a zs.length cap, .int .i64 0] (by simp), by have := K.size; omega, ((K.alloc _).alloc _).alloc _, hI, by omega⟩
/-- One thing's numbers. -/
theorem do_cells {w w' : World} {a : Option Addr} {len : Nat} {V : Nat → Nat → Value} (h : Recs w a len 4 V) (k : Kp [] w w') {j : Nat} (hj : j < len) : ∃ b off, a = some ⟨b, off, none⟩ ∧ ∀ i, i < 4 → w'.cell? ⟨b, off + (j * 4 + i), none⟩ = some (V j i) := by
  obtain ⟨_, hz | ⟨b, off, rfl, hc⟩⟩ := h
  · omega
  · exact ⟨b, off, rfl, fun i hi => k.cell (hc j i hj hi)⟩
/-- The two tables and the two places. -/
structure Pz (w : World) (t x p : Nat) (a : Option Addr) (cap : Nat) (zs : List Int) (L1 L2 : List Sl) (k A B : Nat) (an as1 bn bs : Int) (wx : World) : Prop where
  py : Py w t x p a cap zs L1 L2 k wx
  pa : Bk wx A 35 [.int .i64 an, .int .i64 as1]
  pb : Bk wx B 35 [.int .i64 bn, .int .i64 bs]
  nb : w.heap.size ≤ B
  ne : A ≠ B
theorem Pz.grew {w : World} {t x p : Nat} {a : Option Addr} {cap : Nat} {zs : List Int} {L1 L2 : List Sl} {k A B : Nat} {an as1 bn bs : Int} {wx wy : World} (h : Pz w t x p a cap zs L1 L2 k A B an as1 bn bs wx) (kp : Kp [] wx wy) : Pz w t x p a cap zs L1 L2 k A B an as1 bn bs wy := ⟨h.py.grew kp, h.pa.kept kp (by simp), h.pb.kept kp (by simp), h.nb, h.ne⟩
theorem Pz.turned {w : World} {t x p : Nat} {a : Option Addr} {cap : Nat} {zs : List Int} {L1 L2 L1' L2' : List Sl} {k k' A B : Nat} {an as1 bn bs : Int} {wx wy : World} (h : Pz w t x p a cap zs L1 L2 k A B an as1 bn bs wx) (q : Py w t x p a cap zs L1' L2' k' wy ∧ Ch wx wy) : Pz w t x p a cap zs L1' L2' k' A B an as1 bn bs wy := ⟨q.1, q.2.box h.pa, q.2.box h.pb, h.nb, h.ne⟩
/-- The second place is written. -/
theorem Pz.setB {w : World} {t x p : Nat} {a : Option Addr} {cap : Nat} {zs : List Int} {L1 L2 : List Sl} {k A B : Nat} {an as1 bn bs : Int} {wx : World} (h : Pz w t x p a cap zs L1 L2 k A B an as1 bn bs wx) (bn' bs' : Int) : Pz w t x p a cap zs L1 L2 k A B an as1 bn' bs' ((wx.setCell ⟨B, 0, none⟩ (.int .i64 bn')).setCell ⟨B, 1, none⟩ (.int .i64 bs')) := by
  have kb := kp_two (w := wx) (q := B) (.int .i64 bn') (.int .i64 bs')
  obtain ⟨ra, rc, r⟩ := h.py.rt
  obtain ⟨m, hp, _⟩ := h.py.tab.tab
  refine ⟨⟨h.py.tab.beside kb h.pb (h.pb.apart hp.head (by decide)) h.nb, ⟨ra, rc, r.kept kb (by simpa using r.head.apart h.pb (by decide)) (fun g hg mm => ?_)⟩, h.py.sq.kept kb (by simpa using h.py.sq.bk.apart h.pb (by decide)) (by simpa using h.nb)⟩, h.pa.kept kb (by simpa using h.ne), bk2 h.pb, h.nb, h.ne⟩
  rcases r.own.2 with ⟨e, _⟩ | ⟨g', c, cur, e, hb, hh, _⟩
  · rw [hg] at e; cases e
  · rw [hg] at e
    cases e
    have e2 : g = B := by simpa using mm
    subst e2
    have := h.pb
    unfold Bk at this
    rw [hh] at this
    simp at this
theorem pc_cells {w : World} {t x p : Nat} {a : Option Addr} {cap : Nat} {zs : List Int} {L1 L2 : List Sl} {k A B C : Nat} {an as1 bn bs ck co cz cb cr : Int} {wx : World} (h : Pz w t x p a cap zs L1 L2 k A B an as1 bn bs wx) (c : Bk wx C 43 [.int .i64 ck, .int .i64 co, .int .i64 cz, .int .i64 cb, .int .i64 cr]) : wx.cell? ⟨A, 0, none⟩ = some (.int .i64 an) ∧ wx.cell? ⟨A, 1, none⟩ = some (.int .i64 as1) ∧ wx.cell? ⟨B, 0, none⟩ = some (.int .i64 bn) ∧ wx.cell? ⟨B, 1, none⟩ = some (.int .i64 bs) ∧ wx.cell? ⟨C, 0, none⟩ = some (.int .i64 ck) ∧ wx.cell? ⟨C, 1, none⟩ = some (.int .i64 co) ∧ wx.cell? ⟨C, 2, none⟩ = some (.int .i64 cz) ∧ wx.cell? ⟨C, 3, none⟩ = some (.int .i64 cb) ∧ wx.cell? ⟨C, 4, none⟩ = some (.int .i64 cr) := ⟨h.pa.cell rfl, h.pa.cell rfl, h.pb.cell rfl, h.pb.cell rfl, c.cell rfl, c.cell rfl, c.cell rfl, c.cell rfl, c.cell rfl⟩
theorem Pz.cells {w : World} {t x p : Nat} {a : Option Addr} {cap : Nat} {zs : List Int} {L1 L2 : List Sl} {k A B : Nat} {an as1 bn bs : Int} {wx : World} (h : Pz w t x p a cap zs L1 L2 k A B an as1 bn bs wx) : wx.cell? ⟨A, 0, none⟩ = some (.int .i64 an) ∧ wx.cell? ⟨A, 1, none⟩ = some (.int .i64 as1) ∧ wx.cell? ⟨B, 0, none⟩ = some (.int .i64 bn) ∧ wx.cell? ⟨B, 1, none⟩ = some (.int .i64 bs) := ⟨h.pa.cell rfl, h.pa.cell rfl, h.pb.cell rfl, h.pb.cell rfl⟩
theorem psrc_three {w : World} {g : Nat} {n1 s1 n2 s2 n3 s3 : Int} (h : Bk w g 35 [.int .i64 n1, .int .i64 s1, .int .i64 n2, .int .i64 s2, .int .i64 n3, .int .i64 s3]) (c : Nat) : PSrc w (.slice (some ⟨g, 0, none⟩) 3 c) [(n1, s1), (n2, s2), (n3, s3)] :=
  .inr ⟨_, c, rfl, fun j u hu => by rw [Addr.add_mid, Nat.zero_add]; exact h.cell hu⟩
theorem capO_form (o : Option Sl) : ∃ k ob z b r : Int, capO o = .agg #[.int .i64 k, .int .i64 ob, .int .i64 z, .int .i64 b, .int .i64 r] := by
  cases o with
  | none => exact ⟨0, 0, 0, 0, 0, rfl⟩
  | some x => exact ⟨_, _, _, _, _, rfl⟩
set_option maxRecDepth 4000 in
set_option maxHeartbeats 8000000 in
theorem play_in (a0 a1 : Option Addr) (len cap0 cap1 : Nat) (V : Nat → Nat → Value) (zs : List Int) (w : World) (hl : len ≤ 40) (hz : zs.length ≤ 60) (hR : Recs w a0 len 4 V)
   (y1 : ∀ i, i < len → (∃ n, V i 0 = .int .i64 n ∧ (Lit.int .i64 n).wf = true) ∧ (∃ n, V i 1 = .int .i64 n ∧ (Lit.int .i64 n).wf = true) ∧ (∃ n, V i 2 = .int .i64 n ∧ (Lit.int .i64 n).wf = true) ∧ (∃ n, V i 3 = .int .i64 n ∧ (Lit.int .i64 n).wf = true)) (hI : Ints .i64 w a1 zs) :
    Calls Try.prog 3 #[.slice a0 len cap0, .slice a1 zs.length cap1] w fun e w' => e = .returned (.bool true) ∧ Below w.heap.size w w' := by
  have h2 : decide ((40 : Int) < (len : Int)) = false := by simp; omega
  have h3 : decide ((60 : Int) < (zs.length : Int)) = false := by simp; omega
  have HR := hide hR
  have HI := hide hI
  replace y1 := hide y1
  clear hR hI
  go_enter Try.func3, Try.ntmps3
  go_wp2_with fail
  refine (first_calls _).mono ?_
  rintro e w1 ⟨rfl, K0⟩
  have X0 := hide (py_start (cap := cap1) K0 (unhide HI))
  obtain ⟨t, et⟩ : ∃ t, w1.heap.size = t := ⟨_, rfl⟩
  rw [et] at X0
  clear K0
  go_wp2_with fail
  generalize ((w1.alloc (.cells #[.map none] 27)).alloc (.cells #[.slice none 0 0] 30)).alloc (.cells #[.slice a1 zs.length cap1, .int .i64 0] 33) = w2 at *
  clear et
  go_loopg [9] len (fun m i wr => ∃ j : Nat, j ≤ len ∧ m = len - j ∧ i = .int .i64 j ∧ ∃ L k, Py w t (t + 1) (t + 1 + 1) a1 cap1 zs L L k wr ∧ L.length ≤ j ∧ k ≤ j * 9)
  case atStart => exact ⟨0, Nat.zero_le _, by omega, rfl, [], 0, unhide X0, by simp, by omega⟩
  case round =>
    obtain ⟨j, hj, rfl, rfl, L, k, hP, hLn, hkn⟩ := hrel
    clear X0
    by_cases hlt : j < len
    · have b1 : (j : Int) < (len : Int) := by omega
      have tj : ((j : Int)).toNat = j := Int.toNat_natCast j
      obtain ⟨⟨kd, e0, q0⟩, ⟨na, e1, q1⟩, ⟨nb, e2, q2⟩, ⟨nc, e3, q3⟩⟩ := unhide y1 j hlt
      obtain ⟨b, off, ea, ce⟩ := do_cells (unhide HR) (Kp.refl [] w) hlt
      subst ea
      obtain ⟨⟨an, as1⟩, hpa⟩ : ∃ p, plN na = p := ⟨_, rfl⟩
      obtain ⟨⟨bn, bs⟩, hpb⟩ : ∃ p, plN nb = p := ⟨_, rfl⟩
      have ia := hide (plN_in q1)
      have ib := hide (plN_in q2)
      rw [hpa] at ia
      rw [hpb] at ib
      have hC : Hid (∀ w', Kp [] w w' → w'.cell? ⟨b, off + j * 4, none⟩ = some (.int .i64 kd) ∧ w'.cell? ⟨b, off + j * 4 + 1, none⟩ = some (.int .i64 na) ∧ w'.cell? ⟨b, off + j * 4 + 2, none⟩ = some (.int .i64 nb) ∧ w'.cell? ⟨b, off + j * 4 + 3, none⟩ = some (.int .i64 nc)) := fun w' K => by
        refine ⟨K.cell ?_, K.cell ?_, K.cell ?_, K.cell ?_⟩
        · rw [← e0]; exact ce 0 (by omega)
        · rw [← e1]; exact ce 1 (by omega)
        · rw [← e2]; exact ce 2 (by omega)
        · rw [← e3]; exact ce 3 (by omega)
      obtain ⟨d0, d1, d2, d3⟩ := unhide hC _ hP.tab.kp
      replace hpa := hide hpa
      replace hpb := hide hpb
      replace hP := hide hP
      clear ce e0 e1 e2 e3 q1 q2 q3 q0
      go_wp2_with fail
      refine (place_to _ (unhide hpa)).mono ?_
      rintro e W2 ⟨rfl, K2⟩
      have K3 := hide (K2.alloc (.cells #[.int .i64 an, .int .i64 as1] 35))
      have A3 := hide (Bk.new W2 35 [.int .i64 an, .int .i64 as1])
      clear d0 d1 d2 d3
      obtain ⟨d0, d1, d2, d3⟩ := unhide hC _ ((unhide hP).tab.kp.then (unhide K3))
      obtain ⟨A, hA⟩ : ∃ A, W2.heap.size = A := ⟨_, rfl⟩
      rw [hA] at A3
      clear K2
      go_wp2_with fail
      generalize W2.alloc (.cells #[.int .i64 an, .int .i64 as1] 35) = W3 at *
      clear hA
      refine (place_to _ (unhide hpb)).mono ?_
      rintro e W4 ⟨rfl, K4⟩
      have K5 := hide (((unhide K3).then K4).alloc (.cells #[.int .i64 bn, .int .i64 bs] 35))
      have A5 := hide (((unhide A3).kept K4 (by simp)).alloc (.cells #[.int .i64 bn, .int .i64 bs] 35))
      have B5 := hide (Bk.new W4 35 [.int .i64 bn, .int .i64 bs])
      clear d0 d1 d2 d3
      obtain ⟨d0, d1, d2, d3⟩ := unhide hC _ ((unhide hP).tab.kp.then (unhide K5))
      have nB : Hid (w.heap.size ≤ W4.heap.size) := ((unhide hP).tab.kp.then ((unhide K3).then K4)).size
      have neAB : Hid (A ≠ W4.heap.size) := by
        have := ((unhide A3).kept K4 (by simp)).lt
        unfold Hid
        omega
      obtain ⟨B, hB⟩ : ∃ B, W4.heap.size = B := ⟨_, rfl⟩
      rw [hB] at nB neAB
      rw [hB] at B5
      obtain ⟨kk, hkk⟩ : ∃ kk, kd % 6 = kk := ⟨_, rfl⟩
      have kk0 : 0 ≤ kk ∧ kk < 6 := by omega
      replace hkk := hide hkk
      clear K4 K3 A3
      go_wp2_with fail
      generalize W4.alloc (.cells #[.int .i64 bn, .int .i64 bs] 35) = W5 at *
      clear hB
      refine (number_to _ _ _ _ (by omega) (by omega) (unhide hkk)).mono ?_
      rintro e wx ⟨rfl, rfl⟩
      have Z : Hid (Pz w t (t + 1) (t + 1 + 1) a1 cap1 zs L L k A B an as1 bn bs wx) := ⟨(unhide hP).grew (unhide K5), unhide A5, unhide B5, unhide nB, unhide neAB⟩
      clear A5 B5 hP
      go_upto_block 2 with fail
      go_cut [] (fun wy => ∃ L' k' bn' bs', PIn (bn', bs') ∧ L'.length ≤ j + 1 ∧ k' ≤ (j + 1) * 9 ∧ Pz w t (t + 1) (t + 1 + 1) a1 cap1 zs L' L' k' A B an as1 bn' bs' wy)
      case first =>
        have hcase : kk = 4 ∨ kk = 5 ∨ ((kk == 4) = false ∧ (kk == 5) = false) := by
          by_cases h0 : kk = 4
          · exact .inl h0
          · by_cases h3 : kk = 5
            · exact .inr (.inl h3)
            · exact .inr (.inr ⟨beq_eq_false_iff_ne.2 h0, beq_eq_false_iff_ne.2 h3⟩)
        obtain ⟨c0, c1, c2, c3⟩ := (unhide Z).cells
        rcases hcase with rfl | rfl | ⟨f4, f5⟩
        · obtain ⟨v, L', hB⟩ := both_drop (w := w) (t := t) (x := t + 1) (L := L) (unhide ia)
          have hlen := hB.len
          replace hB := hide hB
          have Z0 := hide ((unhide Z).grew (Kp.refl [] wx).drew)
          clear Z
          go_wp2_with fail
          go_region_held3 (fun w' => w'.cell? ⟨A, 0, none⟩ = some (.int .i64 an) ∧ w'.cell? ⟨A, 1, none⟩ = some (.int .i64 as1) ∧ w'.cell? ⟨B, 0, none⟩ = some (.int .i64 bn) ∧ w'.cell? ⟨B, 1, none⟩ = some (.int .i64 bs)) (first | exact (unhide Z2).cells | exact (unhide Z1).cells | exact (unhide Z0).cells) (first
            | (go_at_call 11; refine ((unhide hB).prog _ (unhide Z0).py.tab).mono ?_; rintro e W6 ⟨rfl, X6, T6⟩; have Z1 := hide ((unhide Z0).turned ((unhide Z0).py.turnT T6 X6)); clear X6 T6)
            | (go_at_call 12; obtain ⟨ra, rc, rr⟩ := (unhide Z1).py.rt; refine ((unhide hB).doc _ ra rc rr).mono ?_; rintro e W7 ⟨rfl, X7, K7⟩; have Z2 := hide ((unhide Z1).turned ((unhide Z1).py.turnX K7 X7)); clear X7 K7 rr))
          all_goals
            go_wp2
            go_meet
            case rel => exact ⟨L', k, bn, bs, unhide ib, by omega, by omega, unhide Z2⟩
        · obtain ⟨v, L', hB⟩ := both_move (w := w) (t := t) (x := t + 1) (L := L) (unhide ia) (unhide ib)
          have hlen := hB.len
          replace hB := hide hB
          have Z0 := hide ((unhide Z).grew (Kp.refl [] wx).drew)
          clear Z
          go_wp2_with fail
          go_region_held3 (fun w' => w'.cell? ⟨A, 0, none⟩ = some (.int .i64 an) ∧ w'.cell? ⟨A, 1, none⟩ = some (.int .i64 as1) ∧ w'.cell? ⟨B, 0, none⟩ = some (.int .i64 bn) ∧ w'.cell? ⟨B, 1, none⟩ = some (.int .i64 bs)) (first | exact (unhide Z2).cells | exact (unhide Z1).cells | exact (unhide Z0).cells) (first
            | (go_at_call 13; refine ((unhide hB).prog _ (unhide Z0).py.tab).mono ?_; rintro e W6 ⟨rfl, X6, T6⟩; have Z1 := hide ((unhide Z0).turned ((unhide Z0).py.turnT T6 X6)); clear X6 T6)
            | (go_at_call 14; obtain ⟨ra, rc, rr⟩ := (unhide Z1).py.rt; refine ((unhide hB).doc _ ra rc rr).mono ?_; rintro e W7 ⟨rfl, X7, K7⟩; have Z2 := hide ((unhide Z1).turned ((unhide Z1).py.turnX K7 X7)); clear X7 K7 rr))
          all_goals
            go_wp2
            go_meet
            case rel => exact ⟨L', k, bn, bs, unhide ib, by omega, by omega, unhide Z2⟩
        · clear c0 c1 c2 c3
          go_wp2_with fail
          refine (mkcap_calls (unhide Z).py.sq (by omega)).mono ?_
          rintro e W6 ⟨ck, co, cz, cb, cr, k', rfl, hS6, hk6, K6, hci⟩
          have Z1 := hide (((unhide Z).turned ((unhide Z).py.turnS K6 hS6)).grew ((Kp.refl [] W6).alloc (.cells #[.int .i64 ck, .int .i64 co, .int .i64 cz, .int .i64 cb, .int .i64 cr] 43)))
          have C1 := hide (Bk.new W6 43 [.int .i64 ck, .int .i64 co, .int .i64 cz, .int .i64 cb, .int .i64 cr])
          obtain ⟨C, hC6⟩ : ∃ C, W6.heap.size = C := ⟨_, rfl⟩
          rw [hC6] at C1
          clear hS6 K6 hci Z d0 d1 d2 d3
          obtain ⟨d0, d1, d2, d3⟩ := unhide hC _ (unhide Z1).py.tab.kp
          obtain ⟨c0, c1, c2, c3⟩ := (unhide Z1).cells
          have fB := (unhide Z1).pb.frozen
          cases hbit : (bits BinOp.and IntKind.i64 nc 3 == 0)
          · go_wp2_with fail
            have Z3 := hide ((unhide Z1).grew (Kp.refl [] _).drew)
            have C3 : Hid (Bk _ C 43 [.int .i64 ck, .int .i64 co, .int .i64 cz, .int .i64 cb, .int .i64 cr]) := hide ((unhide C1).kept (Kp.refl [] _).drew (by simp))
            clear Z1 C1
            obtain ⟨v, L', hB⟩ := both_put (w := w) (t := t) (x := t + 1) (L := L) (k := ck) (o := co) (z := cz) (b := cb) (r := cr) (by omega) (unhide ia) (unhide ib)
            have hlen := hB.len
            replace hB := hide hB
            go_region_held3 (fun w' => w'.cell? ⟨A, 0, none⟩ = some (.int .i64 an) ∧ w'.cell? ⟨A, 1, none⟩ = some (.int .i64 as1) ∧ w'.cell? ⟨B, 0, none⟩ = some (.int .i64 bn) ∧ w'.cell? ⟨B, 1, none⟩ = some (.int .i64 bs) ∧ w'.cell? ⟨C, 0, none⟩ = some (.int .i64 ck) ∧ w'.cell? ⟨C, 1, none⟩ = some (.int .i64 co) ∧ w'.cell? ⟨C, 2, none⟩ = some (.int .i64 cz) ∧ w'.cell? ⟨C, 3, none⟩ = some (.int .i64 cb) ∧ w'.cell? ⟨C, 4, none⟩ = some (.int .i64 cr)) (first | exact pc_cells (unhide Z5) (unhide C5) | exact pc_cells (unhide Z4) (unhide C4) | exact pc_cells (unhide Z3) (unhide C3)) (first
              | (go_at_call 16; refine ((unhide hB).prog _ (unhide Z3).py.tab).mono ?_; rintro e W7 ⟨rfl, X7, T7⟩; have Q7 := (unhide Z3).py.turnT T7 X7; have Z4 := hide ((unhide Z3).turned Q7); have C4 := hide (Q7.2.cap (unhide C3)); clear X7 T7 Q7)
              | (go_at_call 17; obtain ⟨ra, rc, rr⟩ := (unhide Z4).py.rt; refine ((unhide hB).doc _ ra rc rr).mono ?_; rintro e W8 ⟨rfl, X8, K8⟩; have Q8 := (unhide Z4).py.turnX K8 X8; have Z5 := hide ((unhide Z4).turned Q8); have C5 := hide (Q8.2.cap (unhide C4)); clear X8 K8 rr Q8))
            all_goals
              go_wp2
              go_meet
              case rel => exact ⟨L', k', bn, bs, (unhide ib), by omega, by omega, unhide Z5⟩
          · go_wp2_with fail
            have Z2 := hide ((unhide Z1).setB 0 0)
            have C2 := hide ((unhide C1).kept (kp_two (q := B) (.int .i64 0) (.int .i64 0)) (by simpa using (unhide C1).apart (unhide Z1).pb (by decide)))
            have Z3 := hide ((unhide Z2).grew (Kp.refl [] _).drew)
            have C3 : Hid (Bk _ C 43 [.int .i64 ck, .int .i64 co, .int .i64 cz, .int .i64 cb, .int .i64 cr]) := hide ((unhide C2).kept (Kp.refl [] _).drew (by simp))
            clear Z1 C1 Z2 C2
            obtain ⟨v, L', hB⟩ := both_put (w := w) (t := t) (x := t + 1) (L := L) (k := ck) (o := co) (z := cz) (b := cb) (r := cr) (by omega) (unhide ia) pin_zero
            have hlen := hB.len
            replace hB := hide hB
            go_region_held3 (fun w' => w'.cell? ⟨A, 0, none⟩ = some (.int .i64 an) ∧ w'.cell? ⟨A, 1, none⟩ = some (.int .i64 as1) ∧ w'.cell? ⟨B, 0, none⟩ = some (.int .i64 0) ∧ w'.cell? ⟨B, 1, none⟩ = some (.int .i64 0) ∧ w'.cell? ⟨C, 0, none⟩ = some (.int .i64 ck) ∧ w'.cell? ⟨C, 1, none⟩ = some (.int .i64 co) ∧ w'.cell? ⟨C, 2, none⟩ = some (.int .i64 cz) ∧ w'.cell? ⟨C, 3, none⟩ = some (.int .i64 cb) ∧ w'.cell? ⟨C, 4, none⟩ = some (.int .i64 cr)) (first | exact pc_cells (unhide Z5) (unhide C5) | exact pc_cells (unhide Z4) (unhide C4) | exact pc_cells (unhide Z3) (unhide C3)) (first
              | (go_at_call 16; refine ((unhide hB).prog _ (unhide Z3).py.tab).mono ?_; rintro e W7 ⟨rfl, X7, T7⟩; have Q7 := (unhide Z3).py.turnT T7 X7; have Z4 := hide ((unhide Z3).turned Q7); have C4 := hide (Q7.2.cap (unhide C3)); clear X7 T7 Q7)
              | (go_at_call 17; obtain ⟨ra, rc, rr⟩ := (unhide Z4).py.rt; refine ((unhide hB).doc _ ra rc rr).mono ?_; rintro e W8 ⟨rfl, X8, K8⟩; have Q8 := (unhide Z4).py.turnX K8 X8; have Z5 := hide ((unhide Z4).turned Q8); have C5 := hide (Q8.2.cap (unhide C4)); clear X8 K8 rr Q8))
            all_goals
              go_wp2
              go_meet
              case rel => exact ⟨L', k', 0, 0, pin_zero, by omega, by omega, unhide Z5⟩
      case rest =>
        obtain ⟨L', k', bn', bs', ib', hL', hk', Z'⟩ := hcut
        clear Z hC d0 d1 d2 d3 hkk ib
        replace Z' := hide Z'
        replace ib' := hide ib'
        obtain ⟨ra, rc, rr⟩ := (unhide Z').py.rt
        obtain ⟨ps, hps⟩ : ∃ ps, sel (fun _ => true) L' = ps := ⟨_, rfl⟩
        have hpl : ps.length ≤ 41 := by
          have := sel_len (fun _ => true) L'
          rw [hps] at this
          omega
        have hpi : Hid (∀ q ∈ ps, PIn q) := fun q hq => by
          rw [← hps] at hq
          unfold sel at hq
          obtain ⟨y, hy, rfl⟩ := List.mem_map.1 hq
          exact pin_ok ((unhide Z').py.tab.fo.ok y (List.mem_filter.1 hy).1)
        replace rr := hide rr
        go_wp2_with fail
        refine (rall_calls (unhide rr)).mono ?_
        rintro e W6 ⟨v6, rfl, P6, K6⟩
        rw [hps] at P6
        obtain ⟨a6, c6, e6⟩ := P6.form
        subst e6
        replace P6 := hide P6
        replace K6 := hide K6
        clear rr
        go_wp2_with fail
        refine (tall ((unhide Z').py.tab.grew (unhide K6))).mono ?_
        rintro e W7 ⟨v7, rfl, P7, K7⟩
        rw [hps] at P7
        have P8 := hide ((unhide P6).kept K7 (by simp))
        have K8 := hide ((unhide K6).then K7)
        replace P7 := hide P7
        clear P6 K6 K7
        go_wp2_with fail
        refine (samepl_calls ((unhide P7).view (by omega)) ((unhide P8).view (by omega))).mono ?_
        rintro e W9 ⟨rfl, kq, rfl⟩
        have P9 := hide ((unhide P8).kept ((Kp.refl [] W7).drewN kq) (by simp))
        have K9 := hide ((unhide K8).drewN kq)
        have Z9 := hide ((unhide Z').grew (unhide K9))
        clear P7 P8 K8
        obtain ⟨c0, c1, c2, c3⟩ := (unhide Z9).cells
        go_wp2_with (first
          | (at_builtin; refine plist_app rfl _ _ rfl _ (.slice a6 ps.length c6) _ ps [(an, as1), (bn', bs'), (0, 0)] rfl rfl ((unhide P9).kept ((Kp.refl [] _).alloc _) (by simp)) (psrc_three (Bk.new _ 35 [.int .i64 an, .int .i64 as1, .int .i64 bn', .int .i64 bs', .int .i64 0, .int .i64 0]) _) ?c1 ?c2 ?_)
          | go_in)
        case c1 => simp; omega
        case c2 => exact ((unhide K9).alloc _).size
        intro v' W5 hP5 hg5 hat5
        have K5' := hide (kp_grown ((unhide K9).alloc _) hg5 (fun g hg => (World.ownsRow.lt (unhide P9) g hg).1))
        obtain ⟨rs, hrs⟩ : ∃ rs, ps ++ [(an, as1), (bn', bs'), (0, 0)] = rs := ⟨_, rfl⟩
        rw [hrs] at hP5
        have hrl : rs.length ≤ 50 := by rw [← hrs]; simp; omega
        have hri : Hid (∀ q ∈ rs, PIn q) := fun q hq => by
          rw [← hrs] at hq
          rcases List.mem_append.1 hq with h | h
          · exact unhide hpi q h
          · simp at h
            rcases h with rfl | rfl | rfl
            · exact unhide ia
            · exact unhide ib'
            · exact pin_zero
        obtain ⟨ar, cr, er⟩ := hP5.form
        subst er
        have Z5 := hide ((unhide Z').grew (unhide K5'))
        replace hP5 := hide hP5
        clear hg5 hat5 hrs hps hpi P9 K9 Z9 K5' Z' c0 c1 c2 c3
        go_wp2_with fail
        go_loopg [14] rs.length (fun m i wr => ∃ l : Nat, l ≤ rs.length ∧ m = rs.length - l ∧ i = .int .i64 l ∧ Kp [] W5 wr)
        case atStart => exact ⟨0, Nat.zero_le _, by omega, rfl, Kp.refl _ _⟩
        case round =>
          obtain ⟨l, hl1, rfl, rfl, KR⟩ := hrel
          by_cases hlt2 : l < rs.length
          · have b2 : (l : Int) < (rs.length : Int) := by omega
            have tl : ((l : Int)).toNat = l := Int.toNat_natCast l
            obtain ⟨⟨qn, qs⟩, hq⟩ : ∃ q, rs[l]? = some q := ⟨_, List.getElem?_eq_getElem hlt2⟩
            have hqi := hide (unhide hri _ (List.mem_of_getElem? hq))
            obtain ⟨g, hg⟩ : ∃ g, ar = some ⟨g, 0, none⟩ := by
              rcases (unhide hP5).addr with ⟨_, e⟩ | ⟨g, cap, e, _⟩
              · rw [e] at hlt2; simp at hlt2
              · cases e; exact ⟨g, rfl⟩
            subst hg
            have hX : Hid (∀ w', Kp [] W5 w' → w'.cell? ⟨g, l * 2, none⟩ = some (.int .i64 qn) ∧ w'.cell? ⟨g, l * 2 + 1, none⟩ = some (.int .i64 qs)) := fun w' K => by
              obtain ⟨x0, x1⟩ := (unhide hP5).at hq
              exact ⟨K.cell x0, K.cell x1⟩
            obtain ⟨x0, x1⟩ := unhide hX _ KR
            replace KR := hide KR
            replace hq := hide hq
            obtain ⟨ck, co, cz, cb, cr2, hcap⟩ := capO_form (lookS L' qn qs)
            obtain ⟨is, his⟩ : ∃ is, (lookS L' qn qs).isSome = is := ⟨_, rfl⟩
            obtain ⟨⟨pu, pv⟩, hpar⟩ : ∃ q, parL L' qn qs = q := ⟨_, rfl⟩
            have hparO := hide (parL_is L' qn qs)
            rw [hpar] at hparO
            replace hpar := hide hpar
            replace hcap := hide hcap
            replace his := hide his
            go_wp2_with fail
            refine (tget ((unhide Z5).py.tab.grew (unhide KR)) (unhide hqi)).mono ?_
            rintro e W6 ⟨he, K6⟩
            rw [unhide hcap, unhide his] at he
            subst he
            have D6 := hide (Bk.new W6 43 [.int .i64 ck, .int .i64 co, .int .i64 cz, .int .i64 cb, .int .i64 cr2])
            have K7 := hide (((unhide KR).then K6).alloc (.cells #[.int .i64 ck, .int .i64 co, .int .i64 cz, .int .i64 cb, .int .i64 cr2] 43))
            clear KR K6 x0 x1
            obtain ⟨x0, x1⟩ := unhide hX _ (unhide K7)
            obtain ⟨D, hD⟩ : ∃ D, W6.heap.size = D := ⟨_, rfl⟩
            rw [hD] at D6
            go_wp2_with fail
            generalize W6.alloc (.cells #[.int .i64 ck, .int .i64 co, .int .i64 cz, .int .i64 cb, .int .i64 cr2] 43) = W7 at *
            clear hD
            obtain ⟨ra, rc, rr⟩ := ((unhide Z5).py.grew (unhide K7)).rt
            refine (rget_to rr qn qs).mono ?_
            rintro e W8 ⟨he, K8⟩
            rw [unhide hcap, unhide his] at he
            subst he
            have E9 := hide (Bk.new W8 43 [.int .i64 ck, .int .i64 co, .int .i64 cz, .int .i64 cb, .int .i64 cr2])
            have D9 := hide (((unhide D6).kept K8 (by simp)).alloc (.cells #[.int .i64 ck, .int .i64 co, .int .i64 cz, .int .i64 cb, .int .i64 cr2] 43))
            have K9 := hide (((unhide K7).then K8).alloc (.cells #[.int .i64 ck, .int .i64 co, .int .i64 cz, .int .i64 cb, .int .i64 cr2] 43))
            obtain ⟨E, hE⟩ : ∃ E, W8.heap.size = E := ⟨_, rfl⟩
            rw [hE] at E9
            clear rr K8 K7 D6 x0 x1
            go_wp2_with fail
            generalize W8.alloc (.cells #[.int .i64 ck, .int .i64 co, .int .i64 cz, .int .i64 cb, .int .i64 cr2] 43) = W9 at *
            clear hE
            have hsl : Hid (∀ f, (sel f L').length ≤ 65536) := fun f => by have := sel_len f L'; omega
            have hS : Hid (∀ w', Kp [] W9 w' → (fun w' => w'.cell? ⟨D, 0, none⟩ = some (.int .i64 ck) ∧ w'.cell? ⟨D, 1, none⟩ = some (.int .i64 co) ∧ w'.cell? ⟨D, 2, none⟩ = some (.int .i64 cz) ∧ w'.cell? ⟨D, 3, none⟩ = some (.int .i64 cb) ∧ w'.cell? ⟨D, 4, none⟩ = some (.int .i64 cr2) ∧ w'.cell? ⟨E, 0, none⟩ = some (.int .i64 ck) ∧ w'.cell? ⟨E, 1, none⟩ = some (.int .i64 co) ∧ w'.cell? ⟨E, 2, none⟩ = some (.int .i64 cz) ∧ w'.cell? ⟨E, 3, none⟩ = some (.int .i64 cb) ∧ w'.cell? ⟨E, 4, none⟩ = some (.int .i64 cr2) ∧ w'.cell? ⟨g, l * 2, none⟩ = some (.int .i64 qn) ∧ w'.cell? ⟨g, l * 2 + 1, none⟩ = some (.int .i64 qs)) w') := fun w' k9 => by
              obtain ⟨x0, x1⟩ := unhide hX _ ((unhide K9).then k9)
              have D := (unhide D9).kept k9 (by simp)
              have E := (unhide E9).kept k9 (by simp)
              exact ⟨D.cell rfl, D.cell rfl, D.cell rfl, D.cell rfl, D.cell rfl, E.cell rfl, E.cell rfl, E.cell rfl, E.cell rfl, E.cell rfl, x0, x1⟩
            have ZY := hide ((unhide Z5).py.grew (unhide K9))
            have KK := hide ((Kp.refl [] W9).drew)
            clear D9 E9 hX hri hq his hcap ia ib'
            go_region_held3 (fun w' => w'.cell? ⟨D, 0, none⟩ = some (.int .i64 ck) ∧ w'.cell? ⟨D, 1, none⟩ = some (.int .i64 co) ∧ w'.cell? ⟨D, 2, none⟩ = some (.int .i64 cz) ∧ w'.cell? ⟨D, 3, none⟩ = some (.int .i64 cb) ∧ w'.cell? ⟨D, 4, none⟩ = some (.int .i64 cr2) ∧ w'.cell? ⟨E, 0, none⟩ = some (.int .i64 ck) ∧ w'.cell? ⟨E, 1, none⟩ = some (.int .i64 co) ∧ w'.cell? ⟨E, 2, none⟩ = some (.int .i64 cz) ∧ w'.cell? ⟨E, 3, none⟩ = some (.int .i64 cb) ∧ w'.cell? ⟨E, 4, none⟩ = some (.int .i64 cr2) ∧ w'.cell? ⟨g, l * 2, none⟩ = some (.int .i64 qn) ∧ w'.cell? ⟨g, l * 2 + 1, none⟩ = some (.int .i64 qs)) (exact unhide hS _ (unhide KK)) (first
              | (go_at_call 19; refine (samepl_calls ((unhide PN1).view (unhide hsl _)) ((unhide PN2).view (unhide hsl _))).mono ?_; rintro e V ⟨rfl, kq, rfl⟩; replace KK := hide ((unhide KK).drewN kq); clear PN1 PN2)
              | (go_at_call 19; refine (samepl_calls ((unhide PB1).view (unhide hsl _)) ((unhide PB2).view (unhide hsl _))).mono ?_; rintro e V ⟨rfl, kq, rfl⟩; replace KK := hide ((unhide KK).drewN kq); clear PB1 PB2)
              | (go_at_call 19; refine (samepl_calls ((unhide PC1).view (unhide hsl _)) ((unhide PC2).view (unhide hsl _))).mono ?_; rintro e V ⟨rfl, kq, rfl⟩; replace KK := hide ((unhide KK).drewN kq); clear PC1 PC2)
              | (go_at_call 30; obtain ⟨ra, rc, rr⟩ := ((unhide ZY).grew (unhide KK)).rt; refine (rnamed_calls rr ck co cz cb cr2).mono ?_; rintro e V ⟨vPN2, rfl, PN2, kk⟩; replace KK := hide ((unhide KK).then kk); replace PN1 := hide ((unhide PN1).kept kk (by simp)); replace PN2 := hide PN2; clear kk rr)
              | (go_at_call 29; refine (tnamed ((unhide ZY).grew (unhide KK)).tab ck co cz cb cr2).mono ?_; rintro e V ⟨vPN1, rfl, PN1, kk⟩; replace KK := hide ((unhide KK).then kk); replace PN1 := hide PN1; clear kk)
              | (go_at_call 28; obtain ⟨ra, rc, rr⟩ := ((unhide ZY).grew (unhide KK)).rt; refine (rbelow_calls rr qn qs).mono ?_; rintro e V ⟨vPB2, rfl, PB2, kk⟩; replace KK := hide ((unhide KK).then kk); replace PB1 := hide ((unhide PB1).kept kk (by simp)); replace PB2 := hide PB2; clear kk rr)
              | (go_at_call 27; refine (tbelow ((unhide ZY).grew (unhide KK)).tab (unhide hqi)).mono ?_; rintro e V ⟨vPB1, rfl, PB1, kk⟩; replace KK := hide ((unhide KK).then kk); replace PB1 := hide PB1; clear kk)
              | (go_at_call 26; obtain ⟨ra, rc, rr⟩ := ((unhide ZY).grew (unhide KK)).rt; refine (rkids_calls rr qn qs).mono ?_; rintro e V ⟨vPC2, rfl, PC2, kk⟩; replace KK := hide ((unhide KK).then kk); replace PC1 := hide ((unhide PC1).kept kk (by simp)); replace PC2 := hide PC2; clear kk rr)
              | (go_at_call 25; refine (tkids ((unhide ZY).grew (unhide KK)).tab qn qs).mono ?_; rintro e V ⟨vPC1, rfl, PC1, kk⟩; replace KK := hide ((unhide KK).then kk); replace PC1 := hide PC1; clear kk)
              | (go_at_call 24; obtain ⟨ra, rc, rr⟩ := ((unhide ZY).grew (unhide KK)).rt; refine (rparent_calls rr qn qs pu pv (unhide hpar)).mono ?_; rintro e V ⟨rfl, kk⟩; replace KK := hide ((unhide KK).then kk); clear kk rr)
              | (go_at_call 23; refine (tparent ((unhide ZY).grew (unhide KK)).tab (unhide hqi) (unhide hparO)).mono ?_; rintro e V ⟨rfl, kk⟩; replace KK := hide ((unhide KK).then kk); clear kk))
            all_goals
              go_wp2
              go_roundg (rs.length - (l + 1))
              case measure => omega
              case rel => exact ⟨l + 1, by omega, rfl, by go_num, (unhide K9).then (unhide KK)⟩
          · have b2 : decide ((l : Int) < (rs.length : Int)) = false := by simp; omega
            have Z6 := hide ((unhide Z5).grew KR)
            clear KR
            go_wp2
            go_roundg (len - (j + 1))
            case measure => omega
            case rel => exact ⟨j + 1, by omega, rfl, by go_num, L', k', (unhide Z6).py, hL', hk'⟩
    · have b1 : decide ((j : Int) < (len : Int)) = false := by simp; omega
      replace hP := hide hP
      go_wp2
      go_ret
      exact ⟨rfl, (unhide hP).tab.kp.below (Nat.le_refl _) (by simp)⟩
end Go.Proofs.Ytnkpjefbmmhjjaa
