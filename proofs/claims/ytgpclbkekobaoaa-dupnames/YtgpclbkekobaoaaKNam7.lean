/- The walk of DupNames. -/
import Derived.Test.YtgpclbkekobaoaaKNamesM7
import Derived.Test.YtgpclbkekobaoaaKMkCap
import Derived.Test.YtgpclbkekobaoaaKArgs
import Derived.Test.YtgpclbkekobaoaaKRef
namespace Go.Proofs.Ytgpclbkekobaoaa
open Go.RowKit
set_option linter.unusedVariables false
theorem rcheck_as {k o s b r : Int} {v : Bool} (w : World) (h : chk k o s b r = v) :
    Calls Try.prog 25 #[.agg #[.int .i64 k, .int .i64 o, .int .i64 s, .int .i64 b, .int .i64 r]] w fun e w' => e = .returned (.bool v) ∧ Kp [] w w' := by subst h; exact rcheck_calls k o s b r w
/-- The four boxes ahead of the table. -/
structure Nb (w : World) (C : Nat) (ck co cz cb cr : Int) (P Q R : Nat) (s : Int) (wx : World) : Prop where
  kp : Kp [] w wx
  c : Bk wx C 37 [.int .i64 ck, .int .i64 co, .int .i64 cz, .int .i64 cb, .int .i64 cr]
  p : Bk wx P 35 [.int .i64 1, .int .i64 3]
  q : Bk wx Q 35 [.int .i64 2, .int .i64 s]
  r : Bk wx R 35 [.int .i64 4, .int .i64 4]
theorem Nb.grew {w : World} {C : Nat} {ck co cz cb cr : Int} {P Q R : Nat} {s : Int} {wx wy : World} (h : Nb w C ck co cz cb cr P Q R s wx) (k : Kp [] wx wy) : Nb w C ck co cz cb cr P Q R s wy := ⟨h.kp.then k, h.c.kept k (by simp), h.p.kept k (by simp), h.q.kept k (by simp), h.r.kept k (by simp)⟩
theorem Nb.cells {w : World} {C : Nat} {ck co cz cb cr : Int} {P Q R : Nat} {s : Int} {wx : World} (h : Nb w C ck co cz cb cr P Q R s wx) : (wx.cell? ⟨C, 0, none⟩ = some (.int .i64 ck) ∧ wx.cell? ⟨C, 1, none⟩ = some (.int .i64 co) ∧ wx.cell? ⟨C, 2, none⟩ = some (.int .i64 cz) ∧ wx.cell? ⟨C, 3, none⟩ = some (.int .i64 cb) ∧ wx.cell? ⟨C, 4, none⟩ = some (.int .i64 cr)) ∧ (wx.cell? ⟨P, 0, none⟩ = some (.int .i64 1) ∧ wx.cell? ⟨P, 1, none⟩ = some (.int .i64 3)) ∧ (wx.cell? ⟨Q, 0, none⟩ = some (.int .i64 2) ∧ wx.cell? ⟨Q, 1, none⟩ = some (.int .i64 s)) ∧ (wx.cell? ⟨R, 0, none⟩ = some (.int .i64 4) ∧ wx.cell? ⟨R, 1, none⟩ = some (.int .i64 4)) :=
  ⟨⟨h.c.cell rfl, h.c.cell rfl, h.c.cell rfl, h.c.cell rfl, h.c.cell rfl⟩, ⟨h.p.cell rfl, h.p.cell rfl⟩, ⟨h.q.cell rfl, h.q.cell rfl⟩, h.r.cell rfl, h.r.cell rfl⟩
/-- With the table. -/
structure Nt (w : World) (t : Nat) (L : List Sl) (C : Nat) (ck co cz cb cr : Int) (P Q R : Nat) (s : Int) (wx : World) : Prop where
  nb : Nb w C ck co cz cb cr P Q R s wx
  tb : TabIn w t L wx
theorem Nt.grew {w : World} {t : Nat} {L : List Sl} {C : Nat} {ck co cz cb cr : Int} {P Q R : Nat} {s : Int} {wx wy : World} (h : Nt w t L C ck co cz cb cr P Q R s wx) (k : Kp [] wx wy) : Nt w t L C ck co cz cb cr P Q R s wy := ⟨h.nb.grew k, h.tb.grew k⟩
theorem Nt.turned {w : World} {t : Nat} {L L' : List Sl} {C : Nat} {ck co cz cb cr : Int} {P Q R : Nat} {s : Int} {wx wy : World} (h : Nt w t L C ck co cz cb cr P Q R s wx) (X : TabIn w t L' wy) (T : Tch w t wx wy) : Nt w t L' C ck co cz cb cr P Q R s wy := by
  obtain ⟨m, hp, _⟩ := h.tb.tab
  exact ⟨⟨X.kp, T.bk h.nb.c (h.nb.c.apart hp.head (by decide)), T.bk h.nb.p (h.nb.p.apart hp.head (by decide)), T.bk h.nb.q (h.nb.q.apart hp.head (by decide)), T.bk h.nb.r (h.nb.r.apart hp.head (by decide))⟩, X⟩
set_option maxRecDepth 8000 in
set_option maxHeartbeats 8000000 in
theorem names_in (a : Option Addr) (cap : Nat) (zs : List Int) (rights to1 : Int) (w : World) (hl : zs.length ≤ 20) (hI : Ints .i64 w a zs) :
    Calls Try.prog 4 #[.slice a zs.length cap, .int .i64 rights, .int .i64 to1] w fun e w' => e = .returned (.bool true) ∧ Below w.heap.size w w' := by
  have x2 : decide (20 < (zs.length : Int)) = false := decide_eq_false (by omega)
  obtain ⟨i, hi⟩ : ∃ i : Nat, to1 % 16 = (i : Int) := ⟨(to1 % 16).toNat, by omega⟩
  have i1 : i < 16 := by omega
  obtain ⟨m, hm⟩ : ∃ m, rights % 8 = m := ⟨_, rfl⟩
  have m1 : 0 ≤ m ∧ m < 8 := by omega
  have HI := hide hI
  replace hi := hide hi
  replace hm := hide hm
  clear hI
  go_enter Try.func4, Try.ntmps4
  go_wp2_with fail
  refine (first_calls _).mono ?_
  rintro e W0 ⟨rfl, K0⟩
  have S0 := hide (sq_start cap K0 (unhide HI))
  obtain ⟨p, ep⟩ : ∃ p, W0.heap.size = p := ⟨_, rfl⟩
  rw [ep] at S0
  clear K0
  go_wp2_with fail
  generalize W0.alloc (.cells #[.slice a zs.length cap, .int .i64 0] 33) = W1 at *
  clear ep
  refine (mkcap_calls (unhide S0) (by omega)).mono ?_
  rintro e W2 ⟨ck, co, cz, cb, cr, k', rfl, hS2, _, _, _⟩
  have K2 := hide hS2.kp
  clear hS2 S0
  unfold capV
  have N0 : Hid (Nb w W2.heap.size ck co cz cb cr (W2.heap.size + 1) (W2.heap.size + 1 + 1) (W2.heap.size + 1 + 1 + 1) (i : Int) ((((W2.alloc (.cells #[.int .i64 ck, .int .i64 co, .int .i64 cz, .int .i64 cb, .int .i64 cr] 37)).alloc (.cells #[.int .i64 1, .int .i64 3] 35)).alloc (.cells #[.int .i64 2, .int .i64 (i : Int)] 35)).alloc (.cells #[.int .i64 4, .int .i64 4] 35))) := ⟨((((unhide K2).alloc _).alloc _).alloc _).alloc _, (((Bk.new W2 37 [.int .i64 ck, .int .i64 co, .int .i64 cz, .int .i64 cb, .int .i64 cr]).alloc _).alloc _).alloc _, ((Bk.next (p := W2.heap.size + 1) _ 35 [.int .i64 1, .int .i64 3] (by simp)).alloc _).alloc _, (Bk.next (p := W2.heap.size + 1 + 1) _ 35 [.int .i64 2, .int .i64 (i : Int)] (by simp)).alloc _, Bk.next (p := W2.heap.size + 1 + 1 + 1) _ 35 [.int .i64 4, .int .i64 4] (by simp)⟩
  go_wp2_with fail
  refine (number_to _ _ _ _ (by omega) (by omega) (unhide hi)).mono ?_
  rintro e w' ⟨rfl, hw'⟩
  subst hw'
  go_wp2_with fail
  generalize ((((W2.alloc (.cells #[.int .i64 ck, .int .i64 co, .int .i64 cz, .int .i64 cb, .int .i64 cr] 37)).alloc (.cells #[.int .i64 1, .int .i64 3] 35)).alloc (.cells #[.int .i64 2, .int .i64 (i : Int)] 35)).alloc (.cells #[.int .i64 4, .int .i64 4] 35)) = W4 at *
  generalize W2.heap.size = h at *
  refine (number_to _ _ _ _ (by omega) (by omega) (unhide hm)).mono ?_
  rintro e w' ⟨rfl, rfl⟩
  have Z := hide (Nt.mk ((unhide N0).grew ((Kp.refl [] w').alloc (.cells #[.map none] 27))) (TabIn.of (T := []) (w := w) (unhide N0).kp rfl (Kp.refl [] _)))
  obtain ⟨t, et⟩ : ∃ t, w'.heap.size = t := ⟨_, rfl⟩
  rw [et] at Z
  obtain ⟨⟨c0, c1, c2, c3, c4⟩, ⟨p0, p1⟩, ⟨q0, q1⟩, r0, r1⟩ := (unhide Z).nb.cells
  clear K2
  go_wp2_with fail
  generalize w'.alloc (.cells #[.map none] 27) = W5 at *
  clear et N0
  cases hchk : chk ck co cz cb cr
  · have hno := hide (nm_noput hchk)
    refine (rcheck_as _ hchk).mono ?_
    rintro e W6 ⟨rfl, K6⟩
    have Z6 := hide ((unhide Z).grew K6)
    clear K6 Z c0 c1 c2 c3 c4 p0 p1 q0 q1 r0 r1
    obtain ⟨⟨c0, c1, c2, c3, c4⟩, ⟨p0, p1⟩, ⟨q0, q1⟩, r0, r1⟩ := (unhide Z6).nb.cells
    replace hchk := hide hchk
    go_wp2_with fail
    refine (tput_no (unhide Z6).tb (pin7 (by decide) (by decide) (by decide) (by decide)) pin_zero (unhide hno)).mono ?_
    rintro e W7 ⟨rfl, X7, _⟩
    replace X7 := hide X7
    clear Z6 c0 c1 c2 c3 c4 p0 p1 q0 q1 r0 r1
    go_wp2
    go_ret
    exact ⟨rfl, (unhide X7).kp.below (Nat.le_refl _) (by simp)⟩
  · obtain ⟨hp1, hp2⟩ := nm_put hchk
    obtain ⟨hc1, hc2⟩ := nm_copy i1 hchk m1
    have hbr : 0 ≤ cr ∧ cr < 8 := by have := (chk_iff _ _ _ _ _).1 hchk; have := this.2.1; omega
    obtain ⟨l, hl1⟩ : ∃ l, lessR cr m = l := ⟨_, rfl⟩
    have hand : bits .and .i64 cr m = l := by rw [less_and hbr m1, hl1]
    rw [hl1] at hc2
    obtain ⟨ha1, ha2⟩ := nm_again i1 ck co cz cb cr l m
    obtain ⟨_, ⟨_, hgB⟩, ⟨hm1, hm2⟩, hg1, hg2, hg3, hg4⟩ := nm_parts i i1 ck co cz cb cr l
    have hgone := hide (nm_gone i1 ck co cz cb cr l)
    have hbel := hide (nm_below i i1 ck co cz cb cr l)
    refine (rcheck_as _ hchk).mono ?_
    rintro e W6 ⟨rfl, K6⟩
    have Z6 := hide ((unhide Z).grew K6)
    clear K6 Z c0 c1 c2 c3 c4 p0 p1 q0 q1 r0 r1
    obtain ⟨⟨c0, c1, c2, c3, c4⟩, ⟨p0, p1⟩, ⟨q0, q1⟩, r0, r1⟩ := (unhide Z6).nb.cells
    have i13 : Hid (PIn (1, 3)) := pin7 (by decide) (by decide) (by decide) (by decide)
    have i44 : Hid (PIn (4, 4)) := pin7 (by decide) (by decide) (by decide) (by decide)
    have i2i : Hid (PIn (2, (i : Int))) := pin7 (by omega) (by omega) (by omega) (by omega)
    replace hchk := hide hchk
    replace hp1 := hide hp1
    replace hp2 := hide hp2
    replace hc1 := hide hc1
    replace hc2 := hide hc2
    replace ha1 := hide ha1
    replace ha2 := hide ha2
    replace hgB := hide hgB
    replace hm1 := hide hm1
    replace hm2 := hide hm2
    replace hg1 := hide hg1
    replace hg2 := hide hg2
    replace hg3 := hide hg3
    replace hg4 := hide hg4
    replace hl1 := hide hl1
    go_wp2_with fail
    refine (tput_yes (unhide Z6).tb (unhide i13) pin_zero (unhide hp1) (by decide) (unhide hp2)).mono ?_
    rintro e W7 ⟨rfl, X7, T7⟩
    have Z7 := hide ((unhide Z6).turned X7 T7)
    clear X7 T7 Z6 c0 c1 c2 c3 c4 p0 p1 q0 q1 r0 r1
    obtain ⟨⟨c0, c1, c2, c3, c4⟩, ⟨p0, p1⟩, ⟨q0, q1⟩, r0, r1⟩ := (unhide Z7).nb.cells
    go_wp2_with fail
    refine (dcopy (unhide Z7).tb (unhide i13) (unhide i2i) (in7 (by omega) (by omega)) (show (nmA ck co cz cb cr).length < 65536 by show 1 < 65536; decide) (unhide hc1) (unhide hc2)).mono ?_
    rintro e W8 ⟨rfl, X8, T8⟩
    have Z8 := hide ((unhide Z7).turned X8 T8)
    clear X8 T8 Z7 c0 c1 c2 c3 c4 p0 p1 q0 q1 r0 r1
    obtain ⟨⟨c0, c1, c2, c3, c4⟩, ⟨p0, p1⟩, ⟨q0, q1⟩, r0, r1⟩ := (unhide Z8).nb.cells
    go_wp2_with fail
    refine (dcopy (unhide Z8).tb (unhide i13) (unhide i2i) (in7 (by omega) (by omega)) (show (nmB i ck co cz cb cr l).length < 65536 by show 2 < 65536; decide) (unhide ha1) (unhide ha2)).mono ?_
    rintro e W9 ⟨rfl, X9, T9⟩
    have Z9 := hide ((unhide Z8).turned X9 T9)
    clear X9 T9 Z8 c0 c1 c2 c3 c4 p0 p1 q0 q1 r0 r1
    obtain ⟨⟨c0, c1, c2, c3, c4⟩, ⟨p0, p1⟩, ⟨q0, q1⟩, r0, r1⟩ := (unhide Z9).nb.cells
    go_wp2_with fail
    have hcapB : Hid (capO (lookS (nmB i ck co cz cb cr l) 2 i) = .agg #[.int .i64 ck, .int .i64 co, .int .i64 cz, .int .i64 cb, .int .i64 l] ∧ (lookS (nmB i ck co cz cb cr l) 2 i).isSome = true) := by rw [unhide hgB]; exact ⟨rfl, rfl⟩
    have hparB : Hid (parO (lookS (nmB i ck co cz cb cr l) 2 i) = .agg #[.int .i64 1, .int .i64 3]) := by rw [unhide hgB]; rfl
    refine (tget (unhide Z9).tb (unhide i2i)).mono ?_
    rw [(unhide hcapB).1, (unhide hcapB).2]
    rintro e W10 ⟨rfl, K10⟩
    have Z10 := hide ((unhide Z9).grew (K10.alloc (.cells #[.int .i64 ck, .int .i64 co, .int .i64 cz, .int .i64 cb, .int .i64 l] 37)))
    have D10 := hide (Bk.new W10 37 [.int .i64 ck, .int .i64 co, .int .i64 cz, .int .i64 cb, .int .i64 l])
    obtain ⟨D, eD⟩ : ∃ D, W10.heap.size = D := ⟨_, rfl⟩
    rw [eD] at D10
    clear K10 Z9
    clear c0 c1 c2 c3 c4 p0 p1 q0 q1 r0 r1
    go_wp2_with fail
    generalize W10.alloc (.cells #[.int .i64 ck, .int .i64 co, .int .i64 cz, .int .i64 cb, .int .i64 l] 37) = W11 at *
    clear eD
    have hS : Hid (∀ w', Kp [] W11 w' → (fun w' => w'.cell? ⟨h, 0, none⟩ = some (.int .i64 ck) ∧ w'.cell? ⟨h, 1, none⟩ = some (.int .i64 co) ∧ w'.cell? ⟨h, 2, none⟩ = some (.int .i64 cz) ∧ w'.cell? ⟨h, 3, none⟩ = some (.int .i64 cb) ∧ w'.cell? ⟨h, 4, none⟩ = some (.int .i64 cr) ∧ w'.cell? ⟨D, 0, none⟩ = some (.int .i64 ck) ∧ w'.cell? ⟨D, 1, none⟩ = some (.int .i64 co) ∧ w'.cell? ⟨D, 2, none⟩ = some (.int .i64 cz) ∧ w'.cell? ⟨D, 3, none⟩ = some (.int .i64 cb) ∧ w'.cell? ⟨D, 4, none⟩ = some (.int .i64 l) ∧ w'.cell? ⟨h + 1 + 1, 0, none⟩ = some (.int .i64 2) ∧ w'.cell? ⟨h + 1 + 1, 1, none⟩ = some (.int .i64 (i : Int)) ∧ w'.cell? ⟨h + 1, 0, none⟩ = some (.int .i64 1) ∧ w'.cell? ⟨h + 1, 1, none⟩ = some (.int .i64 3)) w') := fun w' k => by
      obtain ⟨⟨c0, c1, c2, c3, c4⟩, ⟨p0, p1⟩, ⟨q0, q1⟩, r0, r1⟩ := ((unhide Z10).grew k).nb.cells
      have d := (unhide D10).kept k (by simp)
      exact ⟨c0, c1, c2, c3, c4, d.cell rfl, d.cell rfl, d.cell rfl, d.cell rfl, d.cell rfl, q0, q1, p0, p1⟩
    have hnm : Hid (namesP ck co cz ck co cz = true) := decide_eq_true ⟨rfl, rfl, fun _ => rfl⟩
    have KK := hide (Kp.refl [] W11).drew
    go_region_held3 (fun w' => w'.cell? ⟨h, 0, none⟩ = some (.int .i64 ck) ∧ w'.cell? ⟨h, 1, none⟩ = some (.int .i64 co) ∧ w'.cell? ⟨h, 2, none⟩ = some (.int .i64 cz) ∧ w'.cell? ⟨h, 3, none⟩ = some (.int .i64 cb) ∧ w'.cell? ⟨h, 4, none⟩ = some (.int .i64 cr) ∧ w'.cell? ⟨D, 0, none⟩ = some (.int .i64 ck) ∧ w'.cell? ⟨D, 1, none⟩ = some (.int .i64 co) ∧ w'.cell? ⟨D, 2, none⟩ = some (.int .i64 cz) ∧ w'.cell? ⟨D, 3, none⟩ = some (.int .i64 cb) ∧ w'.cell? ⟨D, 4, none⟩ = some (.int .i64 l) ∧ w'.cell? ⟨h + 1 + 1, 0, none⟩ = some (.int .i64 2) ∧ w'.cell? ⟨h + 1 + 1, 1, none⟩ = some (.int .i64 (i : Int)) ∧ w'.cell? ⟨h + 1, 0, none⟩ = some (.int .i64 1) ∧ w'.cell? ⟨h + 1, 1, none⟩ = some (.int .i64 3)) (exact unhide hS _ (unhide KK)) (first
      | (go_at_call 26; (with_reducible refine (rnames_at ck co cz cb cr ck co cz cb l _ _ (unhide hnm)).mono ?_); rintro e V ⟨rfl, kk⟩; replace KK := hide ((unhide KK).then kk); clear kk)
      | (go_at_call 23; refine (tparent ((unhide Z10).grew (unhide KK)).tb (unhide i2i) (unhide hparB)).mono ?_; rintro e V ⟨rfl, kk⟩; replace KK := hide ((unhide KK).then kk); clear kk))
    have Z11 := hide ((unhide Z10).grew (unhide KK))
    clear Z10 KK hS D10
    obtain ⟨⟨c0, c1, c2, c3, c4⟩, ⟨p0, p1⟩, ⟨q0, q1⟩, r0, r1⟩ := (unhide Z11).nb.cells
    go_wp2_with fail
    refine (dmove (unhide Z11).tb (unhide i13) (unhide i44) (show (nmB i ck co cz cb cr l).length < 65536 by show 2 < 65536; decide) (unhide hm1) (unhide hm2)).mono ?_
    rintro e W12 ⟨rfl, X12, T12⟩
    have Z12 := hide ((unhide Z11).turned X12 T12)
    clear X12 T12 Z11
    clear c0 c1 c2 c3 c4 p0 p1 q0 q1 r0 r1
    obtain ⟨⟨c0, c1, c2, c3, c4⟩, ⟨p0, p1⟩, ⟨q0, q1⟩, r0, r1⟩ := (unhide Z12).nb.cells
    go_wp2_with fail
    refine (dmove (unhide Z12).tb (unhide i13) (unhide i44) (show (nmC i ck co cz cb cr l).length < 65536 by show 2 < 65536; decide) (unhide hg1) (unhide hgone)).mono ?_
    rintro e W13 ⟨rfl, X13, T13⟩
    have Z13 := hide ((unhide Z12).turned X13 T13)
    clear X13 T13 Z12
    clear c0 c1 c2 c3 c4 p0 p1 q0 q1 r0 r1
    obtain ⟨⟨c0, c1, c2, c3, c4⟩, ⟨p0, p1⟩, ⟨q0, q1⟩, r0, r1⟩ := (unhide Z13).nb.cells
    go_wp2_with fail
    have hcapC : Hid (capO (lookS (nmC i ck co cz cb cr l) 4 4) = .agg #[.int .i64 ck, .int .i64 co, .int .i64 cz, .int .i64 cb, .int .i64 cr] ∧ (lookS (nmC i ck co cz cb cr l) 4 4).isSome = true) := by rw [unhide hg2]; exact ⟨rfl, rfl⟩
    have hcapG : Hid (capO (lookS (nmC i ck co cz cb cr l) 1 3) = .agg #[.int .i64 0, .int .i64 0, .int .i64 0, .int .i64 0, .int .i64 0] ∧ (lookS (nmC i ck co cz cb cr l) 1 3).isSome = false) := by rw [unhide hg3]; exact ⟨rfl, rfl⟩
    have hparC : Hid (parO (lookS (nmC i ck co cz cb cr l) 2 i) = .agg #[.int .i64 4, .int .i64 4]) := by rw [unhide hg4]; rfl
    refine (tget (unhide Z13).tb (unhide i44)).mono ?_
    rw [(unhide hcapC).1, (unhide hcapC).2]
    rintro e W14 ⟨rfl, K14⟩
    have Z14 := hide ((unhide Z13).grew (K14.alloc (.cells #[.int .i64 ck, .int .i64 co, .int .i64 cz, .int .i64 cb, .int .i64 cr] 37)))
    have E14 := hide (Bk.new W14 37 [.int .i64 ck, .int .i64 co, .int .i64 cz, .int .i64 cb, .int .i64 cr])
    obtain ⟨E, eE⟩ : ∃ E, W14.heap.size = E := ⟨_, rfl⟩
    rw [eE] at E14
    clear K14 Z13
    clear c0 c1 c2 c3 c4 p0 p1 q0 q1 r0 r1
    obtain ⟨⟨c0, c1, c2, c3, c4⟩, ⟨p0, p1⟩, ⟨q0, q1⟩, r0, r1⟩ := (unhide Z14).nb.cells
    go_wp2_with fail
    generalize W14.alloc (.cells #[.int .i64 ck, .int .i64 co, .int .i64 cz, .int .i64 cb, .int .i64 cr] 37) = W15 at *
    clear eE
    refine (tget (unhide Z14).tb (unhide i13)).mono ?_
    rw [(unhide hcapG).1, (unhide hcapG).2]
    rintro e W16 ⟨rfl, K16⟩
    have Z16 := hide ((unhide Z14).grew (K16.alloc (.cells #[.int .i64 0, .int .i64 0, .int .i64 0, .int .i64 0, .int .i64 0] 37)))
    have E16 := hide (((unhide E14).kept K16 (by simp)).alloc (.cells #[.int .i64 0, .int .i64 0, .int .i64 0, .int .i64 0, .int .i64 0] 37))
    clear K16 Z14 E14
    clear c0 c1 c2 c3 c4 p0 p1 q0 q1 r0 r1
    go_wp2_with fail
    generalize W16.alloc (.cells #[.int .i64 0, .int .i64 0, .int .i64 0, .int .i64 0, .int .i64 0] 37) = W17 at *
    generalize W16.heap.size = H16 at *
    have hS : Hid (∀ w', Kp [] W17 w' → (fun w' => w'.cell? ⟨E, 0, none⟩ = some (.int .i64 ck) ∧ w'.cell? ⟨E, 1, none⟩ = some (.int .i64 co) ∧ w'.cell? ⟨E, 2, none⟩ = some (.int .i64 cz) ∧ w'.cell? ⟨E, 3, none⟩ = some (.int .i64 cb) ∧ w'.cell? ⟨E, 4, none⟩ = some (.int .i64 cr) ∧ w'.cell? ⟨h, 0, none⟩ = some (.int .i64 ck) ∧ w'.cell? ⟨h, 1, none⟩ = some (.int .i64 co) ∧ w'.cell? ⟨h, 2, none⟩ = some (.int .i64 cz) ∧ w'.cell? ⟨h, 3, none⟩ = some (.int .i64 cb) ∧ w'.cell? ⟨h, 4, none⟩ = some (.int .i64 cr) ∧ w'.cell? ⟨h + 1 + 1, 0, none⟩ = some (.int .i64 2) ∧ w'.cell? ⟨h + 1 + 1, 1, none⟩ = some (.int .i64 (i : Int)) ∧ w'.cell? ⟨h + 1 + 1 + 1, 0, none⟩ = some (.int .i64 4) ∧ w'.cell? ⟨h + 1 + 1 + 1, 1, none⟩ = some (.int .i64 4)) w') := fun w' k => by
      obtain ⟨⟨c0, c1, c2, c3, c4⟩, ⟨p0, p1⟩, ⟨q0, q1⟩, r0, r1⟩ := ((unhide Z16).grew k).nb.cells
      have d := (unhide E16).kept k (by simp)
      exact ⟨d.cell rfl, d.cell rfl, d.cell rfl, d.cell rfl, d.cell rfl, c0, c1, c2, c3, c4, q0, q1, r0, r1⟩
    have KK := hide (Kp.refl [] W17).drew
    go_region_held3 (fun w' => w'.cell? ⟨E, 0, none⟩ = some (.int .i64 ck) ∧ w'.cell? ⟨E, 1, none⟩ = some (.int .i64 co) ∧ w'.cell? ⟨E, 2, none⟩ = some (.int .i64 cz) ∧ w'.cell? ⟨E, 3, none⟩ = some (.int .i64 cb) ∧ w'.cell? ⟨E, 4, none⟩ = some (.int .i64 cr) ∧ w'.cell? ⟨h, 0, none⟩ = some (.int .i64 ck) ∧ w'.cell? ⟨h, 1, none⟩ = some (.int .i64 co) ∧ w'.cell? ⟨h, 2, none⟩ = some (.int .i64 cz) ∧ w'.cell? ⟨h, 3, none⟩ = some (.int .i64 cb) ∧ w'.cell? ⟨h, 4, none⟩ = some (.int .i64 cr) ∧ w'.cell? ⟨h + 1 + 1, 0, none⟩ = some (.int .i64 2) ∧ w'.cell? ⟨h + 1 + 1, 1, none⟩ = some (.int .i64 (i : Int)) ∧ w'.cell? ⟨h + 1 + 1 + 1, 0, none⟩ = some (.int .i64 4) ∧ w'.cell? ⟨h + 1 + 1 + 1, 1, none⟩ = some (.int .i64 4)) (exact unhide hS _ (unhide KK)) (first
      | (go_at_call 23; refine (tparent ((unhide Z16).grew (unhide KK)).tb (unhide i2i) (unhide hparC)).mono ?_; rintro e V ⟨rfl, kk⟩; replace KK := hide ((unhide KK).then kk); clear kk)
      | (go_at_call 27; refine (tbelow ((unhide Z16).grew (unhide KK)).tb (unhide i44)).mono ?_; rintro e V ⟨vB, rfl, PB1, kk⟩; obtain ⟨aB, cB, eB⟩ := PB1.form; rw [unhide hbel] at eB; subst eB; replace KK := hide ((unhide KK).then kk); clear kk PB1))
    all_goals
      go_wp2
      go_ret
      exact ⟨rfl, ((unhide Z16).grew (unhide KK)).tb.kp.below (Nat.le_refl _) (by simp)⟩
set_option maxRecDepth 8000 in
set_option maxHeartbeats 1000000 in
theorem names_out (a : Option Addr) (len cap : Nat) (rights to1 : Int) (w : World) (h : 20 < len) (hl : len ≤ 9223372036854775807) :
    Calls Try.prog 4 #[.slice a len cap, .int .i64 rights, .int .i64 to1] w fun e w' => e = .returned (.bool true) ∧ Below w.heap.size w w' := by
  have x2 : decide (20 < (len : Int)) = true := decide_eq_true (by omega)
  go_enter Try.func4, Try.ntmps4
  go_wp2_with fail
  refine (first_calls _).mono ?_
  rintro e W0 ⟨rfl, K0⟩
  replace K0 := hide K0
  go_wp2
  go_ret
  exact ⟨rfl, (unhide K0).below (Nat.le_refl _) (by simp)⟩
theorem names_walk7 (a : Option Addr) (len cap : Nat) (zs : List Int) (rights to1 : Int) (w : World) (hl : zs.length = len) (hI : Ints .i64 w a zs) (_ : (Lit.int .i64 rights).wf = true) (_ : (Lit.int .i64 to1).wf = true) :
    Calls Try.prog 4 #[.slice a len cap, .int .i64 rights, .int .i64 to1] w fun e w' => e = .returned (.bool true) ∧ Below w.heap.size w w' := by
  subst hl
  by_cases h : 20 < zs.length
  · exact names_out a _ cap rights to1 w h hI.1
  · exact names_in a cap zs rights to1 w (by omega) hI
end Go.Proofs.Ytgpclbkekobaoaa
