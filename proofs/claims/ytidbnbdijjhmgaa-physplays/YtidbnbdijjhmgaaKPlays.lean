/- The walk of PhysPlays. -/
import Derived.Test.YtidbnbdijjhmgaaKLaw2
import Derived.Test.YtidbnbdijjhmgaaKRNew
import Derived.Test.YtidbnbdijjhmgaaKArgs
import Derived.Deep.DeepCutAuto
import Derived.Deep.CutBlock
namespace Go.Proofs.Ytidbnbdijjhmgaa
open Go.RowKit
set_option linter.unusedVariables false
set_option maxHeartbeats 400000 in
theorem plays_long (a0 : Int) (a1 : Option Addr) (len cap : Nat) (w : World) (hl : 40 < len) :
    Calls Try.prog 3 #[.int .i64 a0, .slice a1 len cap] w fun e w' => e = .returned (.bool true) ∧ Below w.heap.size w w' := by
  have h2 : (40 : Int) < (len : Int) := by omega
  go_enter Try.func3, Try.ntmps3
  go_wp2_with fail
  refine (first_calls _).mono ?_
  rintro e W0 ⟨rfl, K0⟩
  go_wp2
  go_ret
  exact ⟨rfl, K0.below (Nat.le_refl _) (by simp)⟩
/-- The two memories, beside one another. -/
def St (w : World) (p g q h n c : Nat) (wr : World) : Prop := ∃ bs L, PMem wr p g n bs ∧ RMem wr q h n c L bs ∧ (∀ y ∈ L, w.heap.size ≤ y) ∧ Kp [] w wr
theorem St.drewN {w : World} {p g q h n c : Nat} {wr : World} (s : St w p g q h n c wr) (k : Nat) : St w p g q h n c (wr.drewN k) := by
  obtain ⟨bs, L, h1, h2, h3, h4⟩ := s
  exact ⟨bs, L, h1.drewN k, h2.drewN k, h3, h4.drewN k⟩
/-- The two memories in the midst of a thing, and the thing itself. -/
structure Two (w : World) (p g q h n c A : Nat) (kd u o x : Int) (wr : World) (bs1 L bs2 : List Nat) : Prop where
  pm : PMem wr p g n bs1
  rm : RMem wr q h n c L bs2
  fresh : ∀ y ∈ L, w.heap.size ≤ y
  kp : Kp [] w wr
  it : Bk wr A 33 [.int .i64 kd, .int .i64 u, .int .i64 o, .int .i64 x]
theorem Two.drew {w : World} {p g q h n c A : Nat} {kd u o x : Int} {wr : World} {bs1 L bs2 : List Nat} (t : Two w p g q h n c A kd u o x wr bs1 L bs2) : Two w p g q h n c A kd u o x wr.drew bs1 L bs2 :=
  ⟨t.pm.kept ((Kp.refl [] wr).drew) (by simp) (by simp), t.rm.new ((Kp.refl [] wr).drew), t.fresh, t.kp.drew, t.it⟩
theorem Two.pwrote {w : World} {p g q h n c A : Nat} {kd u o x : Int} {wr w' : World} {bs1 L bs2 bs3 : List Nat} (t : Two w p g q h n c A kd u o x wr bs1 L bs2) (hg : w.heap.size ≤ g) (k : Kp [g] wr w') (m : PMem w' p g n bs3) : Two w p g q h n c A kd u o x w' bs3 L bs2 :=
  ⟨m, t.rm.beside t.pm k, t.fresh, t.kp.trans k (by simp) (by simpa using hg), t.it.kept k (by simpa using t.it.apart t.pm.body (by decide))⟩
theorem Two.rwrote {w : World} {p g q h n c A : Nat} {kd u o x : Int} {wr w' : World} {bs1 L bs2 L' bs3 : List Nat} (t : Two w p g q h n c A kd u o x wr bs1 L bs2) (hh : w.heap.size ≤ h) (k : Kp (h :: L) wr w') (m : RMem w' q h n c L' bs3) (f : ∀ y ∈ L', y ∈ L ∨ wr.heap.size ≤ y) : Two w p g q h n c A kd u o x w' bs1 L' bs3 := by
  obtain ⟨rest, hr⟩ := t.rm.rows
  refine ⟨PMem.beside t.rm t.pm k, m, fun y hy => ?_, t.kp.trans k (by simp) (fun y hy => .inr ?_), t.it.kept k (fun hm => ?_)⟩
  · rcases f y hy with hy | hy
    · exact t.fresh y hy
    · exact Nat.le_trans t.kp.size hy
  · rcases List.mem_cons.1 hy with rfl | hy
    · exact hh
    · exact t.fresh y hy
  · rcases List.mem_cons.1 hm with e | hy
    · exact t.it.apart hr (by decide) e
    · obtain ⟨i, hi, e⟩ := List.mem_iff_getElem.1 hy
      have := t.rm.each i (by rw [← t.rm.count]; exact hi)
      rw [List.getD_eq_getElem?_getD, List.getElem?_eq_getElem hi] at this
      exact t.it.apart this (by decide) e.symm
theorem Row.kept {S : List Nat} {w w' : World} {a : Option Addr} {bs : List Nat} (r : Row w a bs) (k : Kp S w w') (hS : ∀ ad, a = some ad → ad.block ∉ S) : Row w' a bs := by
  obtain ⟨h1, h2, h3⟩ := r
  refine ⟨h1, h2, ?_⟩
  rcases h3 with hz | ⟨b, off, rfl, hc⟩
  · exact .inl hz
  · refine .inr ⟨b, off, rfl, fun i hi => ?_⟩
    have h := hc i hi
    rw [World.cell?_of_block (w := w) (a := ⟨b, off + i, .none⟩) (k.block b (World.block_lt_of_cell? w _ h) (hS _ rfl))]
    exact h
theorem Two.new {w : World} {p g q h n c A : Nat} {kd u o x : Int} {wr w' : World} {bs1 L bs2 : List Nat} (t : Two w p g q h n c A kd u o x wr bs1 L bs2) (k : Kp [] wr w') : Two w p g q h n c A kd u o x w' bs1 L bs2 :=
  ⟨t.pm.kept k (by simp) (by simp), t.rm.new k, t.fresh, t.kp.then k, t.it.kept k (by simp)⟩
theorem Two.far {w : World} {p g q h n c A : Nat} {kd u o x : Int} {wr : World} {bs1 L bs2 : List Nat} (t : Two w p g q h n c A kd u o x wr bs1 L bs2) {B : Nat} (hB : wr.heap.size ≤ B) : B ∉ [g] ∧ B ∉ h :: L := by
  obtain ⟨rest, hr⟩ := t.rm.rows
  have h1 := t.pm.body.lt
  have h2 := hr.lt
  refine ⟨by simp; omega, fun hm => ?_⟩
  rcases List.mem_cons.1 hm with e | hy
  · omega
  · obtain ⟨i, hi, e⟩ := List.mem_iff_getElem.1 hy
    have := t.rm.each i (by rw [← t.rm.count]; exact hi)
    rw [List.getD_eq_getElem?_getD, List.getElem?_eq_getElem hi] at this
    have := this.lt
    simp at this
    omega
theorem Two.st {w : World} {p g q h n c A : Nat} {kd u o x : Int} {wr : World} {bs L : List Nat} (t : Two w p g q h n c A kd u o x wr bs L bs) : St w p g q h n c wr := ⟨bs, L, t.pm, t.rm, t.fresh, t.kp⟩
set_option maxRecDepth 100000 in
set_option maxHeartbeats 4000000 in
theorem plays_in (a0 : Int) (a1 : Option Addr) (len cap : Nat) (V : Nat → Nat → Value) (w : World) (h1 : Recs w a1 len 4 V) (hl : len ≤ 40)
   (y1 : ∀ i, i < len → (∃ n, V i 0 = .int .i64 n ∧ (Lit.int .i64 n).wf = true) ∧ (∃ n, V i 1 = .int .i64 n ∧ (Lit.int .i64 n).wf = true) ∧ (∃ n, V i 2 = .int .i64 n ∧ (Lit.int .i64 n).wf = true) ∧ (∃ n, V i 3 = .int .i64 n ∧ (Lit.int .i64 n).wf = true)) :
    Calls Try.prog 3 #[.int .i64 a0, .slice a1 len cap] w fun e w' => e = .returned (.bool true) ∧ Below w.heap.size w w' := by
  have h2 : decide ((40 : Int) < (len : Int)) = false := by simp; omega
  have HREC := hide h1
  replace y1 := hide y1
  clear h1
  go_enter Try.func3, Try.ntmps3
  go_wp2_with fail
  refine (first_calls _).mono ?_
  rintro e W0 ⟨rfl, K0⟩
  go_wp2_with fail
  refine (new_calls _ _).mono ?_
  rintro e W1 ⟨p, g, rfl, hm, hp, hg, hk⟩
  have K1 : Kp [] w W1 := K0.then hk
  replace hp : w.heap.size ≤ p := Nat.le_trans K0.size hp
  replace hg : w.heap.size ≤ g := Nat.le_trans K0.size hg
  replace hm := hide hm
  clear hk K0
  go_wp2_with fail
  refine (rnew_calls _ _).mono ?_
  rintro e W2 ⟨q, h, c, L, rfl, hr, hq, hh, hL, hk⟩
  have K2 : Kp [] w W2 := K1.then hk
  replace hq : w.heap.size ≤ q := Nat.le_trans K1.size hq
  replace hh : w.heap.size ≤ h := Nat.le_trans K1.size hh
  have hL' : ∀ y ∈ L, w.heap.size ≤ y := fun y hy => Nat.le_trans K1.size (hL y hy)
  replace hm := hide ((unhide hm).kept hk (by simp) (by simp))
  have hnb := unitsOf_bd a0
  obtain ⟨n, hn⟩ : ∃ n, unitsOf a0 = n := ⟨_, rfl⟩
  rw [hn] at hm hr hnb
  have hcq : W2.cell? ⟨q, 0, none⟩ = some (.slice (some ⟨h, 0, none⟩) n c) := hr.head.cell rfl
  have hST : Hid (St w p g q h n c W2) := ⟨_, L, unhide hm, hr, hL', K2⟩
  have hU := hide (fun k => units_calls ((unhide hm).drewN k))
  clear hk hL hL' K1 K2 hr hn hm
  go_wp2_with fail
  go_quiet ((go_at_call 10; exact Calls.quiet_of_same (unhide hU _)))
  go_wp2
  replace hST := hide ((unhide hST).drewN nq)
  clear hU hcq
  go_loopg [8] len (fun k i wr => ∃ j : Nat, j ≤ len ∧ k = len - j ∧ i = .int .i64 j ∧ St w p g q h n c wr)
  case atStart => exact ⟨0, Nat.zero_le _, by omega, rfl, unhide hST⟩
  case round =>
    obtain ⟨j, hj, rfl, rfl, hst⟩ := hrel
    by_cases hlt : j < len
    · obtain ⟨bs, L, hm, hr, hL, hk⟩ := hst
      obtain ⟨⟨kd, e0, w0⟩, ⟨u, e1, w1⟩, ⟨o, e2, w2⟩, ⟨x, e3, w3⟩⟩ := unhide y1 j hlt
      have hrc := (unhide HREC).below (hk.below (Nat.le_refl _) (by simp)) (Nat.le_refl _)
      obtain ⟨_, hz | ⟨b, off, rfl, hc⟩⟩ := hrc
      · omega
      have c0 := hc j 0 hlt (by omega)
      have c1 := hc j 1 hlt (by omega)
      have c2 := hc j 2 hlt (by omega)
      have c3 := hc j 3 hlt (by omega)
      rw [e0, Nat.add_zero] at c0
      rw [e1, ← Nat.add_assoc] at c1
      rw [e2, ← Nat.add_assoc] at c2
      rw [e3, ← Nat.add_assoc] at c3
      have o1 := (bounds_i64 w2).1
      have o2 := (bounds_i64 w2).2
      have hlb := World.block_lt_of_cell? wr _ c0
      clear hc e0 e1 e2 e3 w0 w1 w2 w3
      replace hm := hide hm
      replace hr := hide hr
      replace hL := hide hL
      replace hk := hide hk
      have b1 : (j : Int) < (len : Int) := by omega
      obtain ⟨kk, hkk⟩ : ∃ kk, kd % 4 = kk := ⟨_, rfl⟩
      have kk0 : 0 ≤ kk := by omega
      have kk4 : kk < 4 := by omega
      replace hkk := hide hkk
      have hA : Hid (Bk (wr.alloc (.cells #[.int .i64 kd, .int .i64 u, .int .i64 o, .int .i64 x] 33)) wr.heap.size 33 [.int .i64 kd, .int .i64 u, .int .i64 o, .int .i64 x]) := Bk.newA _ _ _
      have hmA := hide ((unhide hm).kept ((Kp.refl [] wr).alloc (.cells #[.int .i64 kd, .int .i64 u, .int .i64 o, .int .i64 x] 33)) (by simp) (by simp))
      have hrA := hide ((unhide hr).new ((Kp.refl [] wr).alloc (.cells #[.int .i64 kd, .int .i64 u, .int .i64 o, .int .i64 x] 33)))
      have hkA := hide ((unhide hk).alloc (.cells #[.int .i64 kd, .int .i64 u, .int .i64 o, .int .i64 x] 33))
      clear hm hr hk hST
      go_wp2_with fail
      refine (number_to _ _ _ _ (by omega) (by omega) (unhide hkk)).mono ?_
      rintro e w' ⟨rfl, rfl⟩
      go_upto_block 2 with fail
      go_cut [] (fun wx => St w p g q h n c wx)
      case first =>
        have hcase : kk = 0 ∨ kk = 3 ∨ ((kk == 0) = false ∧ (kk == 3) = false) := by
          by_cases h0 : kk = 0
          · exact .inl h0
          · by_cases h3 : kk = 3
            · exact .inr (.inl h3)
            · exact .inr (.inr ⟨beq_eq_false_iff_ne.2 h0, beq_eq_false_iff_ne.2 h3⟩)
        rcases hcase with rfl | rfl | ⟨d0, d3⟩
        · cases hi : inside n u o x
          · go_wp2_with fail
            refine (read_no (unhide hmA) u o x o2 hi).mono ?_
            rintro e w' ⟨rfl, rfl⟩
            go_wp2_with fail
            refine (rread_no (unhide hrA) u o x o2 hi).mono ?_
            rintro e w' ⟨rfl, rfl⟩
            go_wp2_with fail
            refine (same_len none none 0 0 [] 0 rfl _ (Row.none _ _) (Row.none _ _)).mono ?_
            rintro e w' ⟨rfl, k9, rfl⟩
            go_wp2
            go_meet
            case rel => exact St.drewN ⟨bs, L, unhide hmA, unhide hrA, unhide hL, unhide hkA⟩ k9
          · go_wp2_with fail
            refine (read_yes (unhide hmA) u o x o2 hi).mono ?_
            rintro e W3 ⟨h3, rfl, hl3, hb3, _, hk3⟩
            have hm3 := hide ((unhide hmA).kept hk3 (by simp) (by simp))
            have hr3 := hide ((unhide hrA).new hk3)
            have hk3' := hide ((unhide hkA).then hk3)
            have hA3 := (unhide hA).kept hk3 (by simp)
            have f1 : W3.cell? ⟨wr.heap.size, 1, none⟩ = some (.int .i64 u) := hA3.cell rfl
            have f2 : W3.cell? ⟨wr.heap.size, 2, none⟩ = some (.int .i64 o) := hA3.cell rfl
            have f3 : W3.cell? ⟨wr.heap.size, 3, none⟩ = some (.int .i64 x) := hA3.cell rfl
            replace hb3 := hide hb3
            clear hk3 hmA hrA hkA hA3
            go_wp2_with fail
            refine (rread_yes (unhide hr3) u o x o2 hi).mono ?_
            rintro e W4 ⟨a4, c4, rfl, hl4, hb4, hk4⟩
            have hm5 := hide ((unhide hm3).kept hk4 (by simp) (by simp))
            have hr5 := hide ((unhide hr3).new hk4)
            have hk5 := hide ((unhide hk3').then hk4)
            have hb5 := hide ((unhide hb3).kept hk4 (by simp))
            have hsm := hb4.1
            have hsl := hb4.2.1
            replace hb4 := hide hb4
            replace hl3 := hide hl3
            clear hk4 hm3 hr3 hk3' hb3 hl4
            go_wp2_with fail
            refine (same_len _ _ _ _ _ _ (unhide hl3) _ ((unhide hb5).rowAll hsm hsl) (unhide hb4)).mono ?_
            rintro e w' ⟨rfl, k9, rfl⟩
            go_wp2
            go_meet
            case rel => exact St.drewN ⟨bs, L, unhide hm5, unhide hr5, unhide hL, unhide hk5⟩ k9
        · by_cases hi : 1 ≤ u ∧ u ≤ (n : Int)
          · have hT : Hid (Two w p g q h n c wr.heap.size kd u o x (wr.alloc (.cells #[.int .i64 kd, .int .i64 u, .int .i64 o, .int .i64 x] 33)).drew bs L bs) := Two.drew ⟨unhide hmA, unhide hrA, unhide hL, unhide hkA, unhide hA⟩
            clear hA hmA hrA hL hkA
            replace hi := hide hi
            go_wp2_with fail
            go_region_held3 (fun w' => w'.cell? ⟨wr.heap.size, 1, none⟩ = some (.int .i64 u)) (go_keep)
              (first
                | (go_at_call 15; refine (zero_yes (unhide hT5b).pm u (unhide hi)).mono ?_; rintro e W6 ⟨rfl, hm6, hk6⟩; have hT6 := hide ((unhide hT5b).pwrote hg hk6 hm6); have f6 : W6.cell? ⟨wr.heap.size, 1, none⟩ = some (.int .i64 u) := (unhide hT6).it.cell rfl; clear hm6 hk6)
                | (go_at_call 16; refine (rzero_yes (unhide hT5a).rm u (unhide hi)).mono ?_; rintro e W6 ⟨L6, rfl, hm6, hk6, hL6⟩; have hT6 := hide ((unhide hT5a).rwrote hh hk6 hm6 hL6); have f6 : W6.cell? ⟨wr.heap.size, 1, none⟩ = some (.int .i64 u) := (unhide hT6).it.cell rfl; clear hm6 hk6 hL6)
                | (go_at_call 15; refine (zero_yes (unhide hT).pm u (unhide hi)).mono ?_; rintro e W5 ⟨rfl, hm5, hk5⟩; have hT5a := hide ((unhide hT).pwrote hg hk5 hm5); have f5 : W5.cell? ⟨wr.heap.size, 1, none⟩ = some (.int .i64 u) := (unhide hT5a).it.cell rfl; clear hm5 hk5)
                | (go_at_call 16; refine (rzero_yes (unhide hT).rm u (unhide hi)).mono ?_; rintro e W5 ⟨L5, rfl, hm5, hk5, hL5⟩; have hT5b := hide ((unhide hT).rwrote hh hk5 hm5 hL5); have f5 : W5.cell? ⟨wr.heap.size, 1, none⟩ = some (.int .i64 u) := (unhide hT5b).it.cell rfl; clear hm5 hk5 hL5))
            all_goals
              go_wp2
              go_meet
              case rel => exact (unhide hT6).st
          · have hU := hide (fun k => zero_no ((unhide hmA).drewN k) u hi)
            have hV := hide (fun k => rzero_no ((unhide hrA).drewN k) u hi)
            go_wp2_with fail
            go_quiet ((first | (go_at_call 15; exact Calls.quiet_of_same (unhide hU _)) | (go_at_call 16; exact Calls.quiet_of_same (unhide hV _))))
            go_wp2
            go_meet
            case rel => exact St.drewN ⟨bs, L, unhide hmA, unhide hrA, unhide hL, unhide hkA⟩ nq
        · obtain ⟨z, hz⟩ : ∃ z : Nat, x % 600 = (z : Int) := ⟨(x % 600).toNat, by omega⟩
          have z1 : z < 600 := by omega
          replace hz := hide hz
          have hT : Hid (Two w p g q h n c wr.heap.size kd u o x (wr.alloc (.cells #[.int .i64 kd, .int .i64 u, .int .i64 o, .int .i64 x] 33)) bs L bs) := ⟨unhide hmA, unhide hrA, unhide hL, unhide hkA, unhide hA⟩
          clear hA hmA hrA hL hkA
          go_wp2_with fail
          refine (number_to _ _ _ _ (by omega) (by omega) (unhide hz)).mono ?_
          rintro e w' ⟨rfl, rfl⟩
          go_wp2_with fail
          refine (some_int _ _ z _ rfl (by omega) (by omega) (by omega)).mono ?_
          rintro e W4 ⟨a4, c4, rfl, hl4, hr4, hk4, hf4⟩
          have hfar : Hid (∀ ad, a4 = some ad → ad.block ∉ [g] ∧ ad.block ∉ h :: L) := fun ad e => (unhide hT).far (hf4 ad e)
          have hT4 := hide ((unhide hT).new hk4)
          have f1 : W4.cell? ⟨wr.heap.size, 1, none⟩ = some (.int .i64 u) := (unhide hT4).it.cell rfl
          have f2 : W4.cell? ⟨wr.heap.size, 2, none⟩ = some (.int .i64 o) := (unhide hT4).it.cell rfl
          replace hr4 := hide hr4
          replace hl4 := hide hl4
          clear hk4 hf4 hT hz
          cases hi : inside n u o z
          · have hU := hide (fun k => write_no ((unhide hT4).pm.drewN k) u o a4 z c4 o2 hi)
            have hV := hide (fun k => rwrite_no ((unhide hT4).rm.drewN k) u o a4 z c4 o2 hi)
            replace hi := hide hi
            go_wp2_with fail
            go_quiet ((first | (go_at_call 18; exact Calls.quiet_of_same (unhide hU _)) | (go_at_call 19; exact Calls.quiet_of_same (unhide hV _))))
            go_wp2
            go_meet
            case rel => exact St.drewN (unhide hT4).st nq
          · replace hT4 := hide (unhide hT4).drew
            have hr5 : Hid (Row W4.drew a4 (someB z j)) := (unhide hr4).drewN 1
            have hfL : Hid (∀ ad, a4 = some ad → ad.block ∉ L) := fun ad e hm => (unhide hfar ad e).2 (List.mem_cons_of_mem _ hm)
            replace hi := hide hi
            clear hr4
            go_wp2_with fail
            go_region_held3 (fun w' => w'.cell? ⟨wr.heap.size, 1, none⟩ = some (.int .i64 u) ∧ w'.cell? ⟨wr.heap.size, 2, none⟩ = some (.int .i64 o)) (go_keep)
              (first
                | (go_at_call 18; refine (write_yes (unhide hT5b).pm u o a4 z c4 _ (unhide hl4) (unhide hr5b) o2 (unhide hi)).mono ?_; rintro e W6 ⟨rfl, hm6, hk6⟩; have hT6 := hide ((unhide hT5b).pwrote hg hk6 hm6); have f6 : W6.cell? ⟨wr.heap.size, 1, none⟩ = some (.int .i64 u) := (unhide hT6).it.cell rfl; have e6 : W6.cell? ⟨wr.heap.size, 2, none⟩ = some (.int .i64 o) := (unhide hT6).it.cell rfl; clear hm6 hk6)
                | (go_at_call 19; refine (rwrite_yes (unhide hT5a).rm u o a4 z c4 _ (unhide hl4) (unhide hr5a) (unhide hfL) o2 (unhide hi)).mono ?_; rintro e W6 ⟨L6, rfl, hm6, hk6, hL6⟩; have hT6 := hide ((unhide hT5a).rwrote hh hk6 hm6 hL6); have f6 : W6.cell? ⟨wr.heap.size, 1, none⟩ = some (.int .i64 u) := (unhide hT6).it.cell rfl; have e6 : W6.cell? ⟨wr.heap.size, 2, none⟩ = some (.int .i64 o) := (unhide hT6).it.cell rfl; clear hm6 hk6 hL6)
                | (go_at_call 18; refine (write_yes (unhide hT4).pm u o a4 z c4 _ (unhide hl4) (unhide hr5) o2 (unhide hi)).mono ?_; rintro e W5 ⟨rfl, hm5, hk5⟩; have hT5a := hide ((unhide hT4).pwrote hg hk5 hm5); have hr5a := hide ((unhide hr5).kept hk5 (fun ad e => (unhide hfar ad e).1)); have f5 : W5.cell? ⟨wr.heap.size, 1, none⟩ = some (.int .i64 u) := (unhide hT5a).it.cell rfl; have e5 : W5.cell? ⟨wr.heap.size, 2, none⟩ = some (.int .i64 o) := (unhide hT5a).it.cell rfl; clear hm5 hk5)
                | (go_at_call 19; refine (rwrite_yes (unhide hT4).rm u o a4 z c4 _ (unhide hl4) (unhide hr5) (unhide hfL) o2 (unhide hi)).mono ?_; rintro e W5 ⟨L5, rfl, hm5, hk5, hL5⟩; have hT5b := hide ((unhide hT4).rwrote hh hk5 hm5 hL5); have hr5b := hide ((unhide hr5).kept hk5 (fun ad e => (unhide hfar ad e).2)); have f5 : W5.cell? ⟨wr.heap.size, 1, none⟩ = some (.int .i64 u) := (unhide hT5b).it.cell rfl; have e5 : W5.cell? ⟨wr.heap.size, 2, none⟩ = some (.int .i64 o) := (unhide hT5b).it.cell rfl; clear hm5 hk5 hL5))
            all_goals
              go_wp2
              go_meet
              case rel => exact (unhide hT6).st
      case rest =>
        clear hA hmA hrA hkA hL
        replace hcut := hide hcut
        go_wp2
        go_loopg [15] 5 (fun k i wr => ∃ j : Nat, j ≤ 5 ∧ k = 5 - j ∧ i = .int .i64 j ∧ St w p g q h n c wr)
        case atStart => exact ⟨0, Nat.zero_le _, by omega, rfl, unhide hcut⟩
        case round =>
          obtain ⟨i, hi, rfl, rfl, hst⟩ := hrel
          by_cases hlt2 : i < 5
          · obtain ⟨bs, L, hm, hr, hL, hk⟩ := hst
            replace hm := hide hm
            replace hr := hide hr
            replace hL := hide hL
            replace hk := hide hk
            by_cases hin : 1 ≤ (i : Int) ∧ (i : Int) ≤ (n : Int)
            · go_wp2_with fail
              refine (bytes_yes (unhide hm) _ hin).mono ?_
              rintro e W3 ⟨h3, rfl, hl3, hb3, _, hk3⟩
              have hm3 := hide ((unhide hm).kept hk3 (by simp) (by simp))
              have hr3 := hide ((unhide hr).new hk3)
              have hk3' := hide ((unhide hk).then hk3)
              replace hb3 := hide hb3
              replace hl3 := hide hl3
              clear hk3 hm hr hk
              go_wp2_with fail
              refine (rbytes_yes (unhide hr3) _ hin).mono ?_
              rintro e W4 ⟨a4, c4, rfl, hl4, hb4, hk4⟩
              have hm5 := hide ((unhide hm3).kept hk4 (by simp) (by simp))
              have hr5 := hide ((unhide hr3).new hk4)
              have hk5 := hide ((unhide hk3').then hk4)
              have hb5 := hide ((unhide hb3).kept hk4 (by simp))
              have hsm := hide hb4.1
              have hsl := hide hb4.2.1
              replace hb4 := hide hb4
              clear hk4 hm3 hr3 hk3' hb3 hl4
              go_wp2_with fail
              refine (same_len _ _ _ _ _ _ (unhide hl3) _ ((unhide hb5).rowAll (unhide hsm) (unhide hsl)) (unhide hb4)).mono ?_
              rintro e w' ⟨rfl, k9, rfl⟩
              have hst : Hid (St w p g q h n c (W4.drewN k9)) := St.drewN ⟨bs, L, unhide hm5, unhide hr5, unhide hL, unhide hk5⟩ k9
              clear hm5 hr5 hL hk5 hb5 hb4
              go_wp2
              go_roundg (5 - (i + 1))
              case measure => omega
              case rel => exact ⟨i + 1, by omega, rfl, by go_num, unhide hst⟩
            · go_wp2_with fail
              refine (bytes_no (unhide hm) _ hin).mono ?_
              rintro e w' ⟨rfl, rfl⟩
              go_wp2_with fail
              refine (rbytes_no (unhide hr) _ hin).mono ?_
              rintro e w' ⟨rfl, rfl⟩
              go_wp2_with fail
              refine (same_len none none 0 0 [] 0 rfl _ (Row.none _ _) (Row.none _ _)).mono ?_
              rintro e w' ⟨rfl, k9, rfl⟩
              have hst : Hid (St w p g q h n c (_root_.Go.World.drewN _ k9)) := St.drewN ⟨bs, L, unhide hm, unhide hr, unhide hL, unhide hk⟩ k9
              clear hm hr hL hk
              go_wp2
              go_roundg (5 - (i + 1))
              case measure => omega
              case rel => exact ⟨i + 1, by omega, rfl, by go_num, unhide hst⟩
          · replace hst := hide hst
            have b2 : decide ((i : Int) ≤ 4) = false := by simp; omega
            go_wp2
            go_roundg (len - (j + 1))
            case measure => omega
            case rel => exact ⟨j + 1, by omega, rfl, by go_num, unhide hst⟩
    · have b1 : decide ((j : Int) < (len : Int)) = false := by simp; omega
      obtain ⟨_, _, _, _, _, hk⟩ := hst
      replace hk := hide hk
      go_wp2
      go_ret
      exact ⟨rfl, (unhide hk).below (Nat.le_refl _) (by simp)⟩
theorem plays_walk (a0 : Int) (a1 : Option Addr) (len cap : Nat) (V : Nat → Nat → Value) (w : World) (w0 : (Lit.int .i64 a0).wf = true) (h1 : Recs w a1 len 4 V)
   (y1 : ∀ i, i < len → (∃ n, V i 0 = .int .i64 n ∧ (Lit.int .i64 n).wf = true) ∧ (∃ n, V i 1 = .int .i64 n ∧ (Lit.int .i64 n).wf = true) ∧ (∃ n, V i 2 = .int .i64 n ∧ (Lit.int .i64 n).wf = true) ∧ (∃ n, V i 3 = .int .i64 n ∧ (Lit.int .i64 n).wf = true)) :
    Calls Try.prog 3 #[.int .i64 a0, .slice a1 len cap] w fun e w' => e = .returned (.bool true) ∧ Below w.heap.size w w' := by
  by_cases hl : len ≤ 40
  · exact plays_in a0 a1 len cap V w h1 hl y1
  · exact plays_long a0 a1 len cap w (by omega)
end Go.Proofs.Ytidbnbdijjhmgaa
