/- The walk of KillParents. -/
import Derived.Test.YtdlkaaiedfikoaaKLaw8
import Derived.Test.YtdlkaaiedfikoaaKArgs
import Derived.Test.YtdlkaaiedfikoaaKRef
import Derived.Deep.DeepCutAuto
import Derived.Deep.CutBlock
namespace Go.Proofs.Ytdlkaaiedfikoaa
open Go.RowKit
set_option linter.unusedVariables false
/-- The slot of number i of the row. -/
def psl (i : Nat) : Sl := ⟨2, (i : Int), if i = 0 then 0 else 2, if i = 0 then 0 else (i : Int) - 1, 4, 9, 0, 0, 7⟩
def upRow (n : Nat) : List Sl := (List.range n).map psl
def pputB (i : Nat) : Bool := placeOk 2 i && (atL (upRow i) 2 i).isNone && chk 4 9 0 0 7 && (isN (psl i).u (psl i).v || (atL (upRow i) (psl i).u (psl i).v).isSome)
theorem pputB_all : (List.range 11).all pputB = true := by kernel_rfl
theorem upRow_put (i : Nat) (h : i < 11) : putP (upRow i) 2 i 4 9 0 0 7 (psl i).u (psl i).v := by
  have := List.all_eq_true.1 pputB_all i (List.mem_range.2 h)
  unfold pputB at this
  rw [Bool.and_eq_true, Bool.and_eq_true, Bool.and_eq_true, Bool.or_eq_true, Option.isNone_iff_eq_none] at this
  obtain ⟨⟨⟨p1, p2⟩, p3⟩, p4⟩ := this
  exact put_is p1 p2 p3 (p4.imp id (fun q e => by rw [e] at q; cases q))
theorem upRow_ins (i : Nat) (h : i < 11) : insL (upRow i) (psl i) = upRow (i + 1) := by
  have hc : i = 0 ∨ i = 1 ∨ i = 2 ∨ i = 3 ∨ i = 4 ∨ i = 5 ∨ i = 6 ∨ i = 7 ∨ i = 8 ∨ i = 9 ∨ i = 10 := by omega
  rcases hc with rfl | rfl | rfl | rfl | rfl | rfl | rfl | rfl | rfl | rfl | rfl <;> rfl
theorem upRow_ins' (i : Nat) (h : i < 11) {u v : Int} (hu : (psl i).u = u) (hv : (psl i).v = v) : insL (upRow i) ⟨2, (i : Int), u, v, 4, 9, 0, 0, 7⟩ = upRow (i + 1) := by
  rw [← upRow_ins i h, ← hu, ← hv]; rfl
theorem psl_up (j : Nat) : (psl (j + 1)).u = 2 ∧ (psl (j + 1)).v = (j : Int) := by unfold psl; simp
def parD (n a : Nat) : List (Int × Int) × List Sl × Int := delF n (upRow n) 2 a
def parR (n a : Nat) : List (Int × Int) × List Sl × Int := revR n (parD n a).2.1 2 0
def parE (n a : Nat) : List (Int × Int) × List Sl × Int := delF 1 (parR n a).2.1 2 0
def parF (n a : Nat) : Bool := (parD n a).1.length == 0 && ((parD n a).2.2 == 0 && ((sel (lowF (parD n a).2.1 2 0) (parD n a).2.1).length == n - 2 && ((parR n a).1.length == 0 && ((parR n a).2.2 == 0 && ((parR n a).2.1.length == 1 && ((sel (fun _ => true) (parR n a).2.1).length == 1 && ((parE n a).1 == [(4, 9)] && (parE n a).2.2 == 0)))))))
theorem parF_all : (List.range 11).all (fun n => (List.range n).all (fun a => n == 0 || n == 1 || n == 2 || a == 0 || parF n a)) = true := by kernel_rfl
theorem trip {a : List (Int × Int)} {c : Int} {R : List (Int × Int) × List Sl × Int} (h1 : R.1 = a) (h2 : R.2.2 = c) : R = (a, R.2.1, c) := by rw [← h1, ← h2]
theorem par_facts {n a : Nat} (h1 : 3 ≤ n) (h2 : n < 11) (a1 : 1 ≤ a) (ha : a < n) : ∃ L1 L2 L3, delF n (upRow n) 2 a = ([], L1, 0) ∧ (sel (lowF L1 2 0) L1).length = n - 2 ∧ L1.length ≤ n ∧ revR n L1 2 0 = ([], L2, 0) ∧ L2.length = 1 ∧ (sel (fun _ => true) L2).length = 1 ∧ delF 1 L2 2 0 = ([(4, 9)], L3, 0) := by
  have f := List.all_eq_true.1 (List.all_eq_true.1 parF_all n (List.mem_range.2 h2)) a (List.mem_range.2 ha)
  have e0 : (n == 0) = false := beq_eq_false_iff_ne.2 (by omega)
  have e1 : (n == 1) = false := beq_eq_false_iff_ne.2 (by omega)
  have e2 : (n == 2) = false := beq_eq_false_iff_ne.2 (by omega)
  have e3 : (a == 0) = false := beq_eq_false_iff_ne.2 (by omega)
  rw [e0, e1, e2, e3, Bool.false_or, Bool.false_or, Bool.false_or, Bool.false_or] at f
  unfold parF at f
  simp only [Bool.and_eq_true] at f
  obtain ⟨f1, f2, f3, f4, f5, f6, f7, f8, f9⟩ := f
  have hl := delF_len n (upRow n) 2 a
  have hp : (upRow n).length = n := by unfold upRow; simp
  refine ⟨(parD n a).2.1, (parR n a).2.1, (parE n a).2.1, trip (List.eq_nil_of_length_eq_zero (eq_of_beq f1)) (eq_of_beq f2), eq_of_beq f3, ?_, trip (List.eq_nil_of_length_eq_zero (eq_of_beq f4)) (eq_of_beq f5), eq_of_beq f6, eq_of_beq f7, trip (eq_of_beq f8) (eq_of_beq f9)⟩
  rw [hp] at hl
  exact Nat.le_trans (Nat.le_add_left _ _) hl
/-- On the way: the row of j slots, and the place of the last one. -/
structure Dp8 (w : World) (t U j : Nat) (wr : World) : Prop where
  tab : TabIn w t (upRow j) wr
  up : Bk wr U 28 [.int .i64 (psl j).u, .int .i64 (psl j).v]
  ne : U ≠ t
  new : w.heap.size ≤ U
set_option maxRecDepth 4000 in
set_option maxHeartbeats 1500000 in
theorem parents_walk (n at0 : Int) (w : World) (_ : (Lit.int .i64 n).wf = true) (_ : (Lit.int .i64 at0).wf = true) :
    Calls Try.prog 3 #[.int .i64 n, .int .i64 at0] w fun e w' => e = .returned (.bool true) ∧ Below w.heap.size w w' := by
  obtain ⟨k, hk⟩ : ∃ k : Nat, n % 8 = (k : Int) := ⟨(n % 8).toNat, by omega⟩
  have k1 : k < 8 := by omega
  obtain ⟨N, hN⟩ : ∃ N : Nat, 3 + k = N := ⟨_, rfl⟩
  have hN' : 3 + (k : Int) = (N : Int) := by omega
  have hNw : IntKind.i64.wrap (3 + (k : Int)) = (N : Int) := by rw [IntKind.wrap_i64]; omega
  have hN1 : IntKind.i64.wrap ((N : Int) - 1) = (N : Int) - 1 := by rw [IntKind.wrap_i64]; omega
  have hN2 : IntKind.i64.wrap ((N : Int) - 2) = (N : Int) - 2 := by rw [IntKind.wrap_i64]; omega
  obtain ⟨b, hb⟩ : ∃ b : Nat, at0 % ((N : Int) - 1) = (b : Int) := ⟨(at0 % ((N : Int) - 1)).toNat, by have := Int.emod_nonneg at0 (b := (N : Int) - 1) (by omega); omega⟩
  have b1 : b < N - 1 := by have := Int.emod_lt_of_pos at0 (b := (N : Int) - 1) (by omega); omega
  obtain ⟨a, ha⟩ : ∃ a : Nat, 1 + b = a := ⟨_, rfl⟩
  have haw : IntKind.i64.wrap (1 + (b : Int)) = (a : Int) := by rw [IntKind.wrap_i64]; omega
  have ha' : 1 + (b : Int) = (a : Int) := by omega
  obtain ⟨L1, L2, L3, q1, q2, q3, q4, q5, q6, q7⟩ := par_facts (n := N) (a := a) (by omega) (by omega) (by omega) (by omega)
  have hNlt : N < 11 := by omega
  have hN3 : 3 ≤ N := by omega
  have halt : a < N := by omega
  replace hk := hide hk
  replace hb := hide hb
  replace q1 := hide q1
  replace q2 := hide q2
  replace q3 := hide q3
  replace q4 := hide q4
  replace q5 := hide q5
  replace q6 := hide q6
  replace q7 := hide q7
  go_enter Try.func3, Try.ntmps3
  go_wp2_with fail
  refine (first_calls _).mono ?_
  rintro e W0 ⟨rfl, K0⟩
  replace K0 := hide K0
  go_wp2_with fail
  refine (number_to _ _ _ _ (by omega) (by omega) (unhide hk)).mono ?_
  rintro e w1 ⟨rfl, rfl⟩
  go_wp2_with fail
  refine (number_to _ _ _ _ (by omega) (by omega) (unhide hb)).mono ?_
  rintro e w1 ⟨rfl, rfl⟩
  have X0 : Hid (Dp8 w w1.heap.size (w1.heap.size + 1) 0 ((w1.alloc (.cells #[.map none] 26)).alloc (.cells #[.int .i64 0, .int .i64 0] 28))) :=
    ⟨TabIn.of (T := []) (unhide K0) rfl ((Kp.refl [] _).alloc _), Bk.next (p := w1.heap.size + 1) _ _ [.int .i64 0, .int .i64 0] (by simp), by omega, by have := (unhide K0).size; omega⟩
  obtain ⟨t, et⟩ : ∃ t, w1.heap.size = t := ⟨_, rfl⟩
  rw [et] at X0
  go_wp2_with fail
  generalize ((w1.alloc (.cells #[.map none] 26)).alloc (.cells #[.int .i64 0, .int .i64 0] 28)) = w2 at *
  clear et K0 ha' hN' hNw haw
  go_loopg [8] N (fun m i wr => ∃ j : Nat, j ≤ N ∧ m = N - j ∧ i = .int .i64 j ∧ Dp8 w t (t + 1) j wr)
  case atStart => exact ⟨0, Nat.zero_le _, by omega, rfl, unhide X0⟩
  case round =>
    obtain ⟨j, hj, rfl, rfl, hst⟩ := hrel
    clear X0
    replace hst := hide hst
    by_cases hlt : j < N
    · have b1 : (j : Int) < (N : Int) := by omega
      obtain ⟨u, hu⟩ : ∃ u, (psl j).u = u := ⟨_, rfl⟩
      obtain ⟨v, hv⟩ : ∃ v, (psl j).v = v := ⟨_, rfl⟩
      have B := (unhide hst).up
      rw [hu, hv] at B
      have hP := hide (upRow_put j (by omega))
      rw [hu, hv] at hP
      have hI := hide (upRow_ins' j (by omega) hu hv)
      have hU : Hid (PIn (u, v)) := by
        unfold psl at hu hv
        have : (0 ≤ u ∧ u ≤ 3) ∧ (0 ≤ v ∧ v ≤ 16) := by by_cases h0 : j = 0 <;> simp [h0] at hu hv <;> omega
        exact pin8 (by omega) (by omega) (by omega) (by omega)
      replace hu := hide hu
      replace hv := hide hv
      have c0 := B.cell (i := 0) rfl
      have c1 := B.cell (i := 1) rfl
      have lt1 := B.lt
      have Xp := hide (Bk.new wr 28 [.int .i64 2, .int .i64 (j : Int)])
      have X1 := hide ((unhide hst).tab.grew ((Kp.refl [] wr).alloc (.cells #[.int .i64 2, .int .i64 (j : Int)] 28)))
      have Xu := hide (B.alloc (.cells #[.int .i64 2, .int .i64 (j : Int)] 28))
      have tlt := hide (unhide hst).tab.lt
      have tnew := hide (unhide hst).new
      have tne := hide (unhide hst).ne
      clear B hst
      go_wp2_with fail
      refine (tput_yes (unhide X1) (pin_ok (unhide hP).1) (unhide hU) (unhide hP) (by simp [upRow]; omega) (unhide hI)).mono ?_
      rintro e W3 ⟨rfl, X3, T3⟩
      have Bp := T3.bk (unhide Xp) (by have := unhide tlt; omega)
      have Bu := T3.bk (unhide Xu) (unhide tne)
      have p0 := Bp.cell (i := 0) rfl
      have p1 := Bp.cell (i := 1) rfl
      have f0 := Bu.frozen
      have d0 := Bu.cell (i := 0) rfl
      have d1 := Bu.cell (i := 1) rfl
      replace X3 := hide X3
      replace Bu := hide Bu
      clear T3 Bp c0 c1
      go_wp2
      go_roundg (N - (j + 1))
      case measure => omega
      case rel =>
        refine ⟨j + 1, by omega, rfl, by go_num, (unhide X3).beside (kp_two _ _) (unhide Bu) (unhide tne) (unhide tnew), ?_, unhide tne, unhide tnew⟩
        rw [(psl_up j).1, (psl_up j).2]
        exact bk2 (unhide Bu)
    · have b1 : decide ((j : Int) < (N : Int)) = false := by simp; omega
      have hjk : j = N := by omega
      subst hjk
      have X4 := hide (unhide hst).tab
      have h2a : Hid (PIn (2, (a : Int))) := pin8 (by omega) (by omega) (by omega) (by omega)
      have h20 : Hid (PIn (2, 0)) := pin8 (by omega) (by omega) (by omega) (by omega)
      clear hst
      go_wp2_with fail
      refine (kdelete (unhide X4) (m := j) (by simp [upRow]) (unhide h2a) (unhide q1)).mono ?_
      rintro e W4 ⟨v4, rfl, O4, X5, _⟩
      simp only at O4 X5 ⊢
      obtain ⟨a4, c4, e4⟩ := O4.zero
      subst e4
      replace X5 := hide X5
      clear O4 X4
      go_wp2_with fail
      refine (tbelow (unhide X5) (unhide h20)).mono ?_
      rintro e W5 ⟨v5, rfl, P5, K5⟩
      obtain ⟨a5, c5, e5⟩ := P5.form
      rw [unhide q2] at e5
      subst e5
      have X6 := hide ((unhide X5).grew K5)
      have c2 : ((j - 2 : Nat) : Int) = (j : Int) - 2 := by omega
      clear P5 K5 X5
      go_wp2_with fail
      refine (krevoke (unhide X6) (m := j) (unhide q3) (unhide h20) (unhide q4)).mono ?_
      rintro e W6 ⟨v6, rfl, O6, X7, _⟩
      simp only at O6 X7 ⊢
      obtain ⟨a6, c6, e6⟩ := O6.zero
      subst e6
      replace X7 := hide X7
      clear O6 X6
      go_wp2_with fail
      refine (tall (unhide X7)).mono ?_
      rintro e W7 ⟨v7, rfl, P7, K7⟩
      obtain ⟨a7, c7, e7⟩ := P7.form
      rw [unhide q6] at e7
      subst e7
      have X8 := hide ((unhide X7).grew K7)
      clear P7 K7 X7
      go_wp2_with fail
      refine (kdelete (unhide X8) (m := 1) (Nat.le_of_eq (unhide q5)) (unhide h20) (unhide q7)).mono ?_
      rintro e W8 ⟨v8, rfl, O8, X9, _⟩
      simp only at O8 X9 ⊢
      obtain ⟨g, c8, e8, x0, x1⟩ := O8.one
      subst e8
      replace X9 := hide X9
      clear O8 X8
      go_wp2
      go_ret
      exact ⟨rfl, (unhide X9).kp.below (Nat.le_refl _) (by simp)⟩
end Go.Proofs.Ytdlkaaiedfikoaa
