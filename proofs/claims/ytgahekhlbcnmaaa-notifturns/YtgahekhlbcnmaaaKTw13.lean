/- The program's notification and the document's, beside one another. -/
import Derived.Test.YtgahekhlbcnmaaaKNotIn
import Derived.Test.YtgahekhlbcnmaaaKSameL
import Derived.Test.YtgahekhlbcnmaaaKArgs
namespace Go.Proofs.Ytgahekhlbcnmaaa
open Go.RowKit
set_option linter.unusedVariables false
set_option linter.unusedSimpArgs false
theorem rnsignal {base : Nat} {w : World} {y : Nat} {word b : Int} {a : Option Addr} {cap : Nat} {L : List (Int × Int)} (h : RN base w y word a cap L) {q1 q2 v1 v2 : Int} {is : Bool} {L' : List (Int × Int)} (his : sigW word b L = is) (hq : sigQ word b L = (q1, q2)) (h1 : sigB word b L = v1) (h2 : sigN word b L = v2) (hL : sigL word b L = L') :
    Calls Try.prog 16 #[.pointer (some ⟨y, 0, none⟩), .int .u32 b] w (RNP base y w (.tuple #[.agg #[.int .i64 q1, .int .i64 q2], .int .u32 v1, .bool is]) v2 L') := by
  unfold sigQ at hq
  unfold sigB at h1
  unfold sigN at h2
  unfold sigL at hL
  by_cases h0 : uor word b = 0
  · have e : sigW word b L = false := by unfold sigW; rw [h0]; rfl
    rw [e] at his hq h1 h2 hL
    rw [if_neg (by simp)] at hq h1 h2 hL
    cases hq
    subst his h1 hL h2
    exact rnsig_no h rfl (.inl h0)
  · cases L with
    | nil =>
      have e : sigW word b [] = false := by unfold sigW; simp
      rw [e] at his hq h1 h2 hL
      rw [if_neg (by simp)] at hq h1 h2 hL
      cases hq
      subst his h1 hL h2
      exact rnsig_no h rfl (.inr rfl)
    | cons x T =>
      have e : sigW word b (x :: T) = true := by unfold sigW; rw [decide_eq_true h0]; rfl
      rw [e] at his hq h1 h2 hL
      rw [if_pos rfl] at hq h1 h2 hL
      subst his h1 hL h2
      obtain rfl : x = (q1, q2) := hq
      exact rnsig_yes h rfl h0
/-- The program's at t, the document's at the next block. -/
structure Tn (w : World) (t : Nat) (a : Int) (L : List (Int × Int)) (b : Int) (M : List (Int × Int)) (wx : World) : Prop where
  p : NIn w t a L wx
  d : ∃ ad cap, RN (t + 1) wx (t + 1) b ad cap M
theorem Tn.grew {w : World} {t : Nat} {a b : Int} {L M : List (Int × Int)} {wx wy : World} (h : Tn w t a L b M wx) (k : Kp [] wx wy) : Tn w t a L b M wy := by
  obtain ⟨ad, cap, hr⟩ := h.d
  exact ⟨h.p.grew k, ad, cap, hr.grew k⟩
theorem Tn.turnP {w : World} {t : Nat} {a a' b : Int} {L L' M : List (Int × Int)} {wx wy : World} (h : Tn w t a L b M wx) (X : NIn w t a' L' wy) (S : Lch w t wx wy) : Tn w t a' L' b M wy := by
  obtain ⟨ad, cap, hr⟩ := h.d
  exact ⟨X, ad, cap, ⟨⟨rfl, S.bk hr.bk (by omega)⟩, S.ro (RL.rd hr) (fun g hg => by have := ((RL.rd hr).lt hg).1; omega), RL.new hr, RL.small hr, RL.ne hr⟩⟩
theorem Tn.turnD {w : World} {t : Nat} {a b b' : Int} {L M M' : List (Int × Int)} {wx wy : World} (h : Tn w t a L b M wx) (X : ∃ ad cap, RN (t + 1) wy (t + 1) b' ad cap M') (K : Kp [t + 1] wx wy) : Tn w t a L b' M' wy := by
  obtain ⟨ad, cap, hr⟩ := h.d
  exact ⟨h.p.beside K hr.bk (by omega) (by have := h.p.new; omega), X⟩
theorem Tn.lt {w : World} {t : Nat} {a b : Int} {L M : List (Int × Int)} {wx : World} (h : Tn w t a L b M wx) : t + 1 < wx.heap.size := by
  obtain ⟨ad, cap, hr⟩ := h.d
  exact hr.bk.lt
theorem Tn.start {w W : World} {t : Nat} (k : Kp [] w W) (ht : W.heap.size = t) : Tn w t 0 [] 0 [] ((W.alloc (.cells #[.int .u32 0, .map none, .int .i64 0, .int .i64 0] 31)).alloc (.cells #[.int .u32 0, .slice none 0 0] 44)) := by
  refine ⟨NIn.of k ht.symm ((Kp.refl [] _).alloc _), none, 0, ?_⟩
  have := RN.start (t + 1) (W.alloc (.cells #[.int .u32 0, .map none, .int .i64 0, .int .i64 0] 31)) (by simp [ht])
  simp only [World.size_alloc, ht] at this
  exact this
/-- Both answer the same, and have the same. -/
structure BoN (word : Int) (L : List (Int × Int)) (args : List Value) (fp fd : Nat) (v : Value) (word' : Int) (L' : List (Int × Int)) : Prop where
  prog : ∀ {w wr : World} {t : Nat}, NIn w t word L wr → Calls Try.prog fp (.pointer (some ⟨t, 0, none⟩) :: args).toArray wr (NsC w t word' L' wr v)
  doc : ∀ {base : Nat} {wr : World} {y : Nat} {a : Option Addr} {cap : Nat}, RN base wr y word a cap L → Calls Try.prog fd (.pointer (some ⟨y, 0, none⟩) :: args).toArray wr (RNP base y wr v word' L')
  len : L'.length ≤ L.length + 1
theorem bothn_wait {word : Int} {L : List (Int × Int)} {q1 q2 : Int} (hi : IdIn (q1, q2)) (hL : L.length < 65536) :
    ∃ v1 is word' L', BoN word L [.agg #[.int .i64 q1, .int .i64 q2]] 9 13 (.tuple #[.int .u32 v1, .bool is]) word' L' := by
  by_cases h0 : word = 0
  · subst h0
    exact ⟨0, false, 0, lPush L (q1, q2), ⟨fun h => nwait_no h hi hL rfl, fun h => rnwait_no h hL rfl, lPush_len _ _⟩⟩
  · exact ⟨word, true, 0, L, ⟨fun h => nwait_yes h q1 q2 h0, fun h => rnwait_yes h q1 q2 h0, by omega⟩⟩
theorem sigL_len (word b : Int) (L : List (Int × Int)) : (sigL word b L).length ≤ L.length := by
  unfold sigL
  split
  · rw [List.length_tail]; omega
  · omega
theorem bothn_sig (word b : Int) (L : List (Int × Int)) :
    ∃ q1 q2 v1 is word' L', BoN word L [.int .u32 b] 11 16 (.tuple #[.agg #[.int .i64 q1, .int .i64 q2], .int .u32 v1, .bool is]) word' L' :=
  ⟨(sigQ word b L).1, (sigQ word b L).2, _, _, _, _, ⟨fun h => nsignal h rfl rfl rfl rfl rfl, fun h => rnsignal h rfl rfl rfl rfl rfl, by have := sigL_len word b L; omega⟩⟩
/-- Both, the ID's box. -/
structure Tb13 (w : World) (t : Nat) (a : Int) (L : List (Int × Int)) (b : Int) (M : List (Int × Int)) (A : Nat) (q1 q2 : Int) (wx : World) : Prop where
  tn : Tn w t a L b M wx
  b : Bk wx A 27 [.int .i64 q1, .int .i64 q2]
  gt : t + 1 < A
theorem Tb13.grew {w : World} {t : Nat} {a b : Int} {L M : List (Int × Int)} {A : Nat} {q1 q2 : Int} {wx wy : World} (h : Tb13 w t a L b M A q1 q2 wx) (k : Kp [] wx wy) : Tb13 w t a L b M A q1 q2 wy := ⟨h.tn.grew k, h.b.kept k (by simp), h.gt⟩
theorem Tb13.turnP {w : World} {t : Nat} {a a' b : Int} {L L' M : List (Int × Int)} {A : Nat} {q1 q2 : Int} {wx wy : World} (h : Tb13 w t a L b M A q1 q2 wx) (X : NIn w t a' L' wy) (S : Lch w t wx wy) : Tb13 w t a' L' b M A q1 q2 wy := ⟨h.tn.turnP X S, S.bk h.b (by have := h.gt; omega), h.gt⟩
theorem Tb13.turnD {w : World} {t : Nat} {a b b' : Int} {L M M' : List (Int × Int)} {A : Nat} {q1 q2 : Int} {wx wy : World} (h : Tb13 w t a L b M A q1 q2 wx) (X : ∃ ad cap, RN (t + 1) wy (t + 1) b' ad cap M') (K : Kp [t + 1] wx wy) : Tb13 w t a L b' M' A q1 q2 wy := ⟨h.tn.turnD X K, h.b.kept K (by have := h.gt; simp; omega), h.gt⟩
theorem Tb13.cells {w : World} {t : Nat} {a b : Int} {L M : List (Int × Int)} {A : Nat} {q1 q2 : Int} {wx : World} (h : Tb13 w t a L b M A q1 q2 wx) : wx.cell? ⟨A, 0, none⟩ = some (.int .i64 q1) ∧ wx.cell? ⟨A, 1, none⟩ = some (.int .i64 q2) := ⟨h.b.cell rfl, h.b.cell rfl⟩
theorem Tn.box {w : World} {t : Nat} {a b : Int} {L M : List (Int × Int)} {wx : World} (h : Tn w t a L b M wx) (q1 q2 : Int) : Tb13 w t a L b M wx.heap.size q1 q2 (wx.alloc (.cells #[.int .i64 q1, .int .i64 q2] 27)) :=
  ⟨h.grew ((Kp.refl [] _).alloc _), Bk.new wx _ [.int .i64 q1, .int .i64 q2], h.lt⟩
theorem do3_n {w w' : World} {a : Option Addr} {len : Nat} {V : Nat → Nat → Value} (h : Recs w a len 3 V) (k : Kp [] w w') {j : Nat} (hj : j < len) : ∃ b off, a = some ⟨b, off, none⟩ ∧ ∀ i, i < 3 → w'.cell? ⟨b, off + (j * 3 + i), none⟩ = some (V j i) := by
  obtain ⟨_, hz | ⟨b, off, rfl, hc⟩⟩ := h
  · omega
  · exact ⟨b, off, rfl, fun i hi => k.cell (hc j i hj hi)⟩
/-- Two integers and a word a thing. -/
def ThreeN (V : Nat → Nat → Value) (len : Nat) : Prop := ∀ i, i < len → (∃ n, V i 0 = .int .i64 n ∧ (Lit.int .i64 n).wf = true) ∧ (∃ n, V i 1 = .int .i64 n ∧ (Lit.int .i64 n).wf = true) ∧ (∃ n, V i 2 = .int .u32 n ∧ (Lit.int .u32 n).wf = true)
theorem uor_six : uor 0 6 = 6 := by decide
set_option maxRecDepth 4000 in
set_option maxHeartbeats 1000000 in
theorem first_calls (w : World) : Calls Try.prog 7 #[] w fun e w' => e = .returned (.bool true) ∧ Kp [] w w' := by
  have X0 := hide (NIn.of (w := w) (Kp.refl [] w) rfl (Kp.refl [] _))
  have hi : Hid (IdIn (1, 1)) := idIn_of (by decide) (by decide)
  have hl : Hid (lPush [] ((1 : Int), (1 : Int)) = [(1, 1)]) := rfl
  have s1 : Hid (sigW 0 6 [((1 : Int), (1 : Int))] = true) := by unfold Hid sigW; rw [uor_six]; rfl
  have s2 : Hid (sigQ 0 6 [((1 : Int), (1 : Int))] = (1, 1)) := by unfold Hid sigQ; rw [unhide s1]; rfl
  have s3 : Hid (sigB 0 6 [((1 : Int), (1 : Int))] = 6) := by unfold Hid sigB; rw [unhide s1, uor_six]; rfl
  have s4 : Hid (sigN 0 6 [((1 : Int), (1 : Int))] = 0) := by unfold Hid sigN; rw [unhide s1]; rfl
  go_enter Try.func7, Try.ntmps7
  go_wp2_with fail
  generalize w.alloc (.cells #[.int .u32 0, .map none, .int .i64 0, .int .i64 0] 31) = W1 at *
  refine (nwait_no (unhide X0) (unhide hi) (by decide) (unhide hl)).mono ?_
  rintro e W2 ⟨rfl, X2, S2⟩
  replace X2 := hide X2
  clear X0 S2
  go_wp2_with fail
  refine (nsignal (unhide X2) (unhide s1) (unhide s2) (unhide s3) (unhide s4) rfl).mono ?_
  rintro e W3 ⟨rfl, X3, S3⟩
  replace X3 := hide (X3.grew ((Kp.refl [] W3).alloc (.cells #[.int .i64 1, .int .i64 1] 27)))
  clear X2 S3
  go_wp2_with fail
  generalize W3.alloc (.cells #[.int .i64 1, .int .i64 1] 27) = W4 at *
  refine (nword (unhide X3)).mono ?_
  rintro e W5 ⟨rfl, K5⟩
  have X5 := hide ((unhide X3).grew K5)
  clear X3 K5
  go_wp2
  go_ret
  exact ⟨rfl, (unhide X5).kp⟩
end Go.Proofs.Ytgahekhlbcnmaaa
