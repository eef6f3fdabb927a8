/- The document's notification (ringkernref10.Notif): its word, those that wait (a list within the struct): Signal, Wait. -/
import Derived.Test.YtgahekhlbcnmaaaKRLst3
import Derived.Test.YtgahekhlbcnmaaaKLsIn
namespace Go.Proofs.Ytgahekhlbcnmaaa
open Go.RowKit
set_option linter.unusedVariables false
set_option linter.unusedSimpArgs false
/-- Words put together. -/
def uor (a b : Int) : Int := bits .or .u32 a b
theorem uor_def (a b : Int) : bits .or .u32 a b = uor a b := rfl
/-- The document's notification at block y. -/
def RN (base : Nat) (w : World) (y : Nat) (word : Int) (a : Option Addr) (cap : Nat) (L : List (Int × Int)) : Prop := RL base w y 1 44 [.int .u32 word] [] a cap L
theorem RN.bk {base : Nat} {w : World} {y : Nat} {word : Int} {a : Option Addr} {cap : Nat} {L : List (Int × Int)} (h : RN base w y word a cap L) : Bk w y 44 [.int .u32 word, .slice a L.length cap] := RL.head h |>.bk
theorem RN.grew {base : Nat} {w w' : World} {y : Nat} {word : Int} {a : Option Addr} {cap : Nat} {L : List (Int × Int)} (h : RN base w y word a cap L) (k : Kp [] w w') : RN base w' y word a cap L := RL.grew h k
theorem RN.kept {base : Nat} {w w' : World} {y : Nat} {word : Int} {a : Option Addr} {cap : Nat} {L : List (Int × Int)} {S : List Nat} (h : RN base w y word a cap L) (k : Kp S w w') (hy : y ∉ S) (ha : ∀ g, (Value.slice a L.length cap).ownBlock = some g → g ∉ S) : RN base w' y word a cap L := RL.kept h k hy ha
/-- Another word. -/
theorem RN.word {base : Nat} {w : World} {y : Nat} {a : Option Addr} {cap : Nat} {L : List (Int × Int)} {word : Int} (h : RN base w y word a cap L) (v : Int) : RN base (w.setCell ⟨y, 0, none⟩ (.int .u32 v)) y v a cap L := by
  have hb := h.bk
  refine ⟨⟨rfl, hb.set 0 (.int .u32 v)⟩, Gr.Ro.kept (RL.rd h) ((Kp.refl [y] w).setCell (.inl (by simp)) _) (fun g hg m => ?_), RL.new h, RL.small h, RL.ne h⟩
  obtain ⟨_, cs, hc⟩ := (RL.rd h).lt hg
  rw [List.mem_singleton.1 m] at hc
  unfold Bk at hb
  rw [hb] at hc
  simp at hc
theorem RN.start (base : Nat) (w : World) (hb : base ≤ w.heap.size) : RN base (w.alloc (.cells #[.int .u32 0, .slice none 0 0] 44)) w.heap.size 0 none 0 [] :=
  ⟨⟨rfl, Bk.new w _ [.int .u32 0, .slice none 0 0]⟩, .nil _ _, hb, by simp, by decide⟩
/-- What a change of the document's notification leaves. -/
def RNP (base y : Nat) (w : World) (v : Value) (word : Int) (L : List (Int × Int)) (e : Ending) (w' : World) : Prop := e = .returned v ∧ (∃ a cap, RN base w' y word a cap L) ∧ Kp [y] w w'
theorem wz_no {word : Int} (h : word ≠ 0) : (word == 0) = false := beq_eq_false_iff_ne.2 h
set_option maxRecDepth 4000 in
set_option maxHeartbeats 1000000 in
theorem rnwait_yes {base : Nat} {w : World} {y : Nat} {word : Int} {a : Option Addr} {cap : Nat} {L : List (Int × Int)} (h : RN base w y word a cap L) (q1 q2 : Int) (hw : word ≠ 0) :
    Calls Try.prog 13 #[.pointer (some ⟨y, 0, none⟩), .agg #[.int .i64 q1, .int .i64 q2]] w (RNP base y w (.tuple #[.int .u32 word, .bool true]) 0 L) := by
  have b0 := wz_no hw
  have K0 := (Kp.refl [] w).alloc (.cells #[.int .i64 q1, .int .i64 q2] 27)
  have H := h.grew K0
  have c0 := H.bk.cell (i := 0) rfl
  have f0 := H.bk.frozen
  have X := hide (H.word 0)
  have K1 := hide ((K0.mono (S' := [y]) (by simp)).setCell (p := ⟨y, 0, none⟩) (.inl (by simp)) (.int .u32 0))
  clear h H K0 hw
  go_enter Try.func13, Try.ntmps13
  go_wp2
  exact bodyPost_ret (v := .tuple #[.int .u32 word, .bool true]) (by simp [results, Try.results13, go_sem, *]) rfl ⟨rfl, ⟨a, cap, unhide X⟩, unhide K1⟩
/-- The document's Push, by what comes out. -/
theorem rlpush {base : Nat} {w : World} {y o : Nat} {U : TypeId} {pre post : List Value} {a : Option Addr} {cap : Nat} {L L' : List (Int × Int)} (h : RL base w y o U pre post a cap L) {q1 q2 : Int} {is : Bool} (hL : L.length < 65536) (hIs : (!lHas L (q1, q2)) = is) (e : lPush L (q1, q2) = L') :
    Calls Try.prog 22 #[.pointer (some ⟨y, o, none⟩), .agg #[.int .i64 q1, .int .i64 q2]] w (RLP base y o U pre post w (.bool is) L') := by
  subst e hIs
  by_cases hq : (q1, q2) ∈ L
  · rw [lHas_yes hq, lPush_no hq]
    refine (rlpush_no h hq).mono ?_
    rintro e w' ⟨rfl, K⟩
    exact .same h K
  · rw [lHas_no hq, lPush_yes hq]
    exact rlpush_yes h hq hL
theorem rldrop {base : Nat} {w : World} {y o : Nat} {U : TypeId} {pre post : List Value} {a : Option Addr} {cap : Nat} {L L' : List (Int × Int)} (h : RL base w y o U pre post a cap L) (hnd : L.Nodup) {q1 q2 : Int} {is : Bool} (hIs : lHas L (q1, q2) = is) (e : lDel L (q1, q2) = L') :
    Calls Try.prog 15 #[.pointer (some ⟨y, o, none⟩), .agg #[.int .i64 q1, .int .i64 q2]] w (RLP base y o U pre post w (.bool is) L') := by
  subst e hIs
  by_cases hq : (q1, q2) ∈ L
  · rw [lHas_yes hq]
    exact rldrop_yes h hnd hq
  · rw [lHas_no hq, lDel_same hq]
    refine (rldrop_no h hq).mono ?_
    rintro e w' ⟨rfl, K⟩
    exact .same h K
set_option maxRecDepth 4000 in
set_option maxHeartbeats 2000000 in
theorem rnwait_no {base : Nat} {w : World} {y : Nat} {a : Option Addr} {cap : Nat} {L L' : List (Int × Int)} (h : RN base w y 0 a cap L) {q1 q2 : Int} (hL : L.length < 65536) (e : lPush L (q1, q2) = L') :
    Calls Try.prog 13 #[.pointer (some ⟨y, 0, none⟩), .agg #[.int .i64 q1, .int .i64 q2]] w (RNP base y w (.tuple #[.int .u32 0, .bool false]) 0 L') := by
  subst e
  obtain ⟨is, his⟩ : ∃ v, (!lHas L (q1, q2)) = v := ⟨_, rfl⟩
  replace his := hide his
  have K0 := hide ((Kp.refl [] w).alloc (.cells #[.int .i64 q1, .int .i64 q2] 27))
  have H := hide (h.grew (unhide K0))
  have B := hide (Bk.new w 27 [.int .i64 q1, .int .i64 q2])
  have c0 := (unhide H).bk.cell (i := 0) rfl
  replace hL := hide hL
  clear h
  go_enter Try.func13, Try.ntmps13
  go_wp2_with fail
  generalize w.alloc (.cells #[.int .i64 q1, .int .i64 q2] 27) = w1 at *
  have K1 := hide ((Kp.refl [] w1).drew)
  have hS : Hid (∀ w', Kp [y] w1 w' → w'.cell? ⟨w.heap.size, 0, none⟩ = some (.int .i64 q1) ∧ w'.cell? ⟨w.heap.size, 1, none⟩ = some (.int .i64 q2)) := fun w' k => by
    have hy := (unhide H).bk.lt
    have hne : w.heap.size ≠ y := fun e => by
      have h1 := (unhide B)
      have h2 := (unhide H).bk
      rw [e] at h1
      exact absurd rfl (h1.apart h2 (by decide))
    have b := (unhide B).kept k (by simp; exact hne)
    exact ⟨b.cell rfl, b.cell rfl⟩
  have K1' := hide ((Kp.refl [y] w1).drew)
  clear c0
  go_region_held3 (fun w' => w'.cell? ⟨w.heap.size, 0, none⟩ = some (.int .i64 q1) ∧ w'.cell? ⟨w.heap.size, 1, none⟩ = some (.int .i64 q2)) (first | with_reducible exact unhide hS _ (unhide K2) | with_reducible exact unhide hS _ (unhide K1')) (first
    | (go_at_call 22; refine (rlpush (RN.grew (unhide H) (unhide K1)) (unhide hL) (unhide his) rfl).mono ?_; rintro e W2 ⟨rfl, X2, k2⟩; have K2 := hide ((unhide K1').then k2); have Y2 := hide X2; clear X2 k2))
  all_goals
    go_wp2
    exact bodyPost_ret (v := .tuple #[.int .u32 0, .bool false]) (by simp [results, Try.results13, go_sem, *]) rfl ⟨rfl, unhide Y2, ((unhide K0).mono (by simp)).then (unhide K2)⟩
end Go.Proofs.Ytgahekhlbcnmaaa
