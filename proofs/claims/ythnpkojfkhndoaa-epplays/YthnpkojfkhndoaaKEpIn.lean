/- The program's endpoint: Drop, Senders, Receivers. -/
import Derived.Test.YthnpkojfkhndoaaKEpL6
import Derived.Test.YthnpkojfkhndoaaKEpL7
import Derived.Test.YthnpkojfkhndoaaKEpL4
namespace Go.Proofs.Ythnpkojfkhndoaa
open Go.RowKit
set_option linter.unusedVariables false
set_option linter.unusedSimpArgs false
theorem ln_whole {α : Type} {T : TypeId} {sz : Nat} {E : Gr.Enc α T sz} {base : Nat} {w : World} {v : Value} {L : List α} (h : Gr.Rw E base w v L) : Ln E base w v 0 L := by
  refine ⟨L, h, rfl, ?_⟩
  cases L with
  | nil => exact .inr ⟨rfl, rfl⟩
  | cons x L => exact .inl (by simp)
set_option maxRecDepth 8000 in
set_option maxHeartbeats 4000000 in
theorem edrop {w wr : World} {t : Nat} {S S' : List Ms} {R R' : List Rc} {F : List Nat} (h : EIn w t S R F wr) {q1 q2 : Int} {is : Bool} (hi : IdW q1 q2) (hS' : S.filter (msN (q1, q2)) = S') (hR' : R.filter (rcN (q1, q2)) = R') (his : (decide (S'.length < S.length) || decide (R'.length < R.length)) = is) :
    Calls Try.prog 10 #[.pointer (some ⟨t, 0, none⟩), .agg #[.int .i64 q1, .int .i64 q2]] wr (EC w t S' R' F wr (.bool is)) := by
  obtain ⟨kp, ⟨va, ka, vb, kb, rfl, hB, hS, hR, hbt⟩, hs1, hs2, hone⟩ := h
  have hbw := kp.size
  obtain ⟨C, hr, hd, hh⟩ := hS
  have hR0 := hR
  obtain ⟨D, hr2, hd2, hh2⟩ := hR0
  obtain ⟨hl1, hl2⟩ := ln_small hd hh hs1
  obtain ⟨hl3, hl4⟩ := ln_small hd2 hh2 hs2
  have hlS : S'.length ≤ S.length := by rw [← hS']; exact List.length_filter_le _ _
  have hlR : R'.length ≤ R.length := by rw [← hR']; exact List.length_filter_le _ _
  have hone' : Hid (S' = [] ∨ R' = []) := by
    rcases hone with e | e
    · exact .inl (by rw [← hS', e]; rfl)
    · exact .inr (by rw [← hR', e]; rfl)
  have K0 := (Kp.refl [] wr).alloc (.cells #[.int .i64 q1, .int .i64 q2] 39)
  have Q0 := Bk.new wr 39 [.int .i64 q1, .int .i64 q2]
  obtain ⟨is1, his1⟩ : ∃ b, decide (S'.length < S.length) = b := ⟨_, rfl⟩
  have hM := mdrop (hB.kept K0 (by simp)) (hr.grew K0) hl2 hd (by omega) Q0 hS' his1
  have hM2 : Hid (Calls Try.prog 19 #[.pointer (some ⟨t, 0, none⟩), .func (.func 20) #[] #[.pointer (some ⟨wr.heap.size, 0, none⟩)]] (wr.alloc (.cells #[.int .i64 q1, .int .i64 q2] 39)) (fun e W1 => e = .returned (.bool is1) ∧ ∃ v', Bk W1 t 31 [v', .int .i64 ((0 : Nat) : Int), vb, .int .i64 (kb : Int)] ∧ Gr.Rw (msE 47) w.heap.size W1 v' S' ∧ Gr.Rw (rcE 42) w.heap.size W1 vb D ∧ Bk W1 wr.heap.size 39 [.int .i64 q1, .int .i64 q2] ∧ Kp [t] wr W1 ∧ wr.heap.size < W1.heap.size ∧ ∀ q, v'.ownBlock = some q → wr.heap.size ≤ q)) := by
    refine hM.mono ?_
    rintro e W1 ⟨rfl, v', hB1, hr1, K1⟩
    have hlt := hB.lt
    have hsz := K1.size
    have hsa : (wr.alloc (.cells #[.int .i64 q1, .int .i64 q2] 39)).heap.size = wr.heap.size + 1 := by simp
    exact ⟨rfl, v', hB1, hr1.mono (by omega), (hr2.grew K0).kept K1 (fun g hg m => ne_of_row hr2 hB (by decide) (by rw [hg, List.mem_singleton.1 m])), Q0.kept K1 (by simp; omega), (K0.mono (by simp)).then K1, by omega, fun q hq => by have := (hr1.lt hq).1; omega⟩
  replace hB := hide hB
  replace hr := hide hr
  replace hr2 := hide hr2
  replace kp := hide kp
  replace hR := hide hR
  clear hM K0 Q0
  go_enter Try.func10, Try.ntmps10
  go_wp2_with fail
  refine (unhide hM2).mono ?_
  rintro e W1 ⟨rfl, v', hB1, hr1, hr21, Q1, K1, hsz1, hn1⟩
  cases is1 with
  | true =>
    have hR0 : R = [] := by
      rcases hone with e | e
      · rw [e] at his1; simp at his1
      · exact e
    subst hR0
    have hR0 : R' = [] := by rw [← hR']; rfl
    subst hR0
    obtain rfl : true = is := by rw [← his, his1]; rfl
    have hfin : Hid (EC w t S' [] (va.ownBlock.toList ++ vb.ownBlock.toList) wr (.bool true) (.returned (.bool true)) W1) := by
      obtain ⟨F', hF, kF, hFn⟩ := PE.putS (unhide hB) (unhide hR) hbt K1 (fun g m => .inl (List.mem_singleton.1 m)) (unhide hr) hB1 (ln_whole hr1) (fun q hq => .inr (hn1 q hq))
      exact ⟨rfl, F', ⟨(unhide kp).trans kF (by simp) (fun i m => .inr (by rcases List.mem_cons.1 m with e | e; rw [e]; exact hbt; rcases List.mem_append.1 e with e | e; exact ((unhide hr).lt (Option.mem_toList.1 e)).1; exact ((unhide hr2).lt (Option.mem_toList.1 e)).1)), hF, by omega, by omega, unhide hone'⟩, kF, hFn⟩
    replace hfin := hide hfin
    clear hM2 hB1 hr1 hr21 Q1 K1 hn1
    go_wp2
    go_ret
    exact unhide (unhide hfin)
  | false =>
    obtain ⟨is2, his2⟩ : ∃ b, decide (R'.length < R.length) = b := ⟨_, rfl⟩
    obtain rfl : is2 = is := by rw [← his, his1, his2]; rfl
    have hM3 := hide (rdrop hB1 hr21 hl4 hd2 (by omega) Q1 hR' his2)
    replace hB1 := hide hB1
    replace hr1 := hide hr1
    replace K1 := hide K1
    replace hn1 := hide hn1
    clear hM2 hr21 Q1
    go_wp2_with fail
    refine (unhide hM3).mono ?_
    rintro e W2 ⟨rfl, v2, hB2, hr3, K2⟩
    have hfin : Hid (EC w t S' R' (va.ownBlock.toList ++ vb.ownBlock.toList) wr (.bool is2) (.returned (.bool is2)) W2) := by
      have hr12 := (unhide hr1).kept K2 (fun g hg m => ne_of_row (unhide hr1) (unhide hB1) (by decide) (by rw [hg, List.mem_singleton.1 m]))
      have KA := (unhide K1).then K2
      refine ⟨rfl, v'.ownBlock.toList ++ v2.ownBlock.toList, ⟨?_, ⟨v', 0, v2, 0, rfl, hB2, ln_whole hr12, ln_whole (hr3.mono (by omega)), hbt⟩, by omega, by omega, unhide hone'⟩, KA.mono (by simp), fun g m => .inr ?_⟩
      · exact (unhide kp).trans KA (by simp) (fun i m => .inr (by rw [List.mem_singleton.1 m]; exact hbt))
      · rcases List.mem_append.1 m with e | e
        · exact unhide hn1 _ (Option.mem_toList.1 e)
        · have := (hr3.lt (Option.mem_toList.1 e)).1; omega
    replace hfin := hide hfin
    clear hM3 hB1 hr1 K1 hn1 hB2 hr3 K2
    go_wp2
    go_ret
    exact unhide (unhide hfin)
/-- A row handed out. -/
def RowOut {α : Type} {T : TypeId} {sz : Nat} (E : Gr.Enc α T sz) (wr : World) (L : List α) (e : Ending) (w' : World) : Prop := ∃ v, e = .returned v ∧ Gr.Ro E wr.heap.size w' v L ∧ Kp [] wr w'
set_option maxHeartbeats 1000000 in
theorem esenders {w wr : World} {t : Nat} {S : List Ms} {R : List Rc} {F : List Nat} (h : EIn w t S R F wr) :
    Calls Try.prog 15 #[.pointer (some ⟨t, 0, none⟩)] wr (RowOut (msE 47) wr S) := by
  obtain ⟨kp, ⟨va, ka, vb, kb, rfl, hB, ⟨C, hr, hd, hh⟩, hR, hbt⟩, hs1, hs2, hone⟩ := h
  obtain ⟨hl1, hl2⟩ := ln_small hd hh hs1
  have hW := mwaits hB hr hl2 (by omega)
  rw [hd] at hW
  replace hW := hide hW
  clear hB hr hR hd hh kp
  go_enter Try.func15, Try.ntmps15
  go_wp2_with fail
  refine (unhide hW).mono ?_
  rintro e W1 ⟨v, rfl, hr1, K1⟩
  replace hr1 := hide hr1
  replace K1 := hide K1
  go_wp2
  go_ret
  exact ⟨_, rfl, (unhide hr1).ro, unhide K1⟩
set_option maxHeartbeats 1000000 in
theorem ereceivers {w wr : World} {t : Nat} {S : List Ms} {R : List Rc} {F : List Nat} (h : EIn w t S R F wr) :
    Calls Try.prog 16 #[.pointer (some ⟨t, 0, none⟩)] wr (RowOut (rcE 42) wr R) := by
  obtain ⟨kp, ⟨va, ka, vb, kb, rfl, hB, hS, ⟨C, hr, hd, hh⟩, hbt⟩, hs1, hs2, hone⟩ := h
  obtain ⟨hl1, hl2⟩ := ln_small hd hh hs2
  have hW := rwaits hB hr hl2 (by omega)
  rw [hd] at hW
  replace hW := hide hW
  clear hB hr hS hd hh kp
  go_enter Try.func16, Try.ntmps16
  go_wp2_with fail
  refine (unhide hW).mono ?_
  rintro e W1 ⟨v, rfl, hr1, K1⟩
  replace hr1 := hide hr1
  replace K1 := hide K1
  go_wp2
  go_ret
  exact ⟨_, rfl, (unhide hr1).ro, unhide K1⟩
end Go.Proofs.Ythnpkojfkhndoaa
