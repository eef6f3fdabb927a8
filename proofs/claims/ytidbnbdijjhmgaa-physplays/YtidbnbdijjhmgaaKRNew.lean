/- The document's own memory, made. -/
import Derived.Test.YtidbnbdijjhmgaaKRMem
import Derived.Deep.RegionLaw
namespace Go.Proofs.Ytidbnbdijjhmgaa
open Go.RowKit
set_option linter.unusedVariables false
/-- A memory in the making: k units are there. -/
structure Bld (w wr : World) (q k : Nat) (L : List Nat) (v : Value) : Prop where
  head : Bk wr q 31 [v]
  own : wr.ownsRow w.heap.size 35 1 v k (heads L)
  form : ∃ a c, v = .slice a k c
  count : L.length = k
  each : ∀ i, i < k → Bk wr (L.getD i 0) 5 (vals (List.replicate 512 0))
  apart : ∀ i j, i < k → j < k → L.getD i 0 = L.getD j 0 → i = j
  notq : v.ownBlock ≠ some q
  kp : Kp [] w wr
  fresh : ∀ g ∈ L, w.heap.size ≤ g
  hq : w.heap.size ≤ q
theorem getD_snoc (L : List Nat) (i g : Nat) (h : i ≤ L.length) : (L ++ [g]).getD i 0 = if i < L.length then L.getD i 0 else g := by
  rw [List.getD_eq_getElem?_getD, List.getD_eq_getElem?_getD]
  split
  · rename_i e; rw [List.getElem?_append_left e]
  · rename_i e
    have : i = L.length := by omega
    subst this
    simp
theorem Bld.notUnit {w wr : World} {q k : Nat} {L : List Nat} {v : Value} (b : Bld w wr q k L v) {B : Nat} {vs : List Value} (hb : Bk wr B 5 vs) : some B ≠ v.ownBlock := by
  rcases b.own.2 with ⟨rfl, _⟩ | ⟨g, cap, cur, rfl, _, hg, _⟩
  · simp [Value.ownBlock]
  · intro e
    have e : B = g := by simpa [Value.ownBlock] using e
    subst e
    exact (hb.apart (show Bk wr B 35 cur.toList from hg) (by decide)) rfl
set_option maxRecDepth 4000 in
theorem Bld.step {w wr wA w1 : World} {q k g cap : Nat} {L : List Nat} {v : Value} (b : Bld w wr q k L v) (KA : Kp [] wr wA) (hz : Bk wA wr.heap.size 5 (vals (List.replicate 512 0))) (hsz : wA.heap.size = wr.heap.size + 2)
    (hown : w1.ownsRow w.heap.size 35 1 (.slice (some ⟨g, 0, none⟩) (k + 1) cap) (k + 1) (heads L ++ [.slice (some ⟨wr.heap.size, 0, none⟩) 512 512])) (hgr : wA.grownBy w1 v.ownBlock) (hat : v.ownBlock = some g ∨ g = wr.heap.size + 2) :
    Bld w (w1.setCell ⟨q, 0, none⟩ (.slice (some ⟨g, 0, none⟩) (k + 1) cap)) q (k + 1) (L ++ [wr.heap.size]) (.slice (some ⟨g, 0, none⟩) (k + 1) cap) := by
  have hqlt := b.head.lt
  have hgq : g ≠ q := by
    rcases hat with h | h
    · intro e; subst e; exact b.notq h
    · omega
  have K0 := b.kp
  have KA' : Kp [] w wA := K0.then KA
  have K1 : Kp [] w w1 := ⟨hgr.os.trans KA'.os, hgr.tape.trans KA'.tape, hgr.output.trans KA'.output, Nat.le_trans KA'.size hgr.size, fun i hi hn =>
    (hgr.block i (Nat.lt_of_lt_of_le hi KA'.size) (fun e => by have := World.ownsRow.lt b.own i e.symm; omega)).trans (KA'.block i hi hn)⟩
  have old : ∀ {B : Nat} {T : TypeId} {vs : List Value}, Bk wA B T vs → some B ≠ v.ownBlock → B ≠ q → Bk (w1.setCell ⟨q, 0, none⟩ (.slice (some ⟨g, 0, none⟩) (k + 1) cap)) B T vs := fun {B T vs} hb hn hq => by
    have h1 : Bk w1 B T vs := (hgr.block B hb.lt hn).trans hb
    exact h1.kept ((Kp.refl [q] w1).setCell (p := ⟨q, 0, none⟩) (.inl (by simp)) _) (by simpa using hq)
  have hq1 : Bk w1 q 31 [v] := (hgr.block q (Nat.lt_of_lt_of_le hqlt KA.size) (fun e => b.notq e.symm)).trans (b.head.kept KA (by simp))
  refine ⟨hq1.set 0 _, ?_, ⟨_, _, rfl⟩, by simp [b.count], fun i hi => ?_, fun i j hi hj => ?_, by simpa [Value.ownBlock] using hgq, K1.setCell (.inr b.hq) _, fun x hx => by
    rcases List.mem_append.1 hx with hx | hx
    · exact b.fresh x hx
    · have := K0.size; simp at hx; omega, b.hq⟩
  · have e : heads (L ++ [wr.heap.size]) = heads L ++ [.slice (some ⟨wr.heap.size, 0, none⟩) 512 512] := by simp [heads]
    rw [e]
    refine World.ownsRow.kept (row := some q) hown ⟨rfl, rfl, rfl, by simp, fun j hj hn => Below.heap_setCell _ _ _ _ (by simpa using hn)⟩ (.inr (by simpa [Value.ownBlock] using hgq))
  · rw [getD_snoc _ _ _ (by rw [b.count]; omega), b.count]
    split
    · rename_i h
      have hb := b.each i h
      exact old (hb.kept KA (by simp)) (b.notUnit hb) (hb.apart b.head (by decide))
    · refine old hz ?_ (by omega)
      intro e
      have := (World.ownsRow.lt b.own _ e.symm).2
      omega
  · rw [getD_snoc _ _ _ (by rw [b.count]; omega), getD_snoc _ _ _ (by rw [b.count]; omega), b.count]
    have h1 : ∀ i, i < k → L.getD i 0 < wr.heap.size := fun i h => (b.each i h).lt
    split <;> split <;> intro e
    · exact b.apart i j (by assumption) (by assumption) e
    · rename_i h _; have := h1 i h; omega
    · rename_i _ h; have := h1 j h; omega
    · omega
theorem Bld.done {w wr : World} {q k : Nat} {L : List Nat} {v : Value} (b : Bld w wr q k L v) (h1 : 1 ≤ k) (h2 : k ≤ 64) : ∃ h c, RMem wr q h k c L (List.replicate (k * 512) 0) ∧ w.heap.size ≤ h := by
  rcases b.own.2 with ⟨_, h0⟩ | ⟨g, cap, cur, rfl, hge, hg, hc, _, hs, ht⟩
  · omega
  · refine ⟨g, cap, ⟨b.head, ⟨cur.toList.drop k, ?_⟩, b.count, fun i hi => ?_, b.apart, by simp, Small.zeros _, h1, h2⟩, hge⟩
    · rw [Nat.mul_one] at ht
      rw [← ht, List.take_append_drop]
      exact hg
    · have e : seg (List.replicate (k * 512) 0) (i * 512) 512 = List.replicate 512 0 := by
        unfold seg
        rw [List.drop_replicate, List.take_replicate]
        congr 1
        have : i * 512 + 512 ≤ k * 512 := by omega
        exact Nat.min_eq_left (by omega)
      rw [e]
      exact b.each i hi
theorem Try.info35' : (Try.prog.info? 35).map (fun i => (i.zero, i.size, i.bytes)) = some (some (.slice none 0 0), 1, 24) := by kernel_rfl
/-- What NewMem hands out. -/
def RNewP (w : World) (n : Nat) (e : Ending) (w' : World) : Prop :=
  ∃ q h c L, e = .returned (.pointer (some ⟨q, 0, none⟩)) ∧ RMem w' q h n c L (List.replicate (n * 512) 0) ∧ w.heap.size ≤ q ∧ w.heap.size ≤ h ∧ (∀ g ∈ L, w.heap.size ≤ g) ∧ Kp [] w w'
theorem ownsRow_none (w : World) (base : Nat) (e : TypeId) (s : Nat) : w.ownsRow base e s (.slice none 0 0) 0 (heads []) := ⟨by simp [heads], .inl ⟨rfl, rfl⟩⟩
set_option maxRecDepth 4000 in
set_option maxHeartbeats 2000000 in
theorem rnew_low (w : World) (u : Int) (N : Nat) (h1 : u < 1) (hN : (1 : Int) = (N : Int)) (n1 : 1 ≤ N) (n2 : N ≤ 64) : Calls Try.prog 9 #[.int .i64 u] w (RNewP w N) := by
  obtain ⟨i0, hi, hz0, hz1, hz2⟩ := info_parts Try.info35'
  obtain ⟨C, hC, hmk⟩ := make_bytes 512 512 (by rfl) (by omega)
  have HC := hide hC
  replace hN := hide hN
  clear hC
  go_enter Try.func9, Try.ntmps9
  go_wp2
  go_loopw [4] (fun i wr => ∃ (k : Nat) (L : List Nat) (v : Value), k ≤ N ∧ i = .int .i64 k ∧ Bld w wr w.heap.size k L v) (fun i _ => N - (intOf i).toNat)
  case atStart => exact ⟨0, [], .slice none 0 0, Nat.zero_le _, rfl, ⟨Bk.newA _ _ _, ownsRow_none _ _ _ _, ⟨_, _, rfl⟩, rfl, fun i hi => by omega, fun i j hi => by omega, by simp [Value.ownBlock], (Kp.refl _ _).alloc _, by simp, Nat.le_refl _⟩⟩
  case round =>
    obtain ⟨k, L, v, hk, rfl, hb⟩ := hrel
    by_cases hlt : k < N
    · have t : (k : Int) < 1 := by have := unhide hN; omega
      obtain ⟨a, c, rfl⟩ := hb.form
      have hB := hide hb
      have hown := hide hb.own
      have hc : wr.cell? ⟨w.heap.size, 0, none⟩ = some (.slice a k c) := hb.head.cell rfl
      have hf : wr.frozen? ⟨w.heap.size, 0, none⟩ = false := hb.head.frozen 0
      have hl : w.heap.size < wr.heap.size := hb.head.lt
      have hnq := hide hb.notq
      have hcA := hide (show ((wr.alloc (.cells C 5)).alloc (.cells #[.slice (some ⟨wr.heap.size, 0, none⟩) 512 512] 35)).cell? ⟨w.heap.size, 0, none⟩ = some (.slice a k c) from ((hb.head.alloc _).alloc _).cell rfl)
      have hfA := hide (show ((wr.alloc (.cells C 5)).alloc (.cells #[.slice (some ⟨wr.heap.size, 0, none⟩) 512 512] 35)).frozen? ⟨w.heap.size, 0, none⟩ = false from ((hb.head.alloc _).alloc _).frozen 0)
      have hsA : (wr.alloc (.cells C 5)).heap.size = wr.heap.size + 1 := by simp
      have hnA := heap_alloc_new (wr.alloc (.cells C 5)) (.cells #[.slice (some ⟨wr.heap.size, 0, none⟩) 512 512] 35)
      rw [hsA] at hnA
      replace hnA := hide hnA
      have hzA : Bk ((wr.alloc (.cells C 5)).alloc (.cells #[.slice (some ⟨wr.heap.size, 0, none⟩) 512 512] 35)) wr.heap.size 5 (vals (List.replicate 512 0)) := by
        have := (Bk.newA wr 5 C).alloc (.cells #[.slice (some ⟨wr.heap.size, 0, none⟩) 512 512] 35)
        rwa [unhide HC] at this
      replace hzA := hide hzA
      clear hb hsA
      go_wp2_with fail
      go_region_law ((refine step_append_lies _ (by rfl) _ _ _ (by rfl) w.heap.size 35 i0 _ 1 24 Try.underlying29 hi hz0 hz1 hz2 rfl (by omega) (.slice a k c) k (heads L) (by rfl) ((((unhide hown).alloc _).alloc _).drew) ⟨wr.heap.size + 1, 0, none⟩ 1 1 [.slice (some ⟨wr.heap.size, 0, none⟩) 512 512] (by rfl) (by rfl) (World.news_of_block (cs := #[.slice (some ⟨wr.heap.size, 0, none⟩) 512 512]) (t := 35) (fr := (0, 0)) (unhide hnA)) (by simp [Value.oneCell']) (by omega) (by unfold maxLen; omega) (by omega) (by simp; omega) (wr.heap.size + 2) (by simp) ?_; intro g cap w1 hown1 hgrow hat hltg; have c0 : w1.cell? ⟨w.heap.size, 0, none⟩ = some (.slice a k c) := (hgrow.cell_far ⟨w.heap.size, 0, none⟩ (by simp; omega) (Ne.symm (unhide hnq))).trans (unhide hcA); have f0 : w1.frozen? ⟨w.heap.size, 0, none⟩ = false := (hgrow.frozen_far ⟨w.heap.size, 0, none⟩ (by simp; omega) (Ne.symm (unhide hnq))).trans (unhide hfA)))
      all_goals
        have hst := (unhide hB).step (((Kp.refl [] wr).alloc _).alloc _) (unhide hzA) (by simp) hown1 ⟨hgrow.os, hgrow.tape, hgrow.output, hgrow.size, hgrow.block⟩ hat
        replace hst := hide hst
        clear hown1 hgrow hat
        go_wp2
        go_roundw
        case rel => exact ⟨k + 1, _, _, by omega, by go_num, unhide hst⟩
        case measure => simp [intOf]; omega
    · have t : decide ((k : Int) < 1) = false := by have := unhide hN; simp; omega
      have e : k = N := by omega
      obtain ⟨h, c, hm, hh⟩ := hb.done (by omega) (by omega)
      have HL : Hid (∀ g ∈ L, w.heap.size ≤ g) := hb.fresh
      have hkp := hide hb.kp
      replace hm := hide hm
      replace e := hide e
      clear hb
      go_wp2
      go_ret
      rw [unhide e] at hm
      exact ⟨_, h, c, L, rfl, unhide hm, Nat.le_refl _, hh, unhide HL, unhide hkp⟩
set_option maxRecDepth 4000 in
set_option maxHeartbeats 2000000 in
theorem rnew_mid (w : World) (u : Int) (N : Nat) (h1 : 1 ≤ u) (h2 : u ≤ 64) (hN : (u : Int) = (N : Int)) (n1 : 1 ≤ N) (n2 : N ≤ 64) : Calls Try.prog 9 #[.int .i64 u] w (RNewP w N) := by
  obtain ⟨i0, hi, hz0, hz1, hz2⟩ := info_parts Try.info35'
  obtain ⟨C, hC, hmk⟩ := make_bytes 512 512 (by rfl) (by omega)
  have HC := hide hC
  replace hN := hide hN
  clear hC
  go_enter Try.func9, Try.ntmps9
  go_wp2
  go_loopw [4] (fun i wr => ∃ (k : Nat) (L : List Nat) (v : Value), k ≤ N ∧ i = .int .i64 k ∧ Bld w wr w.heap.size k L v) (fun i _ => N - (intOf i).toNat)
  case atStart => exact ⟨0, [], .slice none 0 0, Nat.zero_le _, rfl, ⟨Bk.newA _ _ _, ownsRow_none _ _ _ _, ⟨_, _, rfl⟩, rfl, fun i hi => by omega, fun i j hi => by omega, by simp [Value.ownBlock], (Kp.refl _ _).alloc _, by simp, Nat.le_refl _⟩⟩
  case round =>
    obtain ⟨k, L, v, hk, rfl, hb⟩ := hrel
    by_cases hlt : k < N
    · have t : (k : Int) < u := by have := unhide hN; omega
      obtain ⟨a, c, rfl⟩ := hb.form
      have hB := hide hb
      have hown := hide hb.own
      have hc : wr.cell? ⟨w.heap.size, 0, none⟩ = some (.slice a k c) := hb.head.cell rfl
      have hf : wr.frozen? ⟨w.heap.size, 0, none⟩ = false := hb.head.frozen 0
      have hl : w.heap.size < wr.heap.size := hb.head.lt
      have hnq := hide hb.notq
      have hcA := hide (show ((wr.alloc (.cells C 5)).alloc (.cells #[.slice (some ⟨wr.heap.size, 0, none⟩) 512 512] 35)).cell? ⟨w.heap.size, 0, none⟩ = some (.slice a k c) from ((hb.head.alloc _).alloc _).cell rfl)
      have hfA := hide (show ((wr.alloc (.cells C 5)).alloc (.cells #[.slice (some ⟨wr.heap.size, 0, none⟩) 512 512] 35)).frozen? ⟨w.heap.size, 0, none⟩ = false from ((hb.head.alloc _).alloc _).frozen 0)
      have hsA : (wr.alloc (.cells C 5)).heap.size = wr.heap.size + 1 := by simp
      have hnA := heap_alloc_new (wr.alloc (.cells C 5)) (.cells #[.slice (some ⟨wr.heap.size, 0, none⟩) 512 512] 35)
      rw [hsA] at hnA
      replace hnA := hide hnA
      have hzA : Bk ((wr.alloc (.cells C 5)).alloc (.cells #[.slice (some ⟨wr.heap.size, 0, none⟩) 512 512] 35)) wr.heap.size 5 (vals (List.replicate 512 0)) := by
        have := (Bk.newA wr 5 C).alloc (.cells #[.slice (some ⟨wr.heap.size, 0, none⟩) 512 512] 35)
        rwa [unhide HC] at this
      replace hzA := hide hzA
      clear hb hsA
      go_wp2_with fail
      go_region_law ((refine step_append_lies _ (by rfl) _ _ _ (by rfl) w.heap.size 35 i0 _ 1 24 Try.underlying29 hi hz0 hz1 hz2 rfl (by omega) (.slice a k c) k (heads L) (by rfl) ((((unhide hown).alloc _).alloc _).drew) ⟨wr.heap.size + 1, 0, none⟩ 1 1 [.slice (some ⟨wr.heap.size, 0, none⟩) 512 512] (by rfl) (by rfl) (World.news_of_block (cs := #[.slice (some ⟨wr.heap.size, 0, none⟩) 512 512]) (t := 35) (fr := (0, 0)) (unhide hnA)) (by simp [Value.oneCell']) (by omega) (by unfold maxLen; omega) (by omega) (by simp; omega) (wr.heap.size + 2) (by simp) ?_; intro g cap w1 hown1 hgrow hat hltg; have c0 : w1.cell? ⟨w.heap.size, 0, none⟩ = some (.slice a k c) := (hgrow.cell_far ⟨w.heap.size, 0, none⟩ (by simp; omega) (Ne.symm (unhide hnq))).trans (unhide hcA); have f0 : w1.frozen? ⟨w.heap.size, 0, none⟩ = false := (hgrow.frozen_far ⟨w.heap.size, 0, none⟩ (by simp; omega) (Ne.symm (unhide hnq))).trans (unhide hfA)))
      all_goals
        have hst := (unhide hB).step (((Kp.refl [] wr).alloc _).alloc _) (unhide hzA) (by simp) hown1 ⟨hgrow.os, hgrow.tape, hgrow.output, hgrow.size, hgrow.block⟩ hat
        replace hst := hide hst
        clear hown1 hgrow hat
        go_wp2
        go_roundw
        case rel => exact ⟨k + 1, _, _, by omega, by go_num, unhide hst⟩
        case measure => simp [intOf]; omega
    · have t : decide ((k : Int) < u) = false := by have := unhide hN; simp; omega
      have e : k = N := by omega
      obtain ⟨h, c, hm, hh⟩ := hb.done (by omega) (by omega)
      have HL : Hid (∀ g ∈ L, w.heap.size ≤ g) := hb.fresh
      have hkp := hide hb.kp
      replace hm := hide hm
      replace e := hide e
      clear hb
      go_wp2
      go_ret
      rw [unhide e] at hm
      exact ⟨_, h, c, L, rfl, unhide hm, Nat.le_refl _, hh, unhide HL, unhide hkp⟩
set_option maxRecDepth 4000 in
set_option maxHeartbeats 2000000 in
theorem rnew_high (w : World) (u : Int) (N : Nat) (h1 : 64 < u) (hN : (64 : Int) = (N : Int)) (n1 : 1 ≤ N) (n2 : N ≤ 64) : Calls Try.prog 9 #[.int .i64 u] w (RNewP w N) := by
  obtain ⟨i0, hi, hz0, hz1, hz2⟩ := info_parts Try.info35'
  obtain ⟨C, hC, hmk⟩ := make_bytes 512 512 (by rfl) (by omega)
  have HC := hide hC
  replace hN := hide hN
  clear hC
  go_enter Try.func9, Try.ntmps9
  go_wp2
  go_loopw [4] (fun i wr => ∃ (k : Nat) (L : List Nat) (v : Value), k ≤ N ∧ i = .int .i64 k ∧ Bld w wr w.heap.size k L v) (fun i _ => N - (intOf i).toNat)
  case atStart => exact ⟨0, [], .slice none 0 0, Nat.zero_le _, rfl, ⟨Bk.newA _ _ _, ownsRow_none _ _ _ _, ⟨_, _, rfl⟩, rfl, fun i hi => by omega, fun i j hi => by omega, by simp [Value.ownBlock], (Kp.refl _ _).alloc _, by simp, Nat.le_refl _⟩⟩
  case round =>
    obtain ⟨k, L, v, hk, rfl, hb⟩ := hrel
    by_cases hlt : k < N
    · have t : (k : Int) < 64 := by have := unhide hN; omega
      obtain ⟨a, c, rfl⟩ := hb.form
      have hB := hide hb
      have hown := hide hb.own
      have hc : wr.cell? ⟨w.heap.size, 0, none⟩ = some (.slice a k c) := hb.head.cell rfl
      have hf : wr.frozen? ⟨w.heap.size, 0, none⟩ = false := hb.head.frozen 0
      have hl : w.heap.size < wr.heap.size := hb.head.lt
      have hnq := hide hb.notq
      have hcA := hide (show ((wr.alloc (.cells C 5)).alloc (.cells #[.slice (some ⟨wr.heap.size, 0, none⟩) 512 512] 35)).cell? ⟨w.heap.size, 0, none⟩ = some (.slice a k c) from ((hb.head.alloc _).alloc _).cell rfl)
      have hfA := hide (show ((wr.alloc (.cells C 5)).alloc (.cells #[.slice (some ⟨wr.heap.size, 0, none⟩) 512 512] 35)).frozen? ⟨w.heap.size, 0, none⟩ = false from ((hb.head.alloc _).alloc _).frozen 0)
      have hsA : (wr.alloc (.cells C 5)).heap.size = wr.heap.size + 1 := by simp
      have hnA := heap_alloc_new (wr.alloc (.cells C 5)) (.cells #[.slice (some ⟨wr.heap.size, 0, none⟩) 512 512] 35)
      rw [hsA] at hnA
      replace hnA := hide hnA
      have hzA : Bk ((wr.alloc (.cells C 5)).alloc (.cells #[.slice (some ⟨wr.heap.size, 0, none⟩) 512 512] 35)) wr.heap.size 5 (vals (List.replicate 512 0)) := by
        have := (Bk.newA wr 5 C).alloc (.cells #[.slice (some ⟨wr.heap.size, 0, none⟩) 512 512] 35)
        rwa [unhide HC] at this
      replace hzA := hide hzA
      clear hb hsA
      go_wp2_with fail
      go_region_law ((refine step_append_lies _ (by rfl) _ _ _ (by rfl) w.heap.size 35 i0 _ 1 24 Try.underlying29 hi hz0 hz1 hz2 rfl (by omega) (.slice a k c) k (heads L) (by rfl) ((((unhide hown).alloc _).alloc _).drew) ⟨wr.heap.size + 1, 0, none⟩ 1 1 [.slice (some ⟨wr.heap.size, 0, none⟩) 512 512] (by rfl) (by rfl) (World.news_of_block (cs := #[.slice (some ⟨wr.heap.size, 0, none⟩) 512 512]) (t := 35) (fr := (0, 0)) (unhide hnA)) (by simp [Value.oneCell']) (by omega) (by unfold maxLen; omega) (by omega) (by simp; omega) (wr.heap.size + 2) (by simp) ?_; intro g cap w1 hown1 hgrow hat hltg; have c0 : w1.cell? ⟨w.heap.size, 0, none⟩ = some (.slice a k c) := (hgrow.cell_far ⟨w.heap.size, 0, none⟩ (by simp; omega) (Ne.symm (unhide hnq))).trans (unhide hcA); have f0 : w1.frozen? ⟨w.heap.size, 0, none⟩ = false := (hgrow.frozen_far ⟨w.heap.size, 0, none⟩ (by simp; omega) (Ne.symm (unhide hnq))).trans (unhide hfA)))
      all_goals
        have hst := (unhide hB).step (((Kp.refl [] wr).alloc _).alloc _) (unhide hzA) (by simp) hown1 ⟨hgrow.os, hgrow.tape, hgrow.output, hgrow.size, hgrow.block⟩ hat
        replace hst := hide hst
        clear hown1 hgrow hat
        go_wp2
        go_roundw
        case rel => exact ⟨k + 1, _, _, by omega, by go_num, unhide hst⟩
        case measure => simp [intOf]; omega
    · have t : decide ((k : Int) < 64) = false := by have := unhide hN; simp; omega
      have e : k = N := by omega
      obtain ⟨h, c, hm, hh⟩ := hb.done (by omega) (by omega)
      have HL : Hid (∀ g ∈ L, w.heap.size ≤ g) := hb.fresh
      have hkp := hide hb.kp
      replace hm := hide hm
      replace e := hide e
      clear hb
      go_wp2
      go_ret
      rw [unhide e] at hm
      exact ⟨_, h, c, L, rfl, unhide hm, Nat.le_refl _, hh, unhide HL, unhide hkp⟩
theorem rnew_calls (w : World) (u : Int) : Calls Try.prog 9 #[.int .i64 u] w (RNewP w (unitsOf u)) := by
  have hb := unitsOf_bd u
  by_cases h1 : u < 1
  · exact rnew_low w u _ h1 (by unfold unitsOf; omega) hb.1 hb.2
  · by_cases h2 : u ≤ 64
    · exact rnew_mid w u _ (by omega) h2 (by unfold unitsOf; omega) hb.1 hb.2
    · exact rnew_high w u _ (by omega) (by unfold unitsOf; omega) hb.1 hb.2
end Go.Proofs.Ytidbnbdijjhmgaa
