/- Bytes in memory, written into new memory: word.put, the document's own Bytes and put, SameBytes. -/
import Derived.Test.YticfpbhafjjmdaaOwnRead
import Derived.Deep.OwnRows
import Derived.Laws.CopyOwn
namespace Go.Proofs.Yticfpbhafjjmdaa
open Go.RowKit
set_option linter.unusedVariables false

/-- Bytes as the values of cells. -/
def vals (bs : List Nat) : List Value := bs.map fun (x : Nat) => Value.int .u8 (x : Int)
theorem vals_len (bs : List Nat) : (vals bs).length = bs.length := by simp [vals]
theorem vals_get (bs : List Nat) (j : Nat) (h : j < bs.length) : (vals bs)[j]? = some (.int .u8 ((bs.getD j 0 : Nat) : Int)) := by
  simp [vals, List.getD_eq_getElem?_getD, h]
theorem vals_one (bs : List Nat) : ∀ v ∈ vals bs, v.oneCell' = true := by
  intro v hv
  simp only [vals, List.mem_map] at hv
  obtain ⟨x, _, rfl⟩ := hv
  rfl
theorem vals_set (bs : List Nat) (j x : Nat) : (vals bs).set j (.int .u8 (x : Int)) = vals (bs.set j x) := by simp [vals, List.map_set]
/-- Bytes with a number's bytes put there. -/
def putN (bs : List Nat) (p : Int) (n : Nat) : Nat → List Nat
  | 0 => bs
  | k + 1 => if 0 ≤ p + k ∧ p + k < (bs.length : Int) then (putN bs p n k).set (p + k).toNat (n / 2 ^ (8 * k) % 256) else putN bs p n k
theorem putN_len (bs : List Nat) (p : Int) (n k : Nat) : (putN bs p n k).length = bs.length := by
  induction k with
  | zero => rfl
  | succ k ih => rw [putN]; split <;> simp [ih]
theorem small_set {bs : List Nat} (h : Small bs) (j x : Nat) (hx : x < 256) : Small (bs.set j x) := by
  intro i
  have := h i
  rw [List.getD_eq_getElem?_getD] at this ⊢
  rw [List.getElem?_set]
  split
  · split
    · simpa using hx
    · simp
  · exact this
theorem putN_small {bs : List Nat} (h : Small bs) (p : Int) (n k : Nat) : Small (putN bs p n k) := by
  induction k with
  | zero => exact h
  | succ k ih => rw [putN]; split; exact small_set ih _ _ (Nat.mod_lt _ (by omega)); exact ih
theorem putN_get (bs : List Nat) (p : Int) (n k i : Nat) (hi : i < bs.length) :
    (putN bs p n k).getD i 0 = if p ≤ i ∧ (i : Int) < p + k then n / 2 ^ (8 * (i - p).toNat) % 256 else bs.getD i 0 := by
  induction k with
  | zero => rw [putN, if_neg (by omega)]
  | succ k ih =>
    have hl := putN_len bs p n k
    rw [putN]
    split
    · rename_i h
      rw [List.getD_eq_getElem?_getD, List.getElem?_set]
      split
      · rename_i e
        rw [if_pos (by omega), if_pos (by omega)]
        have e2 : ((i : Int) - p).toNat = k := by omega
        rw [e2]; rfl
      · rename_i e
        rw [← List.getD_eq_getElem?_getD, ih]
        by_cases hc : p ≤ i ∧ (i : Int) < p + k
        · rw [if_pos hc, if_pos (by omega)]
        · rw [if_neg hc, if_neg (by omega)]
    · rename_i h
      rw [ih]
      by_cases hc : p ≤ i ∧ (i : Int) < p + k
      · rw [if_pos hc, if_pos (by omega)]
      · rw [if_neg hc, if_neg (by omega)]
/-- A row of bytes that the call itself has made. -/
def Owns (base : Nat) (w : World) (g c : Nat) (bs : List Nat) : Prop := w.ownsRow base 5 1 (.slice (some ⟨g, 0, none⟩) bs.length c) bs.length (vals bs)
theorem Owns.row {base : Nat} {w : World} {g c : Nat} {bs : List Nat} (h : Owns base w g c bs) (hs : Small bs) (hl : bs.length ≤ 1152921504606846976) : Row w (some ⟨g, 0, none⟩) bs := by
  refine ⟨hs, hl, .inr ⟨g, 0, rfl, fun i hi => ?_⟩⟩
  rw [Nat.zero_add, World.ownsRow.cellAt h i (by omega), vals_get bs i hi]
theorem Owns.le {base : Nat} {w : World} {g c : Nat} {bs : List Nat} (h : Owns base w g c bs) : base ≤ g ∧ g < w.heap.size := World.ownsRow.lt h g rfl
theorem Owns.stored {base : Nat} {w : World} {g c : Nat} {bs : List Nat} (h : Owns base w g c bs) (j x : Nat) : Owns base (w.setCell ⟨g, j, none⟩ (.int .u8 (x : Int))) g c (bs.set j x) := by
  have := (World.ownsRow.stored h j (.int .u8 (x : Int))).1
  unfold Owns
  rw [List.length_set, ← vals_set]
  exact this
theorem Try.info5' : (Try.prog.info? 5).map (fun i => (i.zero, i.size, i.bytes)) = some (some (.int .u8 0), 1, 1) := by kernel_rfl
theorem Try.isize5 : (Try.prog.info? 5).map (·.size) = some 1 := by kernel_rfl
theorem Row.src {w : World} {a : Option Addr} {bs : List Nat} (h : Row w a bs) (hp : 0 < bs.length) : ∃ ad, a = some ad ∧ ∀ j v, (vals bs)[j]? = some v → w.cell? (ad.add j) = some v := by
  obtain ⟨_, _, hz | ⟨b, off, rfl, hc⟩⟩ := h
  · omega
  · refine ⟨_, rfl, fun j v hv => ?_⟩
    have hj : j < bs.length := by
      rcases Nat.lt_or_ge j bs.length with h | h
      · exact h
      · rw [List.getElem?_eq_none (by rw [vals_len]; exact h)] at hv; cases hv
    rw [vals_get bs j hj] at hv
    cases hv
    have h2 := hc j hj
    unfold Addr.add
    split
    · rename_i e; subst e; exact h2
    · exact h2
/-- What is read is still there in a world in which nothing old has turned. -/
theorem Row.below {w w' : World} {a : Option Addr} {bs : List Nat} (h : Row w a bs) {B : Nat} (hb : Below B w w') (hB : w.heap.size ≤ B) : Row w' a bs := by
  obtain ⟨h1, h2, h3⟩ := h
  refine ⟨h1, h2, ?_⟩
  rcases h3 with hz | ⟨b, off, rfl, hc⟩
  · exact .inl hz
  · refine .inr ⟨b, off, rfl, fun i hi => ?_⟩
    have h := hc i hi
    have hlt := World.block_lt_of_cell? w _ h
    rw [hb.cell (p := ⟨b, off + i, none⟩) (Nat.lt_of_lt_of_le hlt hB)]
    exact h

theorem byte_cast (n k : Nat) : ((n / 2 ^ (8 * k) % 256 : Nat) : Int) = (n : Int) / 2 ^ (8 * k) % 256 := by rw [ishr n (8 * k)]; omega
theorem copy_run (base g : Nat) (w1 : World) (a : Option Addr) (cap : Nat) (bs : List Nat) (cur : Array Value) (hg : w1.heap[g]? = some (.cells cur 5 (0, 0))) (hc : cur.size = bs.length) (hr : Row w1 a bs) (hbg : base ≤ g) :
    ∃ W2, Sem.run Try.prog (Builtin.copy_ #[22, 22] 3 #[.slice (some ⟨g, 0, none⟩) bs.length bs.length, .slice a bs.length cap]) w1 = .ok (.int .i64 (bs.length : Int)) W2 ∧ Owns base W2 g bs.length bs ∧ Below g w1 W2 := by
  have hm : bs.length ≤ maxLen := by have := hr.2.1; unfold maxLen; omega
  by_cases hz : bs.length = 0
  · have hb0 : bs = [] := List.eq_nil_of_length_eq_zero hz
    have hrun := run_copy_none (P := Try.prog) w1 22 22 3 5 (some ⟨g, 0, none⟩) a bs.length bs.length bs.length cap Try.underlying22 Try.isize5 (by rw [hz]; rfl)
    refine ⟨w1, by rw [hrun, hz]; rfl, ⟨by simp [vals_len], .inr ⟨g, bs.length, cur, rfl, hbg, hg, Nat.le_refl _, hm, by omega, ?_⟩⟩, Below.refl _ _⟩
    subst hb0; simp [vals]
  · obtain ⟨ad, rfl, hsrc⟩ := hr.src (by omega)
    have hrun := run_copy_row (P := Try.prog) w1 22 22 3 5 g 0 bs.length bs.length ad bs.length cap cur 5 (vals bs) Try.underlying22 Try.isize5 hg (by rw [vals_len]; exact (Nat.min_self _).symm) hsrc (by rw [vals_len]; omega) (vals_one bs)
    rw [vals_len] at hrun
    refine ⟨_, hrun, ⟨by simp [vals_len], .inr ⟨g, bs.length, _, rfl, hbg, setRow_heap w1 g cur _ _ _ hg, Nat.le_refl _, hm, ?_, ?_⟩⟩, below_setRow (Below.refl _ _) (Nat.le_refl _) _⟩
    · simp [vals_len]; omega
    · have e : (vals bs).length = bs.length := vals_len bs
      have e2 : List.drop (0 + bs.length) cur.toList = [] := List.drop_of_length_le (by simp; omega)
      rw [e2]; simp [← e]
set_option maxHeartbeats 1000000 in
theorem wput_calls (a : Option Addr) (cap : Nat) (bs : List Nat) (p : Int) (size n : Nat) (w : World) (hr : Row w a bs) (hl : bs.length ≤ 1048576) (hp0 : -9223372036854775808 ≤ p) (hp1 : p ≤ 9223372036854775807) (hs : size ≤ 4) (hn : n < 4294967296) :
    Calls Try.prog 28 #[.slice a bs.length cap, .int .i64 p, .int .i64 (size : Int), .int .u32 (n : Int)] w fun e w' => ∃ g c, e = .returned (.slice (some ⟨g, 0, none⟩) bs.length c) ∧ Owns w.heap.size w' g c (putN bs p n size) ∧ Below w.heap.size w w' := by
  have hmk := run_make_row' (P := Try.prog) 22 5 (.int .u8 0) 1 Try.underlying22 Try.info5' rfl .i64 .i64 bs.length (by omega) (by omega)
  obtain ⟨C, hC, hCs⟩ : ∃ C : Array Value, madeCells #[Value.int .u8 0] bs.length = C ∧ C.size = bs.length := ⟨_, rfl, size_madeCells _ _⟩
  rw [hC] at hmk
  clear hC
  obtain ⟨W2, hcp, hown, hbel⟩ := copy_run w.heap.size w.heap.size (w.alloc (.cells C 5)) a cap bs C (heap_alloc_new w _) hCs (hr.below ((Below.refl _ w).alloc (Nat.le_refl _) _) (Nat.le_refl _)) (Nat.le_refl _)
  have hbel' : Below w.heap.size w W2 := ((Below.refl w.heap.size w).alloc (Nat.le_refl _) _).trans hbel
  go_enter Try.func28, Try.ntmps28
  go_wp2
  go_loopw [18] (fun i wr => ∃ k : Nat, k ≤ size ∧ i = .int .i64 k ∧ Owns w.heap.size wr w.heap.size bs.length (putN bs p n k) ∧ Below w.heap.size w wr) (fun i _ => size - (intOf i).toNat)
  case atStart => exact ⟨0, Nat.zero_le _, rfl, hown, hbel'⟩
  case round =>
    obtain ⟨k, hk, rfl, hownr, hbr⟩ := hrel
    have hlk := putN_len bs p n k
    by_cases hlt : k < size
    · by_cases hin : 0 ≤ p + k ∧ p + k < (bs.length : Int)
      · obtain ⟨hi0, hi1⟩ := hin
        have hfz : wr.frozen? ⟨w.heap.size, (p + k).toNat, none⟩ = false := World.ownsRow.frozenAt hownr _
        have hcell : wr.cell? ⟨w.heap.size, (p + k).toNat, none⟩ = some _ := (World.ownsRow.cellAt hownr (p + k).toNat (by omega)).trans (vals_get _ _ (by omega))
        go_wp2_with fail
        refine (there_yes _ _ _ _ _ hi0 hi1).mono ?_
        rintro e w' ⟨rfl, rfl⟩
        go_wp2
        go_roundw
        case rel =>
          refine ⟨k + 1, by omega, by go_num, ?_, ?_⟩
          · have h2 := hownr.stored (p + k).toNat (n / 2 ^ (8 * k) % 256)
            rw [byte_cast] at h2
            rw [putN, if_pos ⟨hi0, hi1⟩]
            exact h2
          · exact hbr.setCell (Nat.le_refl _) _
        case measure => simp [intOf]; omega
      · go_wp2_with fail
        refine (there_no _ _ _ _ _ ?_).mono ?_
        · first | exact hin | (unfold wrap64; omega)
        rintro e w' ⟨rfl, rfl⟩
        go_wp2
        go_roundw
        case rel =>
          refine ⟨k + 1, by omega, by go_num, ?_, hbr⟩
          rw [putN, if_neg hin]; exact hownr
        case measure => simp [intOf]; omega
    · go_wp2
      go_ret
      have e : k = size := by omega
      subst e
      exact ⟨w.heap.size, bs.length, rfl, hownr, hbr⟩
theorem take_more (bs : List Nat) (k : Nat) (h : k < bs.length) : vals (bs.take (k + 1)) = vals (bs.take k) ++ [.int .u8 ((bs.getD k 0 : Nat) : Int)] := by
  have e : bs.getD k 0 = bs[k] := by simp [List.getD_eq_getElem?_getD, h]
  rw [e]; unfold vals; rw [List.take_succ_eq_append_getElem h, List.map_append]; rfl
set_option maxHeartbeats 1000000 in
theorem bytes_calls (a : Option Addr) (cap : Nat) (bs : List Nat) (w : World) (hr : Row w a bs) (hl : bs.length ≤ 1048576) :
    Calls Try.prog 24 #[.slice a bs.length cap] w fun e w' => ∃ g c, e = .returned (.slice (some ⟨g, 0, none⟩) bs.length c) ∧ Owns w.heap.size w' g c bs ∧ Below w.heap.size w w' := by
  obtain ⟨i0, hi, hinf⟩ := Option.map_eq_some_iff.1 Try.info5'
  simp only [Prod.mk.injEq] at hinf
  obtain ⟨hz0, hz1, hz2⟩ := hinf
  obtain ⟨W1, hmk, hown, hgr⟩ := run_make_own (P := Try.prog) w w.heap.size 22 5 i0 (.int .u8 0) 1 Try.underlying22 hi hz0 hz1 .i64 .i64 bs.length (by rw [hz2]; omega) (by unfold maxLen; omega) (Nat.le_refl _)
  have hb1 : Below w.heap.size w W1 := (Below.refl _ _).grown hgr (Nat.le_refl _) (fun k hk => by cases hk)
  have HR := hide hr
  clear hr
  go_enter Try.func24, Try.ntmps24
  go_wp2
  go_loopw [3, 4] (fun v i wr => ∃ k : Nat, k ≤ bs.length ∧ i = .int .i64 k ∧ (∃ g c, v = .slice (some ⟨g, 0, none⟩) k c) ∧ wr.ownsRow w.heap.size 5 1 v k (vals (bs.take k)) ∧ Below w.heap.size w wr) (fun _ i _ => bs.length - (intOf i).toNat)
  case atStart => exact ⟨0, Nat.zero_le _, rfl, ⟨_, _, rfl⟩, hown, hb1⟩
  case round =>
    obtain ⟨k, hk, rfl, ⟨g, c, rfl⟩, hownr, hbr⟩ := hrel
    by_cases hlt : k < bs.length
    · have hrr := (unhide HR).below hbr (Nat.le_refl _)
      obtain ⟨_, _, hz | ⟨b, off, rfl, hc⟩⟩ := hrr
      · omega
      have hcell := hc k hlt
      clear hc
      have hmore := take_more bs k hlt
      obtain ⟨x, hx⟩ : ∃ x : Nat, bs.getD k 0 = x := ⟨_, rfl⟩
      rw [hx] at hcell hmore
      have HM := hide hmore
      clear hmore hx
      go_wp2_with (first
        | (at_builtin; refine wpList_append_own _ rfl _ _ 22 rfl w.heap.size 5 i0 (.int .u8 0) 1 1 Try.underlying22 hi hz0 hz1 hz2 rfl (by decide) _ _ _ rfl (hownr.alloc _) ⟨wr.heap.size, 0, none⟩ 1 1 [.int .u8 (x : Int)] rfl rfl (cell_one_new _ _ _) ?c2 ?c3 ?c4 ?c5 ?_)
        | go_in)
      case c2 => intro u hu; simp at hu; subst hu; rfl
      case c3 => unfold maxLen; omega
      case c4 => omega
      case c5 => have := hbr.size; simp; omega
      intro v' w1 hown' hgrow hnil
      have hb2 : Below w.heap.size w w1 := (hbr.alloc hbr.size _).grown hgrow (by have := hbr.size; simp; omega) (fun k hk => by cases hk; exact (World.ownsRow.lt hownr _ rfl).1)
      obtain ⟨g', c', rfl⟩ : ∃ g c, v' = .slice (some ⟨g, 0, none⟩) (k + 1) c := by
        rcases hown'.2 with ⟨h, _⟩ | ⟨g', c', cur, h, _⟩
        · exact (hnil h).elim
        · exact ⟨g', c', h⟩
      rw [← unhide HM] at hown'
      clear hgrow hownr hbr hcell hnil
      go_wp2
      go_roundw
      case rel => exact ⟨k + 1, by omega, by go_num, ⟨_, _, rfl⟩, hown', hb2⟩
      case measure => simp [intOf]; omega
    · go_wp2
      go_ret
      have e : k = bs.length := by omega
      subst e
      rw [List.take_of_length_le (Nat.le_refl _)] at hownr
      exact ⟨g, c, rfl, hownr, hbr⟩
set_option maxHeartbeats 1000000 in
theorem rput_calls (a : Option Addr) (cap : Nat) (bs : List Nat) (p : Int) (size n : Nat) (w : World) (hr : Row w a bs) (hl : bs.length ≤ 1048576) (hp0 : -9223372036854775808 ≤ p) (hp1 : p ≤ 9223372036854775807) (hs : size ≤ 4) (hn : n < 4294967296) :
    Calls Try.prog 29 #[.slice a bs.length cap, .int .i64 p, .int .i64 (size : Int), .int .u32 (n : Int)] w fun e w' => ∃ g c, e = .returned (.slice (some ⟨g, 0, none⟩) bs.length c) ∧ Owns w.heap.size w' g c (putN bs p n size) ∧ Below w.heap.size w w' := by
  go_enter Try.func29, Try.ntmps29
  go_wp2_with fail
  refine (bytes_calls _ _ _ _ hr hl).mono ?_
  rintro e W2 ⟨g, c, rfl, hown, hbel⟩
  go_wp2
  go_loopw [10] (fun i wr => ∃ k : Nat, k ≤ size ∧ i = .int .i64 k ∧ Owns w.heap.size wr g c (putN bs p n k) ∧ Below w.heap.size w wr) (fun i _ => size - (intOf i).toNat)
  case atStart => exact ⟨0, Nat.zero_le _, rfl, hown, hbel⟩
  case round =>
    obtain ⟨k, hk, rfl, hownr, hbr⟩ := hrel
    have hlk := putN_len bs p n k
    by_cases hlt : k < size
    · by_cases hin : 0 ≤ p + k ∧ p + k < (bs.length : Int)
      · obtain ⟨hi0, hi1⟩ := hin
        have hfz : wr.frozen? ⟨g, (p + k).toNat, none⟩ = false := World.ownsRow.frozenAt hownr _
        have hcell : wr.cell? ⟨g, (p + k).toNat, none⟩ = some _ := (World.ownsRow.cellAt hownr (p + k).toNat (by omega)).trans (vals_get _ _ (by omega))
        have g1 : -(k : Int) ≤ p := by omega
        have g2 : p < (bs.length : Int) - (k : Int) := by omega
        go_wp2
        go_roundw
        case rel =>
          refine ⟨k + 1, by omega, by go_num, ?_, ?_⟩
          · have h2 := hownr.stored (p + k).toNat (n / 2 ^ (8 * k) % 256)
            rw [byte_cast] at h2
            rw [putN, if_pos ⟨hi0, hi1⟩]
            exact h2
          · exact hbr.setCell hownr.le.1 _
        case measure => simp [intOf]; omega
      · by_cases g1 : -(k : Int) ≤ p
        · have g2 : decide (p < (bs.length : Int) - (k : Int)) = false := by simp; omega
          go_wp2
          go_roundw
          case rel =>
            refine ⟨k + 1, by omega, by go_num, ?_, hbr⟩
            rw [putN, if_neg hin]; exact hownr
          case measure => simp [intOf]; omega
        · have g2 : decide (-(k : Int) ≤ p) = false := by simp; omega
          go_wp2
          go_roundw
          case rel =>
            refine ⟨k + 1, by omega, by go_num, ?_, hbr⟩
            rw [putN, if_neg hin]; exact hownr
          case measure => simp [intOf]; omega
    · go_wp2
      go_ret
      have e : k = size := by omega
      subst e
      exact ⟨g, c, rfl, hownr, hbr⟩
set_option maxHeartbeats 1000000 in
theorem same_calls (a b : Option Addr) (c1 c2 : Nat) (bs : List Nat) (w : World) (hr1 : Row w a bs) (hr2 : Row w b bs) :
    Calls Try.prog 13 #[.slice a bs.length c1, .slice b bs.length c2] w fun e w' => e = .returned (.bool true) ∧ ∃ k, w' = w.drewN k := by
  obtain ⟨_, hlen, h1⟩ := hr1
  obtain ⟨_, _, h2⟩ := hr2
  go_enter Try.func13, Try.ntmps13
  go_wp2
  go_loopw [5] (fun i wr => ∃ k : Nat, k ≤ bs.length ∧ i = .int .i64 k ∧ ∃ m, wr = w.drewN m) (fun i _ => bs.length - (intOf i).toNat)
  case atStart => exact ⟨0, Nat.zero_le _, rfl, 0, rfl⟩
  case round =>
    obtain ⟨k, hk, rfl, m, rfl⟩ := hrel
    by_cases hlt : k < bs.length
    · rcases h1 with h1 | ⟨x1, o1, rfl, hc1⟩
      · omega
      rcases h2 with h2 | ⟨x2, o2, rfl, hc2⟩
      · omega
      have d1 := hc1 k hlt
      have d2 := hc2 k hlt
      clear hc1 hc2
      go_wp2
      go_quiet (fail)
      go_wp2
      go_roundw
      case rel => exact ⟨k + 1, by omega, by go_num, _, rfl⟩
      case measure => simp [intOf]; omega
    · go_wp2
      go_ret
      exact ⟨rfl, m, rfl⟩
end Go.Proofs.Yticfpbhafjjmdaa
