/- Package phys: what each of its functions does to a memory, told over its bytes. -/
import Derived.Test.YtidbnbdijjhmgaaKRef
namespace Go.Proofs.Ytidbnbdijjhmgaa
open Go.RowKit
set_option linter.unusedVariables false
/-- A memory of n units: its struct in block p, its bytes, one unit behind the other, in block g. -/
structure PMem (w : World) (p g n : Nat) (bs : List Nat) : Prop where
  head : Bk w p 50 [.slice (some ⟨g, 0, none⟩) n n]
  body : Bk w g 52 (vals bs)
  len : bs.length = n * 512
  small : Small bs
  low : 1 ≤ n
  high : n ≤ 64
theorem PMem.ne {w : World} {p g n : Nat} {bs : List Nat} (h : PMem w p g n bs) : p ≠ g := h.head.apart h.body (by decide)
theorem PMem.kept {S : List Nat} {w w' : World} {p g n : Nat} {bs : List Nat} (h : PMem w p g n bs) (k : Kp S w w') (hp : p ∉ S) (hg : g ∉ S) : PMem w' p g n bs :=
  ⟨h.head.kept k hp, h.body.kept k hg, h.len, h.small, h.low, h.high⟩
theorem PMem.drewN {w : World} {p g n : Nat} {bs : List Nat} (h : PMem w p g n bs) (k : Nat) : PMem (w.drewN k) p g n bs := h.kept ((Kp.refl [] w).drewN k) (by simp) (by simp)
/-- Are they all within a unit? -/
def inside (n : Nat) (u off k : Int) : Bool := decide (1 ≤ u ∧ u ≤ n ∧ 0 ≤ off ∧ 0 ≤ k ∧ k ≤ 512 - off)
theorem inside_iff (n : Nat) (u off k : Int) : inside n u off k = true ↔ 1 ≤ u ∧ u ≤ n ∧ 0 ≤ off ∧ 0 ≤ k ∧ k ≤ 512 - off := by simp [inside]
theorem inside_not (n : Nat) (u off k : Int) : inside n u off k = false ↔ ¬ (1 ≤ u ∧ u ≤ n ∧ 0 ≤ off ∧ 0 ≤ k ∧ k ≤ 512 - off) := by simp [inside]

set_option maxHeartbeats 400000 in
theorem units_calls {w : World} {p g n : Nat} {bs : List Nat} (h : PMem w p g n bs) :
    Calls Try.prog 10 #[.pointer (some ⟨p, 0, none⟩)] w fun e w' => e = .returned (.int .i64 (n : Int)) ∧ w' = w := by
  have hc : w.cell? ⟨p, 0, none⟩ = some (.slice (some ⟨g, 0, none⟩) n n) := h.head.cell rfl
  clear h
  go_enter Try.func10, Try.ntmps10
  go_wp2
  go_ret
  exact ⟨rfl, rfl⟩
set_option maxHeartbeats 400000 in
theorem has_calls {w : World} {p g n : Nat} {bs : List Nat} (h : PMem w p g n bs) (u : Int) :
    Calls Try.prog 26 #[.pointer (some ⟨p, 0, none⟩), .int .i64 u] w fun e w' => e = .returned (.bool (decide (1 ≤ u ∧ u ≤ (n : Int)))) ∧ w' = w := by
  have hc : w.cell? ⟨p, 0, none⟩ = some (.slice (some ⟨g, 0, none⟩) n n) := h.head.cell rfl
  clear h
  by_cases h1 : 1 ≤ u
  · go_enter Try.func26, Try.ntmps26
    go_wp2
    all_goals
      go_ret
      exact ⟨ret_bool (by simp; omega), rfl⟩
  · have h2 : decide (1 ≤ u) = false := by simpa using h1
    go_enter Try.func26, Try.ntmps26
    go_wp2
    go_ret
    exact ⟨ret_bool (by simp), rfl⟩
set_option maxHeartbeats 400000 in
theorem within_calls {w : World} {p g n : Nat} {bs : List Nat} (h : PMem w p g n bs) (u off k : Int) (ho : off ≤ 9223372036854775807) :
    Calls Try.prog 24 #[.pointer (some ⟨p, 0, none⟩), .int .i64 u, .int .i64 off, .int .i64 k] w fun e w' => e = .returned (.bool (inside n u off k)) ∧ w' = w := by
  have H := hide (has_calls h u)
  clear h
  by_cases h1 : 1 ≤ u ∧ u ≤ (n : Int)
  · have d1 : decide (1 ≤ u ∧ u ≤ (n : Int)) = true := by simpa using h1
    rw [d1] at H
    clear d1
    by_cases h2 : 0 ≤ off
    · by_cases h3 : 0 ≤ k
      · go_enter Try.func24, Try.ntmps24
        go_wp2_with fail
        refine (unhide H).mono ?_
        rintro e w' ⟨rfl, rfl⟩
        go_wp2
        go_ret
        exact ⟨ret_bool (by unfold inside; rw [Bool.eq_iff_iff]; simp; omega), rfl⟩
      · have d3 : decide (0 ≤ k) = false := by simpa using h3
        go_enter Try.func24, Try.ntmps24
        go_wp2_with fail
        refine (unhide H).mono ?_
        rintro e w' ⟨rfl, rfl⟩
        go_wp2
        go_ret
        exact ⟨ret_bool (by unfold inside; simp; omega), rfl⟩
    · have d2 : decide (0 ≤ off) = false := by simpa using h2
      go_enter Try.func24, Try.ntmps24
      go_wp2_with fail
      refine (unhide H).mono ?_
      rintro e w' ⟨rfl, rfl⟩
      go_wp2
      go_ret
      exact ⟨ret_bool (by unfold inside; simp; omega), rfl⟩
  · have d1 : decide (1 ≤ u ∧ u ≤ (n : Int)) = false := by simpa using h1
    rw [d1] at H
    clear d1
    go_enter Try.func24, Try.ntmps24
    go_wp2_with fail
    refine (unhide H).mono ?_
    rintro e w' ⟨rfl, rfl⟩
    go_wp2
    go_ret
    exact ⟨ret_bool (by unfold inside; simp; omega), rfl⟩
theorem Try.info52z : (Try.prog.info? 52).map (fun i => (i.zero, i.size, i.bytes)) = some (some (.agg (Array.replicate 512 (.int .u8 0))), 512, 512) := by kernel_rfl
/-- How many units New makes. -/
def unitsOf (u : Int) : Nat := (min (max u 1) 64).toNat
theorem unitsOf_bd (u : Int) : 1 ≤ unitsOf u ∧ unitsOf u ≤ 64 := by unfold unitsOf; omega
theorem madeZeros (n : Nat) : (madeCells (Array.replicate 512 (.int .u8 0)) n).toList = vals (List.replicate n 0) := by
  rw [← vals_zeros]
  apply List.ext_getElem
  · simp [madeCells]
  · intro i h1 h2
    have hm : i % 512 < 512 := Nat.mod_lt _ (by omega)
    have e : (Array.replicate 512 (Value.int .u8 0))[i % 512]? = some (.int .u8 0) := by rw [Array.getElem?_replicate, if_pos hm]
    simp [madeCells, Array.getElem!_eq_getD, e]
theorem make_units (w : World) (c : Int) (h1 : 1 ≤ c) (h2 : c ≤ 64) : ∃ C : Array Value, C.toList = vals (List.replicate (c.toNat * 512) 0) ∧
    Sem.run Try.prog (Instr.makeSlice 48 (.int .i64 c) (.int .i64 c)) w = .ok (.slice (some ⟨w.heap.size, 0, none⟩) c.toNat c.toNat) (w.alloc (.cells C 52)) := by
  obtain ⟨i0, hi, hinf⟩ := Option.map_eq_some_iff.1 Try.info52z
  simp only [Prod.mk.injEq] at hinf
  obtain ⟨hz0, hz1, hz2⟩ := hinf
  have hmk := run_make (P := Try.prog) w 48 52 i0 _ Try.underlying48 hi hz0 .i64 .i64 c c (by omega) (by omega) (by rw [hz2]; omega) (by omega)
  rw [hz1] at hmk
  exact ⟨_, madeZeros _, hmk⟩
theorem new_of {w : World} {C : Array Value} {n : Nat} (hC : C.toList = vals (List.replicate (n * 512) 0)) (h1 : 1 ≤ n) (h2 : n ≤ 64) :
    PMem ((w.alloc (.cells C 52)).alloc (.cells #[.slice (some ⟨w.heap.size, 0, none⟩) n n] 50)) (w.heap.size + 1) w.heap.size n (List.replicate (n * 512) 0) := by
  have e : (w.alloc (.cells C 52)).heap.size = w.heap.size + 1 := by simp
  refine ⟨?_, ?_, by simp, Small.zeros _, h1, h2⟩
  · have := Bk.newA (w.alloc (.cells C 52)) 50 #[.slice (some ⟨w.heap.size, 0, none⟩) n n]
    rw [e] at this
    exact this
  · have := (Bk.newA w 52 C).alloc (.cells #[.slice (some ⟨w.heap.size, 0, none⟩) n n] 50)
    rw [hC] at this
    exact this
/-- What New hands out: a memory of zeros, all of it new. -/
def NewP (w : World) (n : Nat) (e : Ending) (w' : World) : Prop :=
  ∃ p g, e = .returned (.pointer (some ⟨p, 0, none⟩)) ∧ PMem w' p g n (List.replicate (n * 512) 0) ∧ w.heap.size ≤ p ∧ w.heap.size ≤ g ∧ Kp [] w w'
set_option maxHeartbeats 400000 in
theorem new_calls (w : World) (u : Int) : Calls Try.prog 8 #[.int .i64 u] w (NewP w (unitsOf u)) := by
  by_cases h1 : u < 1
  · obtain ⟨C, hC, hmk⟩ := make_units w 1 (by omega) (by omega)
    have HC := hide hC
    have HU : Hid (unitsOf u = 1) := by unfold Hid unitsOf; omega
    clear hC
    go_enter Try.func8, Try.ntmps8
    go_wp2
    go_ret
    rw [unhide HU]
    exact ⟨_, _, rfl, new_of (unhide HC) (by omega) (by omega), by simp, by simp, ((Kp.refl _ _).alloc _).alloc _⟩
  · by_cases h2 : u ≤ 64
    · obtain ⟨C, hC, hmk⟩ := make_units w u (by omega) (by omega)
      have HC := hide hC
      have HU : Hid (unitsOf u = u.toNat) := by unfold Hid unitsOf; omega
      clear hC
      go_enter Try.func8, Try.ntmps8
      go_wp2
      go_ret
      rw [unhide HU]
      exact ⟨_, _, rfl, new_of (unhide HC) (by omega) (by omega), by simp, by simp, ((Kp.refl _ _).alloc _).alloc _⟩
    · obtain ⟨C, hC, hmk⟩ := make_units w 64 (by omega) (by omega)
      have HC := hide hC
      have HU : Hid (unitsOf u = 64) := by unfold Hid unitsOf; omega
      clear hC
      go_enter Try.func8, Try.ntmps8
      go_wp2
      go_ret
      rw [unhide HU]
      exact ⟨_, _, rfl, new_of (unhide HC) (by omega) (by omega), by simp, by simp, ((Kp.refl _ _).alloc _).alloc _⟩

/-- Bytes handed out, all new. -/
def BytesP (w : World) (n : Nat) (cs : List Nat) (e : Ending) (w' : World) : Prop :=
  ∃ h, e = .returned (.slice (some ⟨h, 0, none⟩) n n) ∧ cs.length = n ∧ Bk w' h 5 (vals cs) ∧ w.heap.size ≤ h ∧ Kp [] w w'
def ReadP (w : World) (n : Nat) (cs : List Nat) (e : Ending) (w' : World) : Prop :=
  ∃ h, e = .returned (.tuple #[.slice (some ⟨h, 0, none⟩) n n, .bool true]) ∧ cs.length = n ∧ Bk w' h 5 (vals cs) ∧ w.heap.size ≤ h ∧ Kp [] w w'
/-- Where a unit's bytes begin. -/
def at_ (u off : Int) : Nat := ((u - 1) * 512 + off).toNat
theorem read_no {w : World} {p g n : Nat} {bs : List Nat} (h : PMem w p g n bs) (u off k : Int) (ho : off ≤ 9223372036854775807) (hi : inside n u off k = false) :
    Calls Try.prog 12 #[.pointer (some ⟨p, 0, none⟩), .int .i64 u, .int .i64 off, .int .i64 k] w fun e w' => e = .returned (.tuple #[.slice none 0 0, .bool false]) ∧ w' = w := by
  have H := hide (within_calls h u off k ho)
  rw [hi] at H
  clear h hi
  go_enter Try.func12, Try.ntmps12
  go_wp2_with fail
  refine (unhide H).mono ?_
  rintro e w' ⟨rfl, rfl⟩
  go_wp2
  go_ret2
  exact ⟨rfl, rfl⟩
/-- A unit's slice from off on: where its bytes begin (of no bytes: the unit's own beginning). -/
def cutOff (off : Nat) : Nat := if off = 512 then 0 else off
theorem slice_unit (w : World) (g o off : Nat) (h : off ≤ 512) : Sem.run Try.prog (Instr.sliceAt 52 (.pointer (some ⟨g, o, none⟩)) (some (.int .i64 (off : Int))) none none) w = .ok (.slice (some ⟨g, o + cutOff off, none⟩) (512 - off) (512 - off)) w := by
  have hu := Try.underlying52
  have hs := Try.isize5
  cases hq : Try.prog.info? 5 with
  | none => simp [hq] at hs
  | some i =>
    have hi : i.size = 1 := by simpa [hq] using hs
    by_cases e : off = 512
    · subst e
      simp [Instr.sliceAt, Instr.sureAddr, run_underlying hu, Instr.sliceBounds, Instr.sliceBound, asIntOf, sizeOf, typeInfo, hq, cutOff]
    · have e' : ¬ 512 = off := fun h => e h.symm
      simp [Instr.sliceAt, Instr.sureAddr, run_underlying hu, Instr.sliceBounds, Instr.sliceBound, asIntOf, sizeOf, typeInfo, hq, hi, cutOff, e, e', h, Addr.add_mid]
theorem copy_run {w : World} {D T o : Nat} {old : List Value} (hD : Bk w D T old) (dLen dCap : Nat) (a : Option Addr) (sLen sCap : Nat) (cs : List Nat) (hn : cs.length = Nat.min sLen dLen) (hr : Row w a cs) (hfit : o + cs.length ≤ old.length) :
    Sem.run Try.prog (Builtin.copy_ #[35, 35] 3 #[.slice (some ⟨D, o, none⟩) dLen dCap, .slice a sLen sCap]) w = .ok (.int .i64 (cs.length : Int)) (w.setRow D (old.take o ++ vals cs ++ old.drop (o + cs.length)).toArray) := by
  by_cases hz : cs.length = 0
  · have hb0 : cs = [] := List.eq_nil_of_length_eq_zero hz
    subst hb0
    have hrun := run_copy_none (P := Try.prog) w 35 35 3 5 (some ⟨D, o, none⟩) a dLen dCap sLen sCap Try.underlying35 Try.isize5 (by rw [← hn]; rfl)
    have e : (old.take o ++ vals [] ++ old.drop (o + ([] : List Nat).length)) = old := by simp [vals]
    rw [hrun, e, setRow_self w D old.toArray T (0, 0) hD]
    rfl
  · obtain ⟨ad, rfl, hsrc⟩ := hr.src (by omega)
    have hrun := run_copy_row (P := Try.prog) w 35 35 3 5 D o dLen dCap ad sLen sCap old.toArray T (vals cs) Try.underlying35 Try.isize5 hD (by rw [vals_len]; exact hn) hsrc (by rw [vals_len]; simpa using hfit) (vals_one cs)
    rw [vals_len] at hrun
    rw [hrun]
    rfl
theorem at_nat (u : Nat) (off : Nat) : at_ ((u : Int) + 1) (off : Int) = u * 512 + off := by unfold at_; omega
theorem at_of (u off : Int) (h1 : 1 ≤ u) (h2 : 0 ≤ off) : ((u - 1).toNat * 512 + off.toNat) = at_ u off := by unfold at_; omega
theorem at_fit {n : Nat} {u off k : Int} (hi : inside n u off k = true) : at_ u off + k.toNat ≤ n * 512 := by
  obtain ⟨u1, u2, o1, k1, k2⟩ := (inside_iff n u off k).1 hi
  unfold at_; omega
set_option maxHeartbeats 400000 in
theorem read_yes {w : World} {p g n : Nat} {bs : List Nat} (h : PMem w p g n bs) (u off k : Int) (ho : off ≤ 9223372036854775807) (hi : inside n u off k = true) :
    Calls Try.prog 12 #[.pointer (some ⟨p, 0, none⟩), .int .i64 u, .int .i64 off, .int .i64 k] w (ReadP w k.toNat (seg bs (at_ u off) k.toNat)) := by
  have H := hide (within_calls h u off k ho)
  rw [hi] at H
  have hfit := at_fit hi
  rw [← h.len] at hfit
  obtain ⟨u1, u2, o1, k1, k2⟩ := (inside_iff n u off k).1 hi
  clear hi
  obtain ⟨k, rfl⟩ := Int.eq_ofNat_of_zero_le k1
  obtain ⟨off, rfl⟩ := Int.eq_ofNat_of_zero_le o1
  obtain ⟨v, rfl⟩ : ∃ v : Nat, u = (v : Int) + 1 := ⟨(u - 1).toNat, by omega⟩
  have hmk := run_make_row' (P := Try.prog) 35 5 (.int .u8 0) 1 Try.underlying35 Try.info5' rfl .i64 .i64 k (by omega) (by omega)
  obtain ⟨C, hC, hCs⟩ : ∃ C : Array Value, madeCells #[Value.int .u8 0] k = C ∧ C.size = k := ⟨_, rfl, size_madeCells _ _⟩
  rw [hC] at hmk
  clear hC
  have hsl := slice_unit (w.alloc (.cells C 5)) g (v * 512) off (by omega)
  rw [at_nat] at hfit
  rw [at_nat, Int.toNat_natCast]
  have hfit' : v * 512 + off + k ≤ bs.length := by simpa using hfit
  clear hfit
  have hsg := seg_len bs (v * 512 + off) k hfit'
  have hrow : Row (w.alloc (.cells C 5)) (some ⟨g, v * 512 + cutOff off, none⟩) (seg bs (v * 512 + off) k) := by
    by_cases e : off = 512
    · have : k = 0 := by omega
      subst this
      exact Row.none _ _
    · have := (h.body.alloc (.cells C 5)).row h.small (v * 512 + off) k hfit' (by omega)
      simpa [cutOff, e] using this
  have hcp := copy_run (o := 0) (Bk.newA w 5 C) k k _ (512 - off) (512 - off) (seg bs (v * 512 + off) k) (by rw [hsg]; exact (Nat.min_eq_right (by omega)).symm) hrow (by rw [hsg]; simp [hCs])
  have e0 : (C.toList.take 0 ++ vals (seg bs (v * 512 + off) k) ++ C.toList.drop (0 + (seg bs (v * 512 + off) k).length)) = vals (seg bs (v * 512 + off) k) := by
    rw [List.drop_of_length_le (by rw [hsg]; simp [hCs])]; simp
  rw [e0] at hcp
  have HB : Hid (Bk ((w.alloc (.cells C 5)).setRow w.heap.size (vals (seg bs (v * 512 + off) k)).toArray) w.heap.size 5 (vals (seg bs (v * 512 + off) k))) := (Bk.newA w 5 C).setRow _
  have HK : Hid (Kp [] w ((w.alloc (.cells C 5)).setRow w.heap.size (vals (seg bs (v * 512 + off) k)).toArray)) := ((Kp.refl [] w).alloc _).setRow (.inr (Nat.le_refl _)) _
  obtain ⟨W2, hW2⟩ : ∃ W2, (w.alloc (.cells C 5)).setRow w.heap.size (vals (seg bs (v * 512 + off) k)).toArray = W2 := ⟨_, rfl⟩
  rw [hW2] at hcp HB HK
  have HG := hide hsg
  rw [hsg] at hcp
  have hc : w.cell? ⟨p, 0, none⟩ = some (.slice (some ⟨g, 0, none⟩) n n) := h.head.cell rfl
  have hlt : p < w.heap.size := h.head.lt
  have hn : (n : Int) ≤ 64 := by have := h.high; omega
  clear h hsg hrow e0 hW2 hfit'
  go_enter Try.func12, Try.ntmps12
  go_wp2_with fail
  refine (unhide H).mono ?_
  rintro e w' ⟨rfl, rfl⟩
  go_wp2
  go_ret2
  exact ⟨w'.heap.size, rfl, unhide HG, unhide HB, Nat.le_refl _, unhide HK⟩

/-- What becomes of a memory. -/
def WroteP (w : World) (p g n : Nat) (bs : List Nat) (e : Ending) (w' : World) : Prop := e = .returned (.bool true) ∧ PMem w' p g n bs ∧ Kp [g] w w'
set_option maxHeartbeats 400000 in
theorem write_no {w : World} {p g n : Nat} {bs : List Nat} (h : PMem w p g n bs) (u off : Int) (a : Option Addr) (len cap : Nat) (ho : off ≤ 9223372036854775807) (hi : inside n u off len = false) :
    Calls Try.prog 18 #[.pointer (some ⟨p, 0, none⟩), .int .i64 u, .int .i64 off, .slice a len cap] w fun e w' => e = .returned (.bool false) ∧ w' = w := by
  have H := hide (within_calls h u off len ho)
  rw [hi] at H
  clear h hi
  go_enter Try.func18, Try.ntmps18
  go_wp2_with fail
  refine (unhide H).mono ?_
  rintro e w' ⟨rfl, rfl⟩
  go_wp2
  go_ret
  exact ⟨rfl, rfl⟩
set_option maxHeartbeats 400000 in
theorem write_yes {w : World} {p g n : Nat} {bs : List Nat} (h : PMem w p g n bs) (u off : Int) (a : Option Addr) (len cap : Nat) (cs : List Nat) (hl : cs.length = len) (hr : Row w a cs) (ho : off ≤ 9223372036854775807) (hi : inside n u off len = true) :
    Calls Try.prog 18 #[.pointer (some ⟨p, 0, none⟩), .int .i64 u, .int .i64 off, .slice a len cap] w (WroteP w p g n (splice bs (at_ u off) cs)) := by
  subst hl
  have H := hide (within_calls h u off cs.length ho)
  rw [hi] at H
  have hfit := at_fit hi
  rw [← h.len] at hfit
  obtain ⟨u1, u2, o1, k1, k2⟩ := (inside_iff n u off cs.length).1 hi
  clear hi
  obtain ⟨off, rfl⟩ := Int.eq_ofNat_of_zero_le o1
  obtain ⟨v, rfl⟩ : ∃ v : Nat, u = (v : Int) + 1 := ⟨(u - 1).toNat, by omega⟩
  have hsl := slice_unit w g (v * 512) off (by omega)
  rw [at_nat] at hfit
  rw [at_nat]
  have hfit' : v * 512 + off + cs.length ≤ bs.length := by simpa using hfit
  clear hfit
  have hsp : splice bs (v * 512 + cutOff off) cs = splice bs (v * 512 + off) cs := by
    by_cases e : off = 512
    · have : cs = [] := List.eq_nil_of_length_eq_zero (by omega)
      subst this
      simp [splice]
    · simp [cutOff, e]
  have hco : cutOff off ≤ off := by unfold cutOff; split <;> omega
  have hcp := copy_run (o := v * 512 + cutOff off) h.body (512 - off) (512 - off) a cs.length cap cs (Nat.min_eq_left (by omega)).symm hr (by rw [vals_len]; omega)
  rw [vals_splice, hsp] at hcp
  have HM : Hid (PMem (w.setRow g (vals (splice bs (v * 512 + off) cs)).toArray) p g n (splice bs (v * 512 + off) cs)) :=
    ⟨h.head.kept ((Kp.refl [g] w).setRow (.inl (by simp)) _) (by simpa using h.ne), h.body.setRow _, by rw [splice_len _ _ _ hfit']; exact h.len, splice_small h.small hr.1 _, h.low, h.high⟩
  have HK : Hid (Kp [g] w (w.setRow g (vals (splice bs (v * 512 + off) cs)).toArray)) := (Kp.refl [g] w).setRow (.inl (by simp)) _
  obtain ⟨W2, hW2⟩ : ∃ W2, w.setRow g (vals (splice bs (v * 512 + off) cs)).toArray = W2 := ⟨_, rfl⟩
  rw [hW2] at hcp HM HK
  have hc : w.cell? ⟨p, 0, none⟩ = some (.slice (some ⟨g, 0, none⟩) n n) := h.head.cell rfl
  have hn : (n : Int) ≤ 64 := by have := h.high; omega
  clear h hsp hco hW2 hfit' hr
  go_enter Try.func18, Try.ntmps18
  go_wp2_with fail
  refine (unhide H).mono ?_
  rintro e w' ⟨rfl, rfl⟩
  go_wp2
  go_ret
  exact ⟨rfl, unhide HM, unhide HK⟩
set_option maxHeartbeats 400000 in
theorem zero_no {w : World} {p g n : Nat} {bs : List Nat} (h : PMem w p g n bs) (u : Int) (hu : ¬ (1 ≤ u ∧ u ≤ (n : Int))) :
    Calls Try.prog 15 #[.pointer (some ⟨p, 0, none⟩), .int .i64 u] w fun e w' => e = .returned (.bool false) ∧ w' = w := by
  have H := has_calls h u
  have d1 : decide (1 ≤ u ∧ u ≤ (n : Int)) = false := by simpa using hu
  rw [d1] at H
  replace H := hide H
  clear h hu d1
  go_enter Try.func15, Try.ntmps15
  go_wp2_with fail
  refine (unhide H).mono ?_
  rintro e w' ⟨rfl, rfl⟩
  go_wp2
  go_ret
  exact ⟨rfl, rfl⟩
theorem setCells_setRow (g : Nat) (T : TypeId) : ∀ (vs : List Value) (o : Nat) (w : World) (old : List Value), Bk w g T old → o + vs.length ≤ old.length → w.setCells g o vs = w.setRow g (old.take o ++ vs ++ old.drop (o + vs.length)).toArray
  | [], o, w, old, h, _ => by
    have e : (old.take o ++ [] ++ old.drop (o + ([] : List Value).length)) = old := by simp
    rw [e, World.setCells, setRow_self w g old.toArray T (0, 0) h]
  | v :: r, o, w, old, h, hl => by
    simp only [List.length_cons] at hl
    rw [World.setCells, setCells_setRow g T r (o + 1) _ _ (h.set o v) (by simp; omega), setCell_eq_setRow w g o old.toArray T (0, 0) v h, setRow_setRow]
    congr 2
    have e := list_seg_step old o v r (by omega)
    simpa [Nat.add_assoc] using e
theorem Try.isize52 : (Try.prog.info? 52).map (·.size) = some 512 := by kernel_rfl
theorem zero_value52 (w : World) : Sem.run Try.prog (zeroValue 52) w = .ok (.agg (Array.replicate 512 (.int .u8 0))) w := by
  obtain ⟨i0, hi, hinf⟩ := Option.map_eq_some_iff.1 Try.info52z
  simp only [Prod.mk.injEq] at hinf
  simp [zeroValue, typeInfo, hi, hinf.1]
theorem zeros_arr (n : Nat) : Array.replicate n (Value.int .u8 0) = (vals (List.replicate n 0)).toArray := by rw [← vals_zeros]; simp
theorem zeros_of (n : Nat) : ∃ cs : List Nat, List.replicate n 0 = cs ∧ cs.length = n ∧ Small cs ∧ Array.replicate n (Value.int .u8 0) = (vals cs).toArray := ⟨_, rfl, by simp, Small.zeros _, zeros_arr n⟩
set_option maxHeartbeats 400000 in
theorem zero_yes {w : World} {p g n : Nat} {bs : List Nat} (h : PMem w p g n bs) (u : Int) (hu : 1 ≤ u ∧ u ≤ (n : Int)) :
    Calls Try.prog 15 #[.pointer (some ⟨p, 0, none⟩), .int .i64 u] w (WroteP w p g n (splice bs (at_ u 0) (List.replicate 512 0))) := by
  have H := has_calls h u
  have d1 : decide (1 ≤ u ∧ u ≤ (n : Int)) = true := by simpa using hu
  rw [d1] at H
  replace H := hide H
  clear d1
  obtain ⟨u1, u2⟩ := hu
  obtain ⟨v, rfl⟩ : ∃ v : Nat, u = (v : Int) + 1 := ⟨(u - 1).toNat, by omega⟩
  have hc : w.cell? ⟨p, 0, none⟩ = some (.slice (some ⟨g, 0, none⟩) n n) := h.head.cell rfl
  have hn : (n : Int) ≤ 64 := by have := h.high; omega
  have hl := h.len
  have hbd := zero_value52
  have hsz := Try.isize52
  obtain ⟨cs, hcs, hcl, hcsm, hZ⟩ := zeros_of 512
  rw [hcs]
  rw [hZ] at hbd
  clear hZ hcs
  have hat : at_ ((v : Int) + 1) 0 = v * 512 := by unfold at_; omega
  rw [hat]
  have hfit : v * 512 + cs.length ≤ bs.length := by omega
  have hst := run_storeCells_cells (P := Try.prog) g (v * 512) (vals cs) 0 w
    (fun j hj => by
      rw [vals_len, hcl] at hj
      rw [Nat.add_zero, h.body.cell (vals_get bs (v * 512 + j) (by omega))]; rfl)
    (fun j _ => h.body.frozen _) (vals_one cs)
  rw [Nat.add_zero] at hst
  have e1 := setCells_setRow g 52 (vals cs) (v * 512) w (vals bs) h.body (by rw [vals_len, vals_len]; exact hfit)
  rw [vals_len, vals_splice] at e1
  rw [e1] at hst
  have HM : Hid (PMem (w.setRow g (vals (splice bs (v * 512) cs)).toArray) p g n (splice bs (v * 512) cs)) :=
    ⟨h.head.kept ((Kp.refl [g] w).setRow (.inl (by simp)) _) (by simpa using h.ne), h.body.setRow _, by rw [splice_len _ _ _ hfit]; exact h.len, splice_small h.small hcsm _, h.low, h.high⟩
  have HK : Hid (Kp [g] w (w.setRow g (vals (splice bs (v * 512) cs)).toArray)) := (Kp.refl [g] w).setRow (.inl (by simp)) _
  obtain ⟨W2, hW2⟩ : ∃ W2, w.setRow g (vals (splice bs (v * 512) cs)).toArray = W2 := ⟨_, rfl⟩
  rw [hW2] at hst HM HK
  obtain ⟨Z, hZ, hZl, hZs⟩ : ∃ Z : Array Value, (vals cs).toArray = Z ∧ vals cs = Z.toList ∧ Z.size = 512 := ⟨_, rfl, rfl, by rw [List.size_toArray, vals_len, hcl]⟩
  rw [hZ] at hbd
  rw [hZl] at hst
  clear h hsz hZ hZl hcl hcsm hat hfit e1 hW2 hl
  go_enter Try.func15, Try.ntmps15
  go_wp2_with fail
  refine (unhide H).mono ?_
  rintro e w' ⟨rfl, rfl⟩
  go_wp2
  go_ret
  exact ⟨rfl, unhide HM, unhide HK⟩
set_option maxHeartbeats 400000 in
theorem bytes_no {w : World} {p g n : Nat} {bs : List Nat} (h : PMem w p g n bs) (u : Int) (hu : ¬ (1 ≤ u ∧ u ≤ (n : Int))) :
    Calls Try.prog 20 #[.pointer (some ⟨p, 0, none⟩), .int .i64 u] w fun e w' => e = .returned (.slice none 0 0) ∧ w' = w := by
  have H := hide (read_no h u 0 512 (by omega) (by rw [inside_not]; omega))
  clear h hu
  go_enter Try.func20, Try.ntmps20
  go_wp2_with fail
  refine (unhide H).mono ?_
  rintro e w' ⟨rfl, rfl⟩
  go_wp2
  go_ret
  exact ⟨rfl, rfl⟩
set_option maxHeartbeats 400000 in
theorem bytes_yes {w : World} {p g n : Nat} {bs : List Nat} (h : PMem w p g n bs) (u : Int) (hu : 1 ≤ u ∧ u ≤ (n : Int)) :
    Calls Try.prog 20 #[.pointer (some ⟨p, 0, none⟩), .int .i64 u] w (BytesP w 512 (seg bs (at_ u 0) 512)) := by
  have H := hide (read_yes h u 0 512 (by omega) (by rw [inside_iff]; omega))
  clear h hu
  go_enter Try.func20, Try.ntmps20
  go_wp2_with fail
  refine (unhide H).mono ?_
  rintro e w' ⟨h, rfl, h1, h2, h3, h4⟩
  have e512 : (512 : Int).toNat = 512 := rfl
  rw [e512] at h1 h2
  replace h1 := hide h1
  replace h2 := hide h2
  go_wp2
  go_ret
  exact ⟨h, rfl, unhide h1, unhide h2, h3, h4⟩
end Go.Proofs.Ytidbnbdijjhmgaa
