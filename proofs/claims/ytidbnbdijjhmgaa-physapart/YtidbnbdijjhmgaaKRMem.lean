/- The document's own memory beside package phys: what each of its functions does, told over the same bytes. -/
import Derived.Test.YtidbnbdijjhmgaaKPhys
import Derived.Deep.RegionHeld3
import Derived.Deep.AppendLies
import Derived.Deep.LoopGhost
namespace Go.Proofs.Ytidbnbdijjhmgaa
open Go.RowKit
set_option linter.unusedVariables false
/-- The headers of the units' slices. -/
def heads (L : List Nat) : List Value := L.map fun g => Value.slice (some ⟨g, 0, none⟩) 512 512
theorem heads_get (L : List Nat) (i : Nat) (h : i < L.length) : (heads L)[i]? = some (.slice (some ⟨L.getD i 0, 0, none⟩) 512 512) := by
  simp [heads, List.getD_eq_getElem?_getD, h]
theorem heads_set (L : List Nat) (i g : Nat) : (heads L).set i (.slice (some ⟨g, 0, none⟩) 512 512) = heads (L.set i g) := by simp [heads, List.map_set]
/-- The document's memory: its struct in block q, the units' headers in block h, each unit's bytes in a block of L. -/
structure RMem (w : World) (q h n c : Nat) (L bs : List Nat) : Prop where
  head : Bk w q 31 [.slice (some ⟨h, 0, none⟩) n c]
  rows : ∃ rest, Bk w h 35 (heads L ++ rest)
  count : L.length = n
  each : ∀ i, i < n → Bk w (L.getD i 0) 5 (vals (seg bs (i * 512) 512))
  apart : ∀ i j, i < n → j < n → L.getD i 0 = L.getD j 0 → i = j
  len : bs.length = n * 512
  small : Small bs
  low : 1 ≤ n
  high : n ≤ 64
theorem RMem.kept {S : List Nat} {w w' : World} {q h n c : Nat} {L bs : List Nat} (m : RMem w q h n c L bs) (k : Kp S w w') (hq : q ∉ S) (hh : h ∉ S) (hL : ∀ i, i < n → L.getD i 0 ∉ S) : RMem w' q h n c L bs := by
  obtain ⟨rest, hr⟩ := m.rows
  exact ⟨m.head.kept k hq, ⟨rest, hr.kept k hh⟩, m.count, fun i hi => (m.each i hi).kept k (hL i hi), m.apart, m.len, m.small, m.low, m.high⟩
theorem RMem.new {w w' : World} {q h n c : Nat} {L bs : List Nat} (m : RMem w q h n c L bs) (k : Kp [] w w') : RMem w' q h n c L bs := m.kept k (by simp) (by simp) (by simp)
theorem RMem.drewN {w : World} {q h n c : Nat} {L bs : List Nat} (m : RMem w q h n c L bs) (k : Nat) : RMem (w.drewN k) q h n c L bs := m.new ((Kp.refl [] w).drewN k)
/-- What is written in the program's memory is not in the document's. -/
theorem RMem.beside {w w' : World} {q h n c : Nat} {L bs : List Nat} (m : RMem w q h n c L bs) {p g n' : Nat} {bs' : List Nat} (x : PMem w p g n' bs') (k : Kp [g] w w') : RMem w' q h n c L bs := by
  obtain ⟨rest, hr⟩ := m.rows
  exact m.kept k (by simpa using m.head.apart x.body (by decide)) (by simpa using hr.apart x.body (by decide)) (fun i hi => by simpa using (m.each i hi).apart x.body (by decide))
theorem PMem.beside {w w' : World} {q h n c : Nat} {L bs : List Nat} (m : RMem w q h n c L bs) {p g n' : Nat} {bs' : List Nat} (x : PMem w p g n' bs') (k : Kp (h :: L) w w') : PMem w' p g n' bs' := by
  obtain ⟨rest, hr⟩ := m.rows
  have hp : ∀ y ∈ h :: L, p ≠ y ∧ g ≠ y := by
    intro y hy
    rcases List.mem_cons.1 hy with rfl | hy
    · exact ⟨x.head.apart hr (by decide), x.body.apart hr (by decide)⟩
    · obtain ⟨i, hi, rfl⟩ := List.mem_iff_getElem.1 hy
      have := m.each i (by rw [← m.count]; exact hi)
      rw [List.getD_eq_getElem?_getD, List.getElem?_eq_getElem hi] at this
      exact ⟨x.head.apart this (by decide), x.body.apart this (by decide)⟩
  exact x.kept k (fun hm => (hp p hm).1 rfl) (fun hm => (hp g hm).2 rfl)
set_option maxHeartbeats 400000 in
theorem rwithin_calls {w : World} {q h n c : Nat} {L bs : List Nat} (m : RMem w q h n c L bs) (u off k : Int) (ho : off ≤ 9223372036854775807) :
    Calls Try.prog 25 #[.pointer (some ⟨q, 0, none⟩), .int .i64 u, .int .i64 off, .int .i64 k] w fun e w' => e = .returned (.bool (inside n u off k)) ∧ w' = w := by
  have hc : w.cell? ⟨q, 0, none⟩ = some (.slice (some ⟨h, 0, none⟩) n c) := m.head.cell rfl
  clear m
  by_cases h1 : 1 ≤ u
  · by_cases h2 : u ≤ (n : Int)
    · by_cases h3 : 0 ≤ off
      · by_cases h4 : off ≤ 512
        · by_cases h5 : 0 ≤ k
          · go_enter Try.func25, Try.ntmps25
            go_wp2
            go_ret
            exact ⟨ret_bool (by unfold inside; rw [Bool.eq_iff_iff]; simp; omega), rfl⟩
          · have d : decide (0 ≤ k) = false := by simpa using h5
            go_enter Try.func25, Try.ntmps25
            go_wp2
            go_ret
            exact ⟨ret_bool (by unfold inside; simp; omega), rfl⟩
        · have d : decide (off ≤ 512) = false := by simpa using h4
          go_enter Try.func25, Try.ntmps25
          go_wp2
          go_ret
          exact ⟨ret_bool (by unfold inside; simp; omega), rfl⟩
      · have d : decide (0 ≤ off) = false := by simpa using h3
        go_enter Try.func25, Try.ntmps25
        go_wp2
        go_ret
        exact ⟨ret_bool (by unfold inside; simp; omega), rfl⟩
    · have d : decide (u ≤ (n : Int)) = false := by simpa using h2
      go_enter Try.func25, Try.ntmps25
      go_wp2
      go_ret
      exact ⟨ret_bool (by unfold inside; simp; omega), rfl⟩
  · have d : decide (1 ≤ u) = false := by simpa using h1
    go_enter Try.func25, Try.ntmps25
    go_wp2
    go_ret
    exact ⟨ret_bool (by unfold inside; simp; omega), rfl⟩
def RReadP (w : World) (n : Nat) (cs : List Nat) (e : Ending) (w' : World) : Prop :=
  ∃ a c, e = .returned (.tuple #[.slice a n c, .bool true]) ∧ cs.length = n ∧ Row w' a cs ∧ Kp [] w w'
def RBytesP (w : World) (n : Nat) (cs : List Nat) (e : Ending) (w' : World) : Prop :=
  ∃ a c, e = .returned (.slice a n c) ∧ cs.length = n ∧ Row w' a cs ∧ Kp [] w w'
set_option maxHeartbeats 400000 in
theorem rread_no {w : World} {q h n c : Nat} {L bs : List Nat} (m : RMem w q h n c L bs) (u off k : Int) (ho : off ≤ 9223372036854775807) (hi : inside n u off k = false) :
    Calls Try.prog 13 #[.pointer (some ⟨q, 0, none⟩), .int .i64 u, .int .i64 off, .int .i64 k] w fun e w' => e = .returned (.tuple #[.slice none 0 0, .bool false]) ∧ w' = w := by
  have H := hide (rwithin_calls m u off k ho)
  rw [hi] at H
  clear m hi
  go_enter Try.func13, Try.ntmps13
  go_wp2_with fail
  refine (unhide H).mono ?_
  rintro e w' ⟨rfl, rfl⟩
  go_wp2
  go_ret2
  exact ⟨rfl, rfl⟩
theorem seg_seg (bs : List Nat) (a o n k : Nat) (h : o + k ≤ n) : seg (seg bs a n) o k = seg bs (a + o) k := by
  unfold seg
  rw [List.drop_take, List.take_take, List.drop_drop, Nat.min_eq_left (by omega)]
set_option maxRecDepth 4000 in
set_option maxHeartbeats 400000 in
theorem rread_yes {w : World} {q h n c : Nat} {L bs : List Nat} (m : RMem w q h n c L bs) (u off k : Int) (ho : off ≤ 9223372036854775807) (hi : inside n u off k = true) :
    Calls Try.prog 13 #[.pointer (some ⟨q, 0, none⟩), .int .i64 u, .int .i64 off, .int .i64 k] w (RReadP w k.toNat (seg bs (at_ u off) k.toNat)) := by
  have H := hide (rwithin_calls m u off k ho)
  rw [hi] at H
  have hfit := at_fit hi
  rw [← m.len] at hfit
  obtain ⟨u1, u2, o1, k1, k2⟩ := (inside_iff n u off k).1 hi
  clear hi
  obtain ⟨k, rfl⟩ := Int.eq_ofNat_of_zero_le k1
  obtain ⟨off, rfl⟩ := Int.eq_ofNat_of_zero_le o1
  obtain ⟨v, rfl⟩ : ∃ v : Nat, u = (v : Int) + 1 := ⟨(u - 1).toNat, by omega⟩
  rw [at_nat, Int.toNat_natCast] at hfit
  rw [at_nat, Int.toNat_natCast]
  have hv : v < n := by omega
  have hsl := hide (seg_len bs (v * 512 + off) k hfit)
  have hsm := hide (seg_small m.small (v * 512 + off) k)
  have hb := m.each v hv
  have hu512 : (seg bs (v * 512) 512).length = 512 := seg_len _ _ _ (by have := m.len; omega)
  obtain ⟨rest, hrw⟩ := m.rows
  have hc : w.cell? ⟨q, 0, none⟩ = some (.slice (some ⟨h, 0, none⟩) n c) := m.head.cell rfl
  have hc2 : w.cell? ⟨h, v, none⟩ = some (.slice (some ⟨L.getD v 0, 0, none⟩) 512 512) := hrw.cell (by rw [List.getElem?_append_left (by simp [heads, m.count]; exact hv)]; exact heads_get L v (by rw [m.count]; exact hv))
  have hn : (n : Int) ≤ 64 := by have := m.high; omega
  obtain ⟨B, hB⟩ : ∃ B, L.getD v 0 = B := ⟨_, rfl⟩
  rw [hB] at hc2 hb
  have hrow : ∀ o', (o' = if off = 512 then 0 else off) → Row w (some ⟨B, o', none⟩) (seg bs (v * 512 + off) k) := by
    intro o' ho'
    by_cases e : off = 512
    · have : k = 0 := by omega
      subst this
      exact Row.none _ _
    · rw [if_neg e] at ho'
      rw [ho']
      have := hb.row (seg_small m.small _ _) off k (by omega) (by omega)
      rwa [seg_seg _ _ _ _ _ (by omega)] at this
  clear m hrw hfit hB hb hu512
  by_cases e : off = 512
  · have HR := hide (hrow 0 (by simp [e]))
    have k0 : k = 0 := by omega
    subst e
    subst k0
    clear hrow
    go_enter Try.func13, Try.ntmps13
    go_wp2_with fail
    refine (unhide H).mono ?_
    rintro e w' ⟨rfl, rfl⟩
    go_wp2_with fail
    refine (bytes_calls _ _ [] _ (Row.none _ _) (by simp)).mono ?_
    rintro e W1 ⟨b, cc, rfl, hown, hbel⟩
    have hs0 : seg bs (v * 512 + 512) 0 = [] := by simp [seg]
    have HB := hide hbel
    clear hown hbel
    go_wp2
    go_ret2
    exact ⟨_, cc, rfl, by rw [hs0]; rfl, by rw [hs0]; exact Row.none _ _, Kp.ofBelow (unhide HB) _⟩
  · have HR := hide (hrow off (by simp [e]))
    have e' : ¬ 512 = off := fun h => e h.symm
    clear hrow
    obtain ⟨cs, hcs⟩ : ∃ cs, seg bs (v * 512 + off) k = cs := ⟨_, rfl⟩
    rw [hcs] at HR hsl hsm ⊢
    clear hcs
    have HBY := unhide hsl ▸ bytes_calls (some ⟨B, off, none⟩) (512 - off) cs w (unhide HR) (by rw [unhide hsl]; omega)
    replace HBY := hide HBY
    go_enter Try.func13, Try.ntmps13
    go_wp2_with fail
    refine (unhide H).mono ?_
    rintro e w' ⟨rfl, rfl⟩
    go_wp2_with fail
    refine (unhide HBY).mono ?_
    rintro e W1 ⟨b, cc, rfl, hown, hbel⟩
    have HB := hide hbel
    have HO := hide hown
    clear hown hbel
    go_wp2
    go_ret2
    exact ⟨_, cc, rfl, unhide hsl, Owns.row (unhide HO) (unhide hsm) (by rw [unhide hsl]; omega), Kp.ofBelow (unhide HB) _⟩
set_option maxHeartbeats 400000 in
theorem rbytes_no {w : World} {q h n c : Nat} {L bs : List Nat} (m : RMem w q h n c L bs) (u : Int) (hu : ¬ (1 ≤ u ∧ u ≤ (n : Int))) :
    Calls Try.prog 21 #[.pointer (some ⟨q, 0, none⟩), .int .i64 u] w fun e w' => e = .returned (.slice none 0 0) ∧ w' = w := by
  have H := hide (rread_no m u 0 512 (by omega) (by rw [inside_not]; omega))
  clear m hu
  go_enter Try.func21, Try.ntmps21
  go_wp2_with fail
  refine (unhide H).mono ?_
  rintro e w' ⟨rfl, rfl⟩
  go_wp2
  go_ret
  exact ⟨rfl, rfl⟩
set_option maxHeartbeats 400000 in
theorem rbytes_yes {w : World} {q h n c : Nat} {L bs : List Nat} (m : RMem w q h n c L bs) (u : Int) (hu : 1 ≤ u ∧ u ≤ (n : Int)) :
    Calls Try.prog 21 #[.pointer (some ⟨q, 0, none⟩), .int .i64 u] w (RBytesP w 512 (seg bs (at_ u 0) 512)) := by
  have H := hide (rread_yes m u 0 512 (by omega) (by rw [inside_iff]; omega))
  clear m hu
  go_enter Try.func21, Try.ntmps21
  go_wp2_with fail
  refine (unhide H).mono ?_
  rintro e w' ⟨a, cc, rfl, h1, h2, h4⟩
  have e512 : (512 : Int).toNat = 512 := rfl
  rw [e512] at h1 h2
  replace h1 := hide h1
  replace h2 := hide h2
  go_wp2
  go_ret
  exact ⟨a, cc, rfl, unhide h1, unhide h2, h4⟩
theorem make_bytes (c : Int) (n : Nat) (h : c = (n : Int)) (hn : n ≤ 100000) : ∃ C : Array Value, C.toList = vals (List.replicate n 0) ∧ ∀ w : World,
    Sem.run Try.prog (Instr.makeSlice 35 (.int .i64 c) (.int .i64 c)) w = .ok (.slice (some ⟨w.heap.size, 0, none⟩) n n) (w.alloc (.cells C 5)) := by
  subst h
  exact ⟨_, by rw [toList_madeCells_one, vals_zeros], run_make_row' (P := Try.prog) 35 5 (.int .u8 0) 1 Try.underlying35 Try.info5' rfl .i64 .i64 n (by omega) (by omega)⟩
/-- What becomes of the document's memory. -/
def RWroteP (w : World) (q h n c : Nat) (L bs : List Nat) (e : Ending) (w' : World) : Prop := ∃ L', e = .returned (.bool true) ∧ RMem w' q h n c L' bs ∧ Kp (h :: L) w w' ∧ ∀ g ∈ L', g ∈ L ∨ w.heap.size ≤ g
set_option maxHeartbeats 400000 in
theorem rzero_no {w : World} {q h n c : Nat} {L bs : List Nat} (m : RMem w q h n c L bs) (u : Int) (hu : ¬ (1 ≤ u ∧ u ≤ (n : Int))) :
    Calls Try.prog 16 #[.pointer (some ⟨q, 0, none⟩), .int .i64 u] w fun e w' => e = .returned (.bool false) ∧ w' = w := by
  have H := rwithin_calls m u 0 0 (by omega)
  rw [show inside n u 0 0 = false from by rw [inside_not]; omega] at H
  replace H := hide H
  clear m hu
  go_enter Try.func16, Try.ntmps16
  go_wp2_with fail
  refine (unhide H).mono ?_
  rintro e w' ⟨rfl, rfl⟩
  go_wp2
  go_ret
  exact ⟨rfl, rfl⟩
theorem getD_set (L : List Nat) (i j g : Nat) (h : i < L.length) : (L.set i g).getD j 0 = if i = j then g else L.getD j 0 := by
  rw [List.getD_eq_getElem?_getD, List.getD_eq_getElem?_getD, List.getElem?_set]
  split
  · rename_i e; rfl
  · rfl
set_option maxRecDepth 4000 in
theorem rzero_of {w W : World} {q h n c B : Nat} {L bs zs : List Nat} (m : RMem w q h n c L bs) (v : Nat) (hv : v < n) (K : Kp [h] w W) (hh : ∃ rest, Bk W h 35 (heads (L.set v B) ++ rest)) (hb : Bk W B 5 (vals zs)) (hB : w.heap.size ≤ B)
    (hz : zs.length = 512) (hzs : Small zs) : RMem W q h n c (L.set v B) (splice bs (v * 512) zs) := by
  obtain ⟨rest, hr⟩ := m.rows
  have hlen := m.len
  have hcnt := m.count
  have hlt : ∀ i, i < n → L.getD i 0 < w.heap.size := fun i hi => (m.each i hi).lt
  refine ⟨m.head.kept K (by simpa using m.head.apart hr (by decide)), hh, by simpa using hcnt, fun i hi => ?_, fun i j hi hj => ?_, ?_, splice_small m.small hzs _, m.low, m.high⟩
  · rw [getD_set _ _ _ _ (by omega)]
    split
    · rename_i e
      subst e
      have e2 : seg (splice bs (v * 512) zs) (v * 512) 512 = zs := by
        have := seg_splice_in bs zs (v * 512) (by omega)
        rwa [hz] at this
      rwa [e2]
    · rename_i e
      rw [seg_splice_out _ _ _ _ _ (by omega) (by omega) (by omega)]
      exact (m.each i hi).kept K (by simpa using (m.each i hi).apart hr (by decide))
  · rw [getD_set _ _ _ _ (by omega), getD_set _ _ _ _ (by omega)]
    have h1 := hlt i hi
    have h2 := hlt j hj
    have h3 := m.apart i j hi hj
    split <;> split <;> intro e <;> omega
  · rw [splice_len _ _ _ (by omega)]; exact hlen
set_option maxHeartbeats 1000000 in
theorem rzero_yes {w : World} {q h n c : Nat} {L bs : List Nat} (m : RMem w q h n c L bs) (u : Int) (hu : 1 ≤ u ∧ u ≤ (n : Int)) :
    Calls Try.prog 16 #[.pointer (some ⟨q, 0, none⟩), .int .i64 u] w (RWroteP w q h n c L (splice bs (at_ u 0) (List.replicate 512 0))) := by
  have H := rwithin_calls m u 0 0 (by omega)
  rw [show inside n u 0 0 = true from by rw [inside_iff]; omega] at H
  replace H := hide H
  obtain ⟨u1, u2⟩ := hu
  obtain ⟨v, rfl⟩ : ∃ v : Nat, u = (v : Int) + 1 := ⟨(u - 1).toNat, by omega⟩
  obtain ⟨rest, hrw⟩ := m.rows
  have hv : v < n := by omega
  have hc : w.cell? ⟨q, 0, none⟩ = some (.slice (some ⟨h, 0, none⟩) n c) := m.head.cell rfl
  have hc2 : w.cell? ⟨h, v, none⟩ = some (.slice (some ⟨L.getD v 0, 0, none⟩) 512 512) := hrw.cell (by rw [List.getElem?_append_left (by simp [heads, m.count]; exact hv)]; exact heads_get L v (by rw [m.count]; exact hv))
  have hf : w.frozen? ⟨h, v, none⟩ = false := hrw.frozen v
  have hlh : h < w.heap.size := hrw.lt
  have hlq : q < w.heap.size := m.head.lt
  have hqh : ¬ q = h := m.head.apart hrw (by decide)
  have hhq : ¬ h = q := fun e => hqh e.symm
  have hn : (n : Int) ≤ 64 := by have := m.high; omega
  have v0 : (0 : Int) ≤ (v : Int) := by omega
  have v1 : (v : Int) < (n : Int) := by omega
  have hw1 : IntKind.i64.wrap ((v : Int) + 1 - 1) = (v : Int) := by rw [IntKind.wrap_i64]; omega
  have hw2 : IntKind.i64.wrap (v : Int) = (v : Int) := by rw [IntKind.wrap_i64]; omega
  obtain ⟨C, hC, hmk⟩ := make_bytes 512 512 (by rfl) (by omega)
  obtain ⟨zs, hzs, hzl, hzsm, _⟩ := zeros_of 512
  rw [hzs] at hC
  rw [hzs, show at_ ((v : Int) + 1) 0 = v * 512 from by unfold at_; omega]
  have HM : Hid (∀ W : World, Kp [h] w W → (∃ rest, Bk W h 35 (heads (L.set v w.heap.size) ++ rest)) → Bk W w.heap.size 5 (vals zs) → RMem W q h n c (L.set v w.heap.size) (splice bs (v * 512) zs)) := fun W K hh hb => rzero_of m v hv K hh hb (Nat.le_refl _) hzl hzsm
  have HS : Hid (∃ rest, Bk (w.setCell ⟨h, v, none⟩ (.slice (some ⟨w.heap.size, 0, none⟩) 512 512)) h 35 (heads (L.set v w.heap.size) ++ rest)) := ⟨rest, by
    have := hrw.set v (.slice (some ⟨w.heap.size, 0, none⟩) 512 512)
    rwa [List.set_append_left _ _ (by simp [heads, m.count]; exact hv), heads_set] at this⟩
  have HC := hide hC
  have HL : Hid (∀ g ∈ L.set v w.heap.size, g ∈ L ∨ w.heap.size ≤ g) := fun g hg => by
    rcases List.mem_or_eq_of_mem_set hg with hg | hg
    · exact .inl hg
    · exact .inr (by omega)
  obtain ⟨X, hX⟩ : ∃ X, L.getD v 0 = X := ⟨_, rfl⟩
  rw [hX] at hc2
  clear m hrw hC hzs hzl hzsm hX
  go_enter Try.func16, Try.ntmps16
  go_wp2_with fail
  refine (unhide H).mono ?_
  rintro e w' ⟨rfl, rfl⟩
  go_wp2_with fail
  go_region_held3 (fun w' => w'.cell? ⟨q, 0, none⟩ = some (.slice (some ⟨h, 0, none⟩) n c)) (go_keep) (fail)
  go_wp2
  go_ret
  have K1 : Kp [h] w' ((w'.setCell ⟨h, v, none⟩ (.slice (some ⟨w'.heap.size, 0, none⟩) 512 512)).alloc (.cells C 5)).drew := (((Kp.refl [h] w').setCell (p := ⟨h, v, none⟩) (.inl (by simp)) _).alloc _).drew
  have hsz : (w'.setCell ⟨h, v, none⟩ (.slice (some ⟨w'.heap.size, 0, none⟩) 512 512)).heap.size = w'.heap.size := by simp
  have hb1 : Bk ((w'.setCell ⟨h, v, none⟩ (.slice (some ⟨w'.heap.size, 0, none⟩) 512 512)).alloc (.cells C 5)) w'.heap.size 5 (vals zs) := by
    have := Bk.newA (w'.setCell ⟨h, v, none⟩ (.slice (some ⟨w'.heap.size, 0, none⟩) 512 512)) 5 C
    rwa [unhide HC, hsz] at this
  obtain ⟨rest', hr'⟩ := unhide HS
  exact ⟨_, rfl, unhide HM _ K1 ⟨rest', hr'.alloc _⟩ hb1, K1.mono (by simp), unhide HL⟩
set_option maxHeartbeats 400000 in
theorem rwrite_no {w : World} {q h n c : Nat} {L bs : List Nat} (m : RMem w q h n c L bs) (u off : Int) (a : Option Addr) (len cap : Nat) (ho : off ≤ 9223372036854775807) (hi : inside n u off len = false) :
    Calls Try.prog 19 #[.pointer (some ⟨q, 0, none⟩), .int .i64 u, .int .i64 off, .slice a len cap] w fun e w' => e = .returned (.bool false) ∧ w' = w := by
  have H := hide (rwithin_calls m u off len ho)
  rw [hi] at H
  clear m hi
  go_enter Try.func19, Try.ntmps19
  go_wp2_with fail
  refine (unhide H).mono ?_
  rintro e w' ⟨rfl, rfl⟩
  go_wp2
  go_ret
  exact ⟨rfl, rfl⟩
theorem splice_step (s cs : List Nat) (o k : Nat) (h : o + cs.length ≤ s.length) (hk : k < cs.length) : (splice s o (cs.take k)).set (o + k) (cs.getD k 0) = splice s o (cs.take (k + 1)) := by
  have h1 : (cs.take k).length = k := by simp; omega
  have h2 : (cs.take (k + 1)).length = k + 1 := by simp; omega
  have l1 := splice_len s o (cs.take k) (by omega)
  have l2 := splice_len s o (cs.take (k + 1)) (by omega)
  refine list_ext (by rw [List.length_set, l1, l2]) (fun i hi => ?_)
  rw [List.length_set, l1] at hi
  rw [getD_set _ _ _ _ (by omega), splice_get _ _ _ (by omega), splice_get _ _ _ (by omega), h1, h2]
  by_cases e : o + k = i
  · rw [if_pos e, if_pos (by omega)]
    subst e
    simp [List.getD_eq_getElem?_getD]
  · rw [if_neg e]
    by_cases e2 : o ≤ i ∧ i < o + k
    · rw [if_pos e2, if_pos (by omega)]
      simp only [List.getD_eq_getElem?_getD, List.getElem?_take]
      rw [if_pos (by omega), if_pos (by omega)]
    · rw [if_neg e2, if_neg (by omega)]
theorem seg_splice_mid (bs cs : List Nat) (a o n : Nat) (h : a + n ≤ bs.length) (ho : o + cs.length ≤ n) : seg (splice bs (a + o) cs) a n = splice (seg bs a n) o cs := by
  have l1 := splice_len bs (a + o) cs (by omega)
  have l3 := seg_len bs a n h
  have l2 := splice_len (seg bs a n) o cs (by omega)
  have l4 := seg_len (splice bs (a + o) cs) a n (by omega)
  refine list_ext (by omega) (fun i hi => ?_)
  rw [l4] at hi
  rw [seg_get _ _ _ _ hi, splice_get _ _ _ (by omega), splice_get _ _ _ (by omega), seg_get _ _ _ _ hi]
  by_cases e : o ≤ i ∧ i < o + cs.length
  · rw [if_pos e, if_pos (by omega)]
    congr 1; omega
  · rw [if_neg e, if_neg (by omega)]
set_option maxRecDepth 4000 in
theorem rwrite_of {w W : World} {q h n c : Nat} {L bs cs : List Nat} (m : RMem w q h n c L bs) (v off : Nat) (hv : v < n) (ho : off + cs.length ≤ 512) (hcs : Small cs) (K : Kp [L.getD v 0] w W) (hb : Bk W (L.getD v 0) 5 (vals (splice (seg bs (v * 512) 512) off cs))) :
    RMem W q h n c L (splice bs (v * 512 + off) cs) := by
  obtain ⟨rest, hr⟩ := m.rows
  have hlen := m.len
  have hbv := m.each v hv
  have hfit : v * 512 + off + cs.length ≤ bs.length := by omega
  refine ⟨m.head.kept K (by simpa using m.head.apart hbv (by decide)), ⟨rest, hr.kept K (by simpa using hr.apart hbv (by decide))⟩, m.count, fun i hi => ?_, m.apart, ?_, splice_small m.small hcs _, m.low, m.high⟩
  · by_cases e : i = v
    · subst e
      rw [seg_splice_mid _ _ _ _ _ (by omega) ho]
      exact hb
    · rw [seg_splice_out _ _ _ _ _ hfit (by omega) (by omega)]
      exact (m.each i hi).kept K (by simpa using fun e' => e (m.apart i v hi hv e'))
  · rw [splice_len _ _ _ hfit]; exact hlen
set_option maxRecDepth 4000 in
set_option maxHeartbeats 1000000 in
theorem rwrite_yes {w : World} {q h n c : Nat} {L bs : List Nat} (m : RMem w q h n c L bs) (u off : Int) (a : Option Addr) (len cap : Nat) (cs : List Nat) (hl : cs.length = len) (hr : Row w a cs) (hfar : ∀ ad, a = some ad → ad.block ∉ L) (ho : off ≤ 9223372036854775807) (hi : inside n u off len = true) :
    Calls Try.prog 19 #[.pointer (some ⟨q, 0, none⟩), .int .i64 u, .int .i64 off, .slice a len cap] w (RWroteP w q h n c L (splice bs (at_ u off) cs)) := by
  subst hl
  have H := hide (rwithin_calls m u off cs.length ho)
  rw [hi] at H
  obtain ⟨u1, u2, o1, k1, k2⟩ := (inside_iff n u off cs.length).1 hi
  clear hi
  obtain ⟨off, rfl⟩ := Int.eq_ofNat_of_zero_le o1
  obtain ⟨v, rfl⟩ : ∃ v : Nat, u = (v : Int) + 1 := ⟨(u - 1).toNat, by omega⟩
  rw [at_nat]
  have hv : v < n := by omega
  have hof : off + cs.length ≤ 512 := by omega
  obtain ⟨rest, hrw⟩ := m.rows
  have hbv := m.each v hv
  have hus : (seg bs (v * 512) 512).length = 512 := seg_len _ _ _ (by have := m.len; omega)
  have hn : (n : Int) ≤ 64 := by have := m.high; omega
  have hmem : L.getD v 0 ∈ L := by
    have : v < L.length := by rw [m.count]; exact hv
    rw [List.getD_eq_getElem?_getD, List.getElem?_eq_getElem this]
    exact List.getElem_mem this
  have HM : Hid (∀ W : World, Kp [L.getD v 0] w W → Bk W (L.getD v 0) 5 (vals (splice (seg bs (v * 512) 512) off cs)) → RMem W q h n c L (splice bs (v * 512 + off) cs)) := fun W K hb => rwrite_of m v off hv hof hr.1 K hb
  have hq0 : w.cell? ⟨q, 0, none⟩ = some (.slice (some ⟨h, 0, none⟩) n c) := m.head.cell rfl
  have hh0 : w.cell? ⟨h, v, none⟩ = some (.slice (some ⟨L.getD v 0, 0, none⟩) 512 512) := hrw.cell (by rw [List.getElem?_append_left (by simp [heads, m.count]; exact hv)]; exact heads_get L v (by rw [m.count]; exact hv))
  have hlq := m.head.lt
  have hlh := hrw.lt
  have nq : ¬ L.getD v 0 = q := hbv.apart m.head (by decide)
  have nh : ¬ L.getD v 0 = h := hbv.apart hrw (by decide)
  have HBM := hide hmem
  replace hfar := hide hfar
  obtain ⟨B, hB⟩ : ∃ B, L.getD v 0 = B := ⟨_, rfl⟩
  rw [hB] at hbv HM hh0 nq nh HBM
  have HSEG := hide hus
  have hsm := hide hr.1
  have HR := hide hr
  obtain ⟨s, hs⟩ : ∃ s, seg bs (v * 512) 512 = s := ⟨_, rfl⟩
  rw [hs] at hbv HM HSEG
  replace hbv := hide hbv
  replace hq0 := hide hq0
  replace hh0 := hide hh0
  have HEND : Hid (cs.take cs.length = cs) := List.take_length
  clear m hrw hB hs hus hmem hr
  go_enter Try.func19, Try.ntmps19
  go_wp2_with fail
  refine (unhide H).mono ?_
  rintro e w' ⟨rfl, rfl⟩
  go_wp2
  go_loopw [9] (fun i wr => ∃ k : Nat, k ≤ cs.length ∧ i = .int .i64 k ∧ Bk wr B 5 (vals (splice s off (cs.take k))) ∧ Kp [B] w' wr) (fun i _ => cs.length - (intOf i).toNat)
  case atStart => exact ⟨0, Nat.zero_le _, rfl, by have : splice s off (cs.take 0) = s := by simp [splice]
                                                   rw [this]; exact unhide hbv, Kp.refl _ _⟩
  case round =>
    obtain ⟨k, hk, rfl, hbr, hkr⟩ := hrel
    replace hbr := hide hbr
    replace hkr := hide hkr
    by_cases hlt : k < cs.length
    · obtain ⟨_, _, hz | ⟨sb, so, rfl, hcs⟩⟩ := unhide HR
      · omega
      have hne : ¬ B = sb := fun e => unhide hfar _ rfl (by rw [← e]; exact unhide HBM)
      have hsc := hcs k hlt
      have hlsb := World.block_lt_of_cell? w' _ hsc
      have c1 : wr.cell? ⟨q, 0, none⟩ = some (.slice (some ⟨h, 0, none⟩) n c) := by
        rw [World.cell?_of_block (w := w') ((unhide hkr).block q hlq (by simpa using fun e => nq e.symm))]; exact unhide hq0
      have c2 : wr.cell? ⟨h, v, none⟩ = some (.slice (some ⟨B, 0, none⟩) 512 512) := by
        rw [World.cell?_of_block (w := w') ((unhide hkr).block h hlh (by simpa using fun e => nh e.symm))]; exact unhide hh0
      have c3 : wr.cell? ⟨sb, so + k, none⟩ = some (.int .u8 ((cs.getD k 0 : Nat) : Int)) := by
        rw [World.cell?_of_block (w := w') ((unhide hkr).block sb hlsb (by simpa using fun e => hne e.symm))]; exact hsc
      have hl1 : (splice s off (cs.take k)).length = 512 := by rw [splice_len _ _ _ (by simp; have := unhide HSEG; omega)]; exact unhide HSEG
      have c4 : wr.cell? ⟨B, off + k, none⟩ = some (.int .u8 (((splice s off (cs.take k)).getD (off + k) 0 : Nat) : Int)) := (unhide hbr).cell (vals_get _ _ (by omega))
      have c5 : wr.frozen? ⟨B, off + k, none⟩ = false := (unhide hbr).frozen _
      have HST : Hid (Bk (wr.setCell ⟨B, off + k, none⟩ (.int .u8 ((cs.getD k 0 : Nat) : Int))) B 5 (vals (splice s off (cs.take (k + 1))))) := by
        have := (unhide hbr).set (off + k) (.int .u8 ((cs.getD k 0 : Nat) : Int))
        rwa [vals_set, splice_step s cs off k (by have := unhide HSEG; omega) hlt] at this
      have HKT : Hid (Kp [B] w' (wr.setCell ⟨B, off + k, none⟩ (.int .u8 ((cs.getD k 0 : Nat) : Int)))) := (unhide hkr).setCell (p := ⟨B, off + k, none⟩) (.inl (by simp)) _
      obtain ⟨x, hx⟩ : ∃ x, cs.getD k 0 = x := ⟨_, rfl⟩
      obtain ⟨y, hy⟩ : ∃ y, (splice s off (cs.take k)).getD (off + k) 0 = y := ⟨_, rfl⟩
      rw [hx] at c3 HST HKT
      rw [hy] at c4
      have hw1 : IntKind.i64.wrap ((v : Int) + 1 - 1) = (v : Int) := by rw [IntKind.wrap_i64]; omega
      have hw2 : IntKind.i64.wrap (v : Int) = (v : Int) := by rw [IntKind.wrap_i64]; omega
      have hw3 : IntKind.i64.wrap ((off : Int) + (k : Int)) = (off : Int) + (k : Int) := by rw [IntKind.wrap_i64]; omega
      have b1 : (0 : Int) ≤ (off : Int) + (k : Int) := by omega
      have b2 : (off : Int) + (k : Int) < 512 := by omega
      have b3 : (0 : Int) ≤ (v : Int) := by omega
      have b4 : (v : Int) < (n : Int) := by omega
      have b5 : (k : Int) < (cs.length : Int) := by omega
      have b6 : (0 : Int) ≤ (k : Int) := by omega
      have b7 : ((off : Int) + (k : Int)).toNat = off + k := by omega
      clear hcs hsc hx hy hl1
      go_wp2_with fail
      go_region_held3 (fun w' => w'.cell? ⟨q, 0, none⟩ = some (.slice (some ⟨h, 0, none⟩) n c) ∧ w'.cell? ⟨h, v, none⟩ = some (.slice (some ⟨B, 0, none⟩) 512 512) ∧ w'.cell? ⟨sb, so + k, none⟩ = some (.int .u8 (x : Int))) (go_keep) (fail)
      go_wp2
      exact ⟨⟨k + 1, by omega, by go_num, unhide HST, (unhide HKT).drew⟩, by simp [intOf]; omega⟩
    · go_wp2
      go_ret
      have e : k = cs.length := by omega
      subst e
      have hbe := unhide hbr
      rw [unhide HEND] at hbe
      exact ⟨L, rfl, unhide HM _ (unhide hkr) hbe, (unhide hkr).mono (by simpa using .inr (unhide HBM)), fun g hg => .inl hg⟩
end Go.Proofs.Ytidbnbdijjhmgaa
