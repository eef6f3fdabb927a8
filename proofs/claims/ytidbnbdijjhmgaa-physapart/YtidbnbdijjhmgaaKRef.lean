/- The statements' own helpers: a number cut to a bound, a copy of bytes, whether two lists of bytes are the same. -/
import Derived.Test.YtidbnbdijjhmgaaRows
import Derived.Test.YtidbnbdijjhmgaaKBase
namespace Go.Proofs.Ytidbnbdijjhmgaa
open Go.RowKit
set_option linter.unusedVariables false
/-- Go's remainder, put right, is the least that is not below 0. -/
theorem number_walk (n d : Int) (hd : 0 < d) : (if n.tmod d < 0 then n.tmod d + d else n.tmod d) = n % d := by
  have h := Int.emod_nonneg n (Int.ne_of_gt hd)
  have h2 := Int.emod_lt_of_pos n hd
  have e := Int.tmod_eq_emod (a := n) (b := d)
  have ed : (d.natAbs : Int) = d := Int.natAbs_of_nonneg (by omega)
  split at e
  · rename_i hc
    rw [e]
    split <;> omega
  · rename_i hc
    have : n % d ≠ 0 := fun hz => hc (.inr (Int.dvd_of_emod_eq_zero hz))
    rw [e]
    split <;> omega
set_option maxHeartbeats 400000 in
theorem number_calls (n d : Int) (w : World) (hd : 0 < d) (hm : d ≤ 4294967296) :
    Calls Try.prog 11 #[.int .i64 n, .int .i64 d] w fun e w' => e = .returned (.int .i64 (n % d)) ∧ w' = w := by
  have HW := hide (number_walk n d hd)
  have hb1 : n.tmod d < d := Int.tmod_lt_of_pos n hd
  have hb2 : -d < n.tmod d := Int.lt_tmod_of_pos n hd
  go_enter Try.func11, Try.ntmps11
  go_wp2
  · go_ret
    exact ⟨ret_int ((if_pos ‹n.tmod d < 0›).symm.trans (unhide HW)), rfl⟩
  · go_ret
    exact ⟨ret_int ((if_neg (Int.not_lt.2 ‹0 ≤ n.tmod d›)).symm.trans (unhide HW)), rfl⟩
theorem number_to (n d m : Int) (w : World) (hd : 0 < d) (hb : d ≤ 4294967296) (hm : n % d = m) :
    Calls Try.prog 11 #[.int .i64 n, .int .i64 d] w fun e w' => e = .returned (.int .i64 m) ∧ w' = w := by
  subst hm; exact number_calls n d w hd hb
/-- A row of bytes that the call itself has made. -/
def Owns (base : Nat) (w : World) (g c : Nat) (bs : List Nat) : Prop := w.ownsRow base 5 1 (.slice (some ⟨g, 0, none⟩) bs.length c) bs.length (vals bs)
theorem Owns.row {base : Nat} {w : World} {g c : Nat} {bs : List Nat} (h : Owns base w g c bs) (hs : Small bs) (hl : bs.length ≤ 1152921504606846976) : Row w (some ⟨g, 0, none⟩) bs := by
  refine ⟨hs, hl, .inr ⟨g, 0, rfl, fun i hi => ?_⟩⟩
  rw [Nat.zero_add, World.ownsRow.cellAt h i (by omega), vals_get bs i hi]
theorem Owns.le {base : Nat} {w : World} {g c : Nat} {bs : List Nat} (h : Owns base w g c bs) : base ≤ g ∧ g < w.heap.size := World.ownsRow.lt h g rfl
theorem Owns.stored {base : Nat} {w : World} {g c : Nat} {bs : List Nat} (h : Owns base w g c bs) (j x : Nat) : Owns base (w.setCell ⟨g, j, none⟩ (.int .u8 (x : Int))) g c (bs.set j x) := by
  have := (World.ownsRow.stored h j (.int .u8 (x : Int))).1
  unfold Owns
  rw [List.length_set, ← vals_set]
  exact this
theorem Try.info5' : (Try.prog.info? 5).map (fun i => (i.zero, i.size, i.bytes)) = some (some (.int .u8 0), 1, 1) := by kernel_rfl
theorem Try.isize5 : (Try.prog.info? 5).map (·.size) = some 1 := by kernel_rfl
theorem Owns.kept {base : Nat} {S : List Nat} {w w' : World} {g c : Nat} {bs : List Nat} (h : Owns base w g c bs) (k : Kp S w w') (hn : g ∉ S) : Owns base w' g c bs := by
  obtain ⟨h1, h2⟩ := h
  refine ⟨h1, ?_⟩
  rcases h2 with h2 | ⟨g', cap, cur, hv, hg, hh, r⟩
  · exact .inl h2
  · cases hv
    exact .inr ⟨_, _, cur, rfl, hg, (k.block _ (Array.getElem?_eq_some_iff.1 hh).1 hn).trans hh, r⟩
theorem take_more (bs : List Nat) (k : Nat) (h : k < bs.length) : vals (bs.take (k + 1)) = vals (bs.take k) ++ [.int .u8 ((bs.getD k 0 : Nat) : Int)] := by
  have e : bs.getD k 0 = bs[k] := by simp [List.getD_eq_getElem?_getD, h]
  rw [e]; unfold vals; rw [List.take_succ_eq_append_getElem h, List.map_append]; rfl
set_option maxHeartbeats 1000000 in
theorem bytes_calls (a : Option Addr) (cap : Nat) (bs : List Nat) (w : World) (hr : Row w a bs) (hl : bs.length ≤ 1048576) :
    Calls Try.prog 22 #[.slice a bs.length cap] w fun e w' => ∃ g c, e = .returned (.slice (some ⟨g, 0, none⟩) bs.length c) ∧ Owns w.heap.size w' g c bs ∧ Below w.heap.size w w' := by
  obtain ⟨i0, hi, hinf⟩ := Option.map_eq_some_iff.1 Try.info5'
  simp only [Prod.mk.injEq] at hinf
  obtain ⟨hz0, hz1, hz2⟩ := hinf
  obtain ⟨W1, hmk, hown, hgr⟩ := run_make_own (P := Try.prog) w w.heap.size 35 5 i0 (.int .u8 0) 1 Try.underlying35 hi hz0 hz1 .i64 .i64 bs.length (by rw [hz2]; omega) (by unfold maxLen; omega) (Nat.le_refl _)
  have hb1 : Below w.heap.size w W1 := (Below.refl _ _).grown hgr (Nat.le_refl _) (fun k hk => by cases hk)
  have HR := hide hr
  clear hr
  go_enter Try.func22, Try.ntmps22
  go_wp2
  go_loopw [3, 4] (fun v i wr => ∃ k : Nat, k ≤ bs.length ∧ i = .int .i64 k ∧ (∃ g c, v = .slice (some ⟨g, 0, none⟩) k c) ∧ wr.ownsRow w.heap.size 5 1 v k (vals (bs.take k)) ∧ Below w.heap.size w wr) (fun _ i _ => bs.length - (intOf i).toNat)
  case atStart => exact ⟨0, Nat.zero_le _, rfl, ⟨_, _, rfl⟩, hown, hb1⟩
  case round =>
    obtain ⟨k, hk, rfl, ⟨g, c, rfl⟩, hownr, hbr⟩ := hrel
    by_cases hlt : k < bs.length
    · have hrr := (unhide HR).below hbr (Nat.le_refl _)
      obtain ⟨_, _, hz | ⟨b, off, rfl, hc⟩⟩ := hrr
      · omega
      have hcell := hc k hlt
      clear hc
      have hmore := take_more bs k hlt
      obtain ⟨x, hx⟩ : ∃ x : Nat, bs.getD k 0 = x := ⟨_, rfl⟩
      rw [hx] at hcell hmore
      have HM := hide hmore
      clear hmore hx
      go_wp2_with (first
        | (at_builtin; refine wpList_append_own _ rfl _ _ 35 rfl w.heap.size 5 i0 (.int .u8 0) 1 1 Try.underlying35 hi hz0 hz1 hz2 rfl (by decide) _ _ _ rfl (hownr.alloc _) ⟨wr.heap.size, 0, none⟩ 1 1 [.int .u8 (x : Int)] rfl rfl (cell_one_new _ _ _) ?c2 ?c3 ?c4 ?c5 ?_)
        | go_in)
      case c2 => intro u hu; simp at hu; subst hu; rfl
      case c3 => unfold maxLen; omega
      case c4 => omega
      case c5 => have := hbr.size; simp; omega
      intro v' w1 hown' hgrow hnil
      have hb2 : Below w.heap.size w w1 := (hbr.alloc hbr.size _).grown hgrow (by have := hbr.size; simp; omega) (fun k hk => by cases hk; exact (World.ownsRow.lt hownr _ rfl).1)
      obtain ⟨g', c', rfl⟩ : ∃ g c, v' = .slice (some ⟨g, 0, none⟩) (k + 1) c := by
        rcases hown'.2 with ⟨h, _⟩ | ⟨g', c', cur, h, _⟩
        · exact (hnil h).elim
        · exact ⟨g', c', h⟩
      rw [← unhide HM] at hown'
      clear hgrow hownr hbr hcell hnil
      go_wp2
      go_roundw
      case rel => exact ⟨k + 1, by omega, by go_num, ⟨_, _, rfl⟩, hown', hb2⟩
      case measure => simp [intOf]; omega
    · go_wp2
      go_ret
      have e : k = bs.length := by omega
      subst e
      rw [List.take_of_length_le (Nat.le_refl _)] at hownr
      exact ⟨g, c, rfl, hownr, hbr⟩
set_option maxHeartbeats 1000000 in
theorem same_calls (a b : Option Addr) (c1 c2 : Nat) (bs : List Nat) (w : World) (hr1 : Row w a bs) (hr2 : Row w b bs) :
    Calls Try.prog 14 #[.slice a bs.length c1, .slice b bs.length c2] w fun e w' => e = .returned (.bool true) ∧ ∃ k, w' = w.drewN k := by
  obtain ⟨_, hlen, h1⟩ := hr1
  obtain ⟨_, _, h2⟩ := hr2
  go_enter Try.func14, Try.ntmps14
  go_wp2
  go_loopw [5] (fun i wr => ∃ k : Nat, k ≤ bs.length ∧ i = .int .i64 k ∧ ∃ m, wr = w.drewN m) (fun i _ => bs.length - (intOf i).toNat)
  case atStart => exact ⟨0, Nat.zero_le _, rfl, 0, rfl⟩
  case round =>
    obtain ⟨k, hk, rfl, m, rfl⟩ := hrel
    by_cases hlt : k < bs.length
    · rcases h1 with h1 | ⟨x1, o1, rfl, hc1⟩
      · omega
      rcases h2 with h2 | ⟨x2, o2, rfl, hc2⟩
      · omega
      have d1 := hc1 k hlt
      have d2 := hc2 k hlt
      clear hc1 hc2
      go_wp2
      go_quiet (fail)
      go_wp2
      go_roundw
      case rel => exact ⟨k + 1, by omega, by go_num, _, rfl⟩
      case measure => simp [intOf]; omega
    · go_wp2
      go_ret
      exact ⟨rfl, m, rfl⟩
theorem same_len (a b : Option Addr) (c1 c2 : Nat) (bs : List Nat) (len : Nat) (h : bs.length = len) (w : World) (hr1 : Row w a bs) (hr2 : Row w b bs) :
    Calls Try.prog 14 #[.slice a len c1, .slice b len c2] w fun e w' => e = .returned (.bool true) ∧ ∃ k, w' = w.drewN k := by
  subst h; exact same_calls a b c1 c2 bs w hr1 hr2
end Go.Proofs.Ytidbnbdijjhmgaa
