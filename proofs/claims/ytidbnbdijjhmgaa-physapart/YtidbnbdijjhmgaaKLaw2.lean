/- The small helpers of the statements of chapter 2: some, units, first. -/
import Derived.Test.YtidbnbdijjhmgaaKPhys
namespace Go.Proofs.Ytidbnbdijjhmgaa
open Go.RowKit
set_option linter.unusedVariables false
/-- So many bytes, from one on. -/
def someB (n : Nat) (b : Int) : List Nat := (List.range n).map fun (i : Nat) => ((b + (i : Int)) % 256).toNat
theorem someB_len (n : Nat) (b : Int) : (someB n b).length = n := by simp [someB]
theorem someB_small (n : Nat) (b : Int) : Small (someB n b) := by
  rw [small_iff]
  intro x hx
  simp only [someB, List.mem_map] at hx
  obtain ⟨i, _, rfl⟩ := hx
  omega
theorem someB_more (n : Nat) (b : Int) : vals (someB (n + 1) b) = vals (someB n b) ++ [.int .u8 ((b + (n : Int)) % 256)] := by
  have h : (0 : Int) ≤ (b + (n : Int)) % 256 := by omega
  simp [someB, vals, List.range_succ]
  omega
def SomeP (w : World) (n : Nat) (cs : List Nat) (e : Ending) (w' : World) : Prop :=
  ∃ a c, e = .returned (.slice a n c) ∧ cs.length = n ∧ Row w' a cs ∧ Kp [] w w' ∧ ∀ ad, a = some ad → w.heap.size ≤ ad.block
theorem ownsRow_nil (w : World) (base : Nat) (e : TypeId) (s : Nat) : w.ownsRow base e s (.slice none 0 0) 0 [] := ⟨by simp, .inl ⟨rfl, rfl⟩⟩
set_option maxHeartbeats 1000000 in
theorem some_calls (n : Nat) (b : Int) (w : World) (hn : n ≤ 100000) (hb0 : 0 ≤ b) (hb1 : b ≤ 100000) :
    Calls Try.prog 17 #[.int .i64 (n : Int), .int .i64 b] w (SomeP w n (someB n b)) := by
  obtain ⟨i0, hi, hinf⟩ := Option.map_eq_some_iff.1 Try.info5'
  simp only [Prod.mk.injEq] at hinf
  obtain ⟨hz0, hz1, hz2⟩ := hinf
  have hown0 := ownsRow_nil w w.heap.size 5 1
  go_enter Try.func17, Try.ntmps17
  go_wp2
  go_loopw [5, 6] (fun v i wr => ∃ k : Nat, k ≤ n ∧ i = .int .i64 k ∧ (∃ a c, v = .slice a k c) ∧ wr.ownsRow w.heap.size 5 1 v k (vals (someB k b)) ∧ Below w.heap.size w wr) (fun _ i _ => n - (intOf i).toNat)
  case atStart => exact ⟨0, Nat.zero_le _, rfl, ⟨_, _, rfl⟩, hown0, Below.refl _ _⟩
  case round =>
    obtain ⟨k, hk, rfl, ⟨a, c, rfl⟩, hownr, hbr⟩ := hrel
    by_cases hlt : k < n
    · have HM := hide (someB_more k b)
      go_wp2_with (first
        | (at_builtin; refine wpList_append_own _ rfl _ _ 35 rfl w.heap.size 5 i0 (.int .u8 0) 1 1 Try.underlying35 hi hz0 hz1 hz2 rfl (by decide) _ _ _ rfl (hownr.alloc _) ⟨wr.heap.size, 0, none⟩ 1 1 [.int .u8 ((b + (k : Int)) % 256)] rfl rfl (cell_one_new _ _ _) ?c2 ?c3 ?c4 ?c5 ?_)
        | go_in)
      case c2 => intro u hu; simp at hu; subst hu; rfl
      case c3 => unfold maxLen; omega
      case c4 => omega
      case c5 => have := hbr.size; simp; omega
      intro v' w1 hown' hgrow hnil
      have hb2 : Below w.heap.size w w1 := (hbr.alloc hbr.size _).grown hgrow (by have := hbr.size; simp; omega) (fun k hk => by
        cases a with
        | none => cases hk
        | some a => exact (World.ownsRow.lt hownr _ hk).1)
      obtain ⟨a', c', rfl⟩ : ∃ a c, v' = .slice a (k + 1) c := by
        rcases hown'.2 with ⟨h, _⟩ | ⟨g', c', cur, h, _⟩
        · exact (hnil h).elim
        · exact ⟨_, c', h⟩
      rw [← unhide HM] at hown'
      clear hgrow hownr hbr hnil
      go_wp2
      go_roundw
      case rel => exact ⟨k + 1, by omega, by go_num, ⟨_, _, rfl⟩, hown', hb2⟩
      case measure => simp [intOf]; omega
    · have e : k = n := by omega
      subst e
      have HR : Hid (Row wr a (someB k b)) := by
        by_cases hz : k = 0
        · subst hz; exact Row.none _ _
        · obtain ⟨g, c', cur, hv, _⟩ : ∃ g c' cur, Value.slice a k c = .slice (some ⟨g, 0, none⟩) k c' ∧ cur = (0 : Nat) := by
            rcases hownr.2 with ⟨h, h'⟩ | ⟨g', c', cur, h, _⟩
            · omega
            · exact ⟨g', c', 0, h, rfl⟩
          cases hv
          refine ⟨someB_small _ _, by rw [someB_len]; omega, .inr ⟨g, 0, rfl, fun i hi => ?_⟩⟩
          rw [someB_len] at hi
          rw [Nat.zero_add, World.ownsRow.cellAt hownr i (by omega), vals_get _ i (by rw [someB_len]; exact hi)]
      have HA : Hid (∀ ad, a = some ad → w.heap.size ≤ ad.block) := fun ad e => by
        subst e
        exact (World.ownsRow.lt hownr ad.block rfl).1
      clear hownr
      go_wp2
      go_ret
      exact ⟨a, c, rfl, someB_len _ _, unhide HR, Kp.ofBelow hbr _, unhide HA⟩
theorem some_int (n b : Int) (m : Nat) (w : World) (hm : n = (m : Int)) (hn : m ≤ 100000) (hb0 : 0 ≤ b) (hb1 : b ≤ 100000) :
    Calls Try.prog 17 #[.int .i64 n, .int .i64 b] w (SomeP w m (someB m b)) := by
  subst hm; exact some_calls m b w hn hb0 hb1
theorem unitsOf_3 : unitsOf 3 = 3 := by decide
set_option maxHeartbeats 1000000 in
theorem ofunits_calls (u : Int) (w : World) : Calls Try.prog 23 #[.int .i64 u] w fun e w' => e = .returned (.int .i64 (unitsOf u : Int)) ∧ Kp [] w w' := by
  go_enter Try.func23, Try.ntmps23
  go_wp2_with fail
  refine (new_calls _ _).mono ?_
  rintro e w1 ⟨p, g, rfl, hm, _, _, hk⟩
  have HM := hide hm
  clear hm
  go_wp2_with fail
  refine (units_calls (unhide HM)).mono ?_
  rintro e w' ⟨rfl, rfl⟩
  go_wp2
  go_ret
  exact ⟨rfl, hk⟩
set_option maxHeartbeats 1000000 in
theorem first_calls (w : World) : Calls Try.prog 7 #[] w fun e w' => e = .returned (.bool true) ∧ Kp [] w w' := by
  go_enter Try.func7, Try.ntmps7
  go_wp2_with fail
  refine (new_calls _ _).mono ?_
  rintro e w1 ⟨p, g, rfl, hm, hp, hg, hk⟩
  rw [unitsOf_3] at hm
  have HM := hide hm
  clear hm
  go_wp2_with fail
  refine (units_calls (unhide HM)).mono ?_
  rintro e w' ⟨rfl, rfl⟩
  go_wp2_with fail
  have hm2 := (unhide HM).kept ((Kp.refl [] w').alloc (.cells #[.int .u8 7] 5)) (by simp) (by simp)
  have hb2 : Bk (w'.alloc (.cells #[.int .u8 7] 5)) w'.heap.size 5 (vals [7]) := Bk.newA _ _ _
  refine (write_yes hm2 2 5 _ 1 1 [7] rfl (hb2.rowAll (by rw [small_iff]; simp) (by simp)) (by omega) (by decide)).mono ?_
  rintro e W2 ⟨rfl, hm3, hk3⟩
  have K3 : Kp [] w W2 := (hk.alloc _).trans hk3 (by simp) (by simp; exact hg)
  have HM3 := hide hm3
  clear hm2 hb2 hm3 hk3 HM
  go_wp2_with fail
  refine (read_yes (unhide HM3) 2 5 1 (by omega) (by decide)).mono ?_
  rintro e W3 ⟨h, rfl, hl, hb, hh, hk4⟩
  have e1 : (1 : Int).toNat = 1 := rfl
  have e2 : at_ 2 5 = 517 := by decide
  have hc : W3.cell? ⟨h, 0, none⟩ = some (.int .u8 7) := by
    rw [e1] at hb hl
    rw [hb.cell (vals_get _ 0 (by omega)), seg_get _ _ _ _ (by omega), splice_get _ _ _ (by rw [e2, List.length_replicate]; decide), e2]
    rfl
  have K4 : Kp [] w W3 := K3.then hk4
  clear HM3 hb hl
  go_wp2
  go_ret
  exact ⟨rfl, K4⟩
theorem units_to (u : Int) (n : Nat) (w : World) (h : unitsOf u = n) : Calls Try.prog 23 #[.int .i64 u] w fun e w' => e = .returned (.int .i64 (n : Int)) ∧ Kp [] w w' := by
  subst h; exact ofunits_calls u w
theorem new_to (w : World) (u : Int) (n : Nat) (h : unitsOf u = n) : Calls Try.prog 8 #[.int .i64 u] w (NewP w n) := by
  subst h; exact new_calls w u
end Go.Proofs.Ytidbnbdijjhmgaa
