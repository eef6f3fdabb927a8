/- The walk of WordSays. -/
import Derived.Test.YticfpbhafjjmdaaOwnFaces
import Derived.Test.YticfpbhafjjmdaaOwnRefField
namespace Go.Proofs.Yticfpbhafjjmdaa
open Go.RowKit
set_option linter.unusedVariables false
/-- A slice of bytes that came in, by its bytes. -/
theorem row_of {w : World} {a : Option Addr} {len cap : Nat} {zs : List Int}
    (h : (a = none ∧ len = 0 ∧ cap = 0 ∧ zs = []) ∨ ∃ x, a = some x ∧ len ≤ cap ∧ cap ≤ maxLen ∧ zs.length = cap ∧ (∀ i, i < zs.length → w.cell? (x.add i) = some (.int .u8 (zs.getD i 0))) ∧ ∀ n ∈ zs, (Lit.int .u8 n).wf = true)
    (hl : len ≤ 1152921504606846976) : ∃ bs : List Nat, bs.length = len ∧ Row w a bs := by
  rcases h with ⟨rfl, rfl, rfl, rfl⟩ | ⟨x, rfl, h1, h2, h3, h4, h5⟩
  · exact ⟨[], rfl, fun i => by simp, by simp, .inl rfl⟩
  · refine ⟨(zs.take len).map Int.toNat, by simp; omega, ?_, by simp; omega, ?_⟩
    · intro i
      rw [List.getD_eq_getElem?_getD, List.getElem?_map, List.getElem?_take]
      split
      · by_cases hi : i < zs.length
        · have hb := bounds_u8 (h5 _ (List.getElem_mem hi))
          simp [hi]; omega
        · simp [hi]
      · simp
    · by_cases hz : len = 0
      · exact .inl (by simp [hz])
      · obtain ⟨b, off, rfl, hc⟩ := ints_at h4 (by omega)
        refine .inr ⟨b, off, rfl, fun i hi => ?_⟩
        have hi2 : i < len := by simp at hi; omega
        have hi3 : i < zs.length := by omega
        have hb := bounds_u8 (h5 _ (List.getElem_mem hi3))
        rw [hc i hi3]
        have e : ((((zs.take len).map Int.toNat).getD i 0 : Nat) : Int) = zs.getD i 0 := by
          rw [List.getD_eq_getElem?_getD, List.getD_eq_getElem?_getD, List.getElem?_map, List.getElem?_take, if_pos hi2]
          simp [hi3]; omega
        rw [e]
theorem same_len (a b : Option Addr) (c1 c2 : Nat) (bs : List Nat) (len : Nat) (h : bs.length = len) (w : World) (hr1 : Row w a bs) (hr2 : Row w b bs) :
    Calls Try.prog 13 #[.slice a len c1, .slice b len c2] w fun e w' => e = .returned (.bool true) ∧ ∃ k, w' = w.drewN k := by
  subst h; exact same_calls a b c1 c2 bs w hr1 hr2
theorem bel_onto {B : Nat} {w a b : World} (h : Below B w a) (k : Below a.heap.size a b) (hB : B ≤ w.heap.size) : Below B w b := h.trans (k.mono (Nat.le_trans hB h.size))
theorem bel_drewN {B : Nat} {w a : World} (h : Below B w a) (k : Nat) : Below B w (a.drewN k) := below_drewN h k

/-- What Set answers, whole. -/
def setR (n v : Nat) (s b : Int) : Int := if widthOf s b = 0 then (n : Int) else ((setN n s.toNat (widthOf s b).toNat v : Nat) : Int)
theorem set_all (n v : Nat) (s b : Int) (w : World) (hn : n < 4294967296) (hv : v < 4294967296) :
    Calls Try.prog 20 #[.int .u32 (n : Int), .int .i64 s, .int .i64 b, .int .u32 (v : Int)] w fun e w' => e = .returned (.int .u32 (setR n v s b)) ∧ ∃ k, w' = w.drewN k := by
  have h := set_calls n s b v w (by omega) (by omega) (by omega) (by omega)
  rw [Int.toNat_natCast, Int.toNat_natCast] at h
  exact h
theorem rset_all (n v : Nat) (s b : Int) (w : World) (hn : n < 4294967296) (hv : v < 4294967296) (h0 : -9223372036854775808 ≤ s) (h1 : s ≤ 9223372036854775807) :
    Calls Try.prog 21 #[.int .u32 (n : Int), .int .i64 s, .int .i64 b, .int .u32 (v : Int)] w fun e w' => e = .returned (.int .u32 (setR n v s b)) ∧ w' = w :=
  rset_calls n v s b w hn hv h0 h1
theorem field_all (n : Nat) (s b : Int) (w : World) (hn : n < 4294967296) :
    Calls Try.prog 18 #[.int .u32 (n : Int), .int .i64 s, .int .i64 b] w fun e w' => e = .returned (.int .u32 ((fldN n s.toNat (widthOf s b).toNat : Nat) : Int)) ∧ ∃ k, w' = w.drewN k := by
  have h := field_calls n s b w (by omega) (by omega)
  rw [Int.toNat_natCast] at h
  exact h
set_option maxHeartbeats 2000000 in
theorem says_short (a : Option Addr) (cap : Nat) (bs : List Nat) (p b : Int) (n v : Nat) (w : World) (hr : Row w a bs) (hl : bs.length ≤ 40) (hp0 : -9223372036854775808 ≤ p) (hp1 : p ≤ 9223372036854775807) (hn : n < 4294967296) (hv : v < 4294967296) :
    Calls Try.prog 3 #[.slice a bs.length cap, .int .i64 p, .int .i64 b, .int .u32 (n : Int), .int .u32 (v : Int)] w fun e w' => e = .returned (.bool true) ∧ Below w.heap.size w w' := by
  obtain ⟨m, hm⟩ : ∃ m : Nat, n % 65536 = m := ⟨_, rfl⟩
  have hm1 : m < 65536 := by omega
  have hmc : IntKind.u16.wrap (n : Int) = (m : Int) := by rw [IntKind.wrap_u16]; omega
  have l2 := hide (putN_len bs p m 2)
  have l4 := hide (putN_len bs p n 4)
  have s2 := hide (putN_small hr.1 p m 2)
  have s4 := hide (putN_small hr.1 p n 4)
  have HR := hide hr
  clear hm hr
  go_enter Try.func3, Try.ntmps3
  go_wp2_with fail
  refine (first_calls _).mono ?_
  rintro e w' ⟨rfl, k0, rfl⟩
  go_wp2_with fail
  refine (u16_calls a cap bs p _ (Row.drewN (unhide HR) k0) hp0 hp1).mono ?_
  rintro e w' ⟨rfl, rfl⟩
  go_wp2_with fail
  refine (ru16_calls a cap bs p _ (Row.drewN (unhide HR) k0) hp0 hp1).mono ?_
  rintro e w' ⟨rfl, rfl⟩
  go_wp2_with fail
  refine (u32_calls a cap bs p _ (Row.drewN (unhide HR) k0) hp0 hp1).mono ?_
  rintro e w' ⟨rfl, rfl⟩
  go_wp2_with fail
  refine (ru32_calls a cap bs p _ (Row.drewN (unhide HR) k0) hp0 hp1).mono ?_
  rintro e w' ⟨rfl, rfl⟩
  go_wp2_with fail
  refine (put16_calls a cap bs p m _ (Row.drewN (unhide HR) k0) hp0 hp1 (by omega) hm1).mono ?_
  rintro e W1 ⟨g1, c1, rfl, ho1, hb1⟩
  have B1 : Below w.heap.size w W1 := bel_onto (bel_drewN (Below.refl w.heap.size w) k0) hb1 (Nat.le_refl _)
  have r1 := hide (Row.below (unhide HR) B1 (Nat.le_refl _))
  go_wp2_with fail
  refine (rput16_calls a cap bs p m _ (unhide r1) hp0 hp1 (by omega) hm1).mono ?_
  rintro e W2 ⟨g2, c2, rfl, ho2, hb2⟩
  have B2 : Below w.heap.size w W2 := bel_onto B1 hb2 (Nat.le_refl _)
  have x1 := hide ((Owns.row ho1 (unhide s2) (by rw [unhide l2]; omega)).below hb2 (Nat.le_refl _))
  have x2 := hide (Owns.row ho2 (unhide s2) (by rw [unhide l2]; omega))
  go_wp2_with fail
  refine (same_len _ _ c1 c2 (putN bs p m 2) bs.length (unhide l2) _ (unhide x1) (unhide x2)).mono ?_
  rintro e w' ⟨rfl, k1, rfl⟩
  have B3 : Below w.heap.size w (W2.drewN k1) := bel_drewN B2 k1
  have r3 := hide (Row.below (unhide HR) B3 (Nat.le_refl _))
  clear ho1 ho2 hb1 hb2 B1 B2 r1 x1 x2
  go_wp2_with fail
  refine (put32_calls a cap bs p n _ (unhide r3) hp0 hp1 (by omega) hn).mono ?_
  rintro e W4 ⟨g4, c4, rfl, ho4, hb4⟩
  have B4 : Below w.heap.size w W4 := bel_onto B3 hb4 (Nat.le_refl _)
  have r4 := hide (Row.below (unhide HR) B4 (Nat.le_refl _))
  go_wp2_with fail
  refine (rput32_calls a cap bs p n _ (unhide r4) hp0 hp1 (by omega) hn).mono ?_
  rintro e W5 ⟨g5, c5, rfl, ho5, hb5⟩
  have B5 : Below w.heap.size w W5 := bel_onto B4 hb5 (Nat.le_refl _)
  have x1 := hide ((Owns.row ho4 (unhide s4) (by rw [unhide l4]; omega)).below hb5 (Nat.le_refl _))
  have x2 := hide (Owns.row ho5 (unhide s4) (by rw [unhide l4]; omega))
  go_wp2_with fail
  refine (same_len _ _ c4 c5 (putN bs p n 4) bs.length (unhide l4) _ (unhide x1) (unhide x2)).mono ?_
  rintro e w' ⟨rfl, k2, rfl⟩
  clear ho4 ho5 hb4 hb5 B3 B4 r3 r4 x1 x2
  go_wp2_with fail
  refine (field_all n p b _ hn).mono ?_
  rintro e w' ⟨rfl, k3, rfl⟩
  go_wp2_with fail
  refine (rfield_calls n p b _ hn hp0 hp1).mono ?_
  rintro e w' ⟨rfl, rfl⟩
  go_wp2_with fail
  refine (set_all n v p b _ hn hv).mono ?_
  rintro e w' ⟨rfl, k4, rfl⟩
  go_wp2_with fail
  refine (rset_all n v p b _ hn hv hp0 hp1).mono ?_
  rintro e w' ⟨rfl, rfl⟩
  go_wp2_with (first | (go_at_call 22; refine (signed_calls _ _).mono ?_; rintro e w' ⟨rfl, rfl⟩) | (go_at_call 23; refine (dist_calls _ _ _).mono ?_; rintro e w' ⟨rfl, rfl⟩))
  go_ret
  exact ⟨rfl, bel_drewN B5 _⟩
set_option maxHeartbeats 400000 in
theorem says_long (a : Option Addr) (len cap : Nat) (p b n v : Int) (w : World) (hl : 40 < len) :
    Calls Try.prog 3 #[.slice a len cap, .int .i64 p, .int .i64 b, .int .u32 n, .int .u32 v] w fun e w' => e = .returned (.bool true) ∧ Below w.heap.size w w' := by
  have hl' : (40 : Int) < (len : Int) := by omega
  go_enter Try.func3, Try.ntmps3
  go_wp2_with fail
  refine (first_calls _).mono ?_
  rintro e w' ⟨rfl, k0, rfl⟩
  go_wp2
  go_ret
  exact ⟨rfl, bel_drewN (Below.refl _ _) _⟩
theorem says_walk (a : Option Addr) (len cap : Nat) (zs : List Int) (p b n v : Int) (w : World)
    (h : (a = none ∧ len = 0 ∧ cap = 0 ∧ zs = []) ∨ ∃ x, a = some x ∧ len ≤ cap ∧ cap ≤ maxLen ∧ zs.length = cap ∧ (∀ i, i < zs.length → w.cell? (x.add i) = some (.int .u8 (zs.getD i 0))) ∧ ∀ n ∈ zs, (Lit.int .u8 n).wf = true)
    (w1 : (Lit.int .i64 p).wf = true) (w3 : (Lit.int .u32 n).wf = true) (w4 : (Lit.int .u32 v).wf = true) :
    Calls Try.prog 3 #[.slice a len cap, .int .i64 p, .int .i64 b, .int .u32 n, .int .u32 v] w fun e w' => e = .returned (.bool true) ∧ Below w.heap.size w w' := by
  have b1 := bounds_i64 w1
  have b3 := bounds_u32 w3
  have b4 := bounds_u32 w4
  by_cases hl : len ≤ 40
  · obtain ⟨bs, rfl, hr⟩ := row_of h (by omega)
    obtain ⟨n, rfl⟩ := Int.eq_ofNat_of_zero_le b3.1
    obtain ⟨v, rfl⟩ := Int.eq_ofNat_of_zero_le b4.1
    exact says_short a cap bs p b n v w hr hl b1.1 b1.2 (by omega) (by omega)
  · exact says_long a len cap p b n v w (by omega)
end Go.Proofs.Yticfpbhafjjmdaa
