/- The walk of AddrSays. -/
import Derived.Test.YtejkelfhihfklaaKLaw4
import Derived.Test.YtejkelfhihfklaaKMkCap
import Derived.Test.YtejkelfhihfklaaKCapAt
import Derived.Deep.RegionHeld3
import Derived.Deep.LoopGhost
namespace Go.Proofs.Ytejkelfhihfklaa
open Go.RowKit
set_option linter.unusedVariables false
/-- Three capabilities in a row, as a slice has them. -/
def AL3 (w : World) (H : Nat) (K O S B R : Nat → Int) (wx : World) : Prop :=
  (∀ i, i < 3 → wx.cell? ⟨H, i * 5, none⟩ = some (.int .i64 (K i)) ∧ wx.cell? ⟨H, i * 5 + 1, none⟩ = some (.int .i64 (O i)) ∧ wx.cell? ⟨H, i * 5 + 2, none⟩ = some (.int .i64 (S i)) ∧ wx.cell? ⟨H, i * 5 + 3, none⟩ = some (.int .i64 (B i)) ∧ wx.cell? ⟨H, i * 5 + 4, none⟩ = some (.int .i64 (R i))) ∧ Kp [] w wx
theorem AL3.kept {w : World} {H : Nat} {K O S B R : Nat → Int} {wx wy : World} (h : AL3 w H K O S B R wx) (k : Kp [] wx wy) : AL3 w H K O S B R wy :=
  ⟨fun i hi => ⟨k.cell (h.1 i hi).1, k.cell (h.1 i hi).2.1, k.cell (h.1 i hi).2.2.1, k.cell (h.1 i hi).2.2.2.1, k.cell (h.1 i hi).2.2.2.2⟩, h.2.then k⟩
def pick3 (a b c : Int) (i : Nat) : Int := if i = 0 then a else if i = 1 then b else c
theorem AL3.start {w wx : World} (k : Kp [] w wx) (k0 o0 s0 b0 r0 k1 o1 s1 b1 r1 k2 o2 s2 b2 r2 : Int) :
    AL3 w wx.heap.size (pick3 k0 k1 k2) (pick3 o0 o1 o2) (pick3 s0 s1 s2) (pick3 b0 b1 b2) (pick3 r0 r1 r2) (wx.alloc (.cells #[.int .i64 k0, .int .i64 o0, .int .i64 s0, .int .i64 b0, .int .i64 r0, .int .i64 k1, .int .i64 o1, .int .i64 s1, .int .i64 b1, .int .i64 r1, .int .i64 k2, .int .i64 o2, .int .i64 s2, .int .i64 b2, .int .i64 r2] 24)) := by
  refine ⟨fun i hi => ?_, k.alloc _⟩
  have h := Bk.newA wx 24 #[.int .i64 k0, .int .i64 o0, .int .i64 s0, .int .i64 b0, .int .i64 r0, .int .i64 k1, .int .i64 o1, .int .i64 s1, .int .i64 b1, .int .i64 r1, .int .i64 k2, .int .i64 o2, .int .i64 s2, .int .i64 b2, .int .i64 r2]
  have hc : i = 0 ∨ i = 1 ∨ i = 2 := by omega
  rcases hc with rfl | rfl | rfl <;> exact ⟨h.cell rfl, h.cell rfl, h.cell rfl, h.cell rfl, h.cell rfl⟩
theorem mkcap_agg {w0 w : World} {p : Nat} {a : Option Addr} {cap : Nat} {zs : List Int} {n : Nat} (h : Sq w0 w p a cap zs n) (hn : n < 1000000000000) :
    Calls Try.prog 12 #[.pointer (some ⟨p, 0, none⟩)] w fun e w' => ∃ k o s b r m, e = .returned (.agg #[.int .i64 k, .int .i64 o, .int .i64 s, .int .i64 b, .int .i64 r]) ∧ Sq w0 w' p a cap zs m ∧ m ≤ n + 9 ∧ Kp [p] w w' ∧ CapIn k o s b r := mkcap_calls h hn
theorem astep_to (k o s b r v d f g : Int) (q : Bool) (w : World) (h1 : stepS k o s b r v d = f) (h2 : stepL k o s b r v d = g) (h3 : stepOk k o s b r v d = q) :
    Calls Try.prog 14 #[capV k o s b r, .int .i64 v, .int .i64 d] w fun e w' => e = .returned (.tuple #[.int .i64 f, .int .i64 g, .bool q]) ∧ Kp [] w w' := by subst h1; subst h2; subst h3; exact astep_calls k o s b r v d w
theorem rstep_to (k o s b r v d f g : Int) (q : Bool) (w : World) (h1 : stepS k o s b r v d = f) (h2 : stepL k o s b r v d = g) (h3 : stepOk k o s b r v d = q) :
    Calls Try.prog 15 #[capV k o s b r, .int .i64 v, .int .i64 d] w fun e w' => e = .returned (.tuple #[.int .i64 f, .int .i64 g, .bool q]) ∧ Kp [] w w' := by subst h1; subst h2; subst h3; exact rstep_calls k o s b r v d w
set_option maxHeartbeats 2000000 in
set_option maxRecDepth 20000 in
theorem says_in (a0 k o s b r : Int) (a : Option Addr) (cap : Nat) (zs : List Int) (value depth : Int) (w : World) (ha : 0 ≤ a0 ∧ a0 < 4294967296) (hl : zs.length ≤ 20) (hI : Ints .i64 w a zs) :
    Calls Try.prog 3 #[.int .u32 a0, capV k o s b r, .slice a zs.length cap, .int .i64 value, .int .i64 depth] w fun e w' => e = .returned (.bool true) ∧ Below w.heap.size w w' := by
  have d1 : decide ((20 : Int) < (zs.length : Int)) = false := decide_eq_false (by omega)
  replace hI := hide hI
  obtain ⟨x, hx⟩ : ∃ x, splitV a0 = x := ⟨_, rfl⟩
  obtain ⟨y, hy⟩ : ∃ x, splitD a0 = x := ⟨_, rfl⟩
  obtain ⟨q, hq⟩ : ∃ x, splitOk a0 = x := ⟨_, rfl⟩
  obtain ⟨J, hJ⟩ : ∃ x, joinN value depth = x := ⟨_, rfl⟩
  have HR := hide (rsplit_calls a0 · ha)
  rw [hx, hy, hq] at HR
  have HJ := hide (rjoin_calls value depth)
  rw [hJ] at HJ
  replace hx := hide hx
  replace hy := hide hy
  replace hq := hide hq
  replace hJ := hide hJ
  go_enter Try.func3, Try.ntmps3
  go_wp2_with fail
  refine (first_kp _).mono ?_
  rintro e W0 ⟨rfl, K0⟩
  have C0 := (CapAt.next w k o s b r rfl).kept K0 (by simp)
  replace K0 := ((Kp.refl [] w).alloc _).then K0
  have hC := hide (show CapAt W0 w.heap.size k o s b r ∧ Kp [] w W0 from ⟨C0, K0⟩)
  clear C0 K0
  go_wp2_with fail
  refine (split_kp a0 x y q _ ha (unhide hx) (unhide hy) (unhide hq)).mono ?_
  rintro e W1 ⟨rfl, K1⟩
  replace hC := hide (show CapAt W1 w.heap.size k o s b r ∧ Kp [] w W1 from ⟨(unhide hC).1.kept K1 (by simp), (unhide hC).2.then K1⟩)
  clear K1
  go_wp2_with fail
  refine (unhide HR _).mono ?_
  rintro e W2 ⟨rfl, rfl⟩
  go_wp2_with fail
  refine (join_kp value depth J _ (unhide hJ)).mono ?_
  rintro e W2 ⟨rfl, K1⟩
  replace hC := hide (show CapAt W2 w.heap.size k o s b r ∧ Kp [] w W2 from ⟨(unhide hC).1.kept K1 (by simp), (unhide hC).2.then K1⟩)
  clear K1
  go_wp2_with fail
  refine (unhide HJ _).mono ?_
  rintro e W3 ⟨rfl, rfl⟩
  go_wp2_with fail
  refine (mkcap_agg (sq_start cap (unhide hC).2 (unhide hI)) (by omega)).mono ?_
  rintro e W4 ⟨k1, o1, s1, b1, r1, m1, rfl, h1, hm1, kp, _⟩
  have hlt := (unhide hC).1.lt
  have C1 := ((unhide hC).1.alloc _).kept kp (by simp; omega)
  have hD := hide (show CapAt W4 w.heap.size k o s b r ∧ Kp [] w W4 from ⟨C1, h1.kp⟩)
  have c1 := C1.cells
  have hlt4 : w.heap.size < W4.heap.size := Bk.lt C1
  clear C1 h1 kp hC
  have hA : AL3 w (W4.heap.size + 1) (pick3 k 2 2) (pick3 o o1 1) (pick3 s s1 2) (pick3 b b1 1) (pick3 r r1 0) ((W4.alloc (.cells #[.int .i64 2, .int .i64 o1, .int .i64 s1, .int .i64 b1, .int .i64 r1] 24)).alloc (.cells #[.int .i64 k, .int .i64 o, .int .i64 s, .int .i64 b, .int .i64 r, .int .i64 2, .int .i64 o1, .int .i64 s1, .int .i64 b1, .int .i64 r1, .int .i64 2, .int .i64 1, .int .i64 2, .int .i64 1, .int .i64 0] 24)) := by
    have := AL3.start ((unhide hD).2.alloc (.cells #[.int .i64 2, .int .i64 o1, .int .i64 s1, .int .i64 b1, .int .i64 r1] 24)) k o s b r 2 o1 s1 b1 r1 2 1 2 1 0
    rw [show (W4.alloc (.cells #[.int .i64 2, .int .i64 o1, .int .i64 s1, .int .i64 b1, .int .i64 r1] 24)).heap.size = W4.heap.size + 1 from by simp] at this
    exact this
  go_wp2_with fail
  generalize ((W4.alloc (.cells #[.int .i64 2, .int .i64 o1, .int .i64 s1, .int .i64 b1, .int .i64 r1] 24)).alloc (.cells #[.int .i64 k, .int .i64 o, .int .i64 s, .int .i64 b, .int .i64 r, .int .i64 2, .int .i64 o1, .int .i64 s1, .int .i64 b1, .int .i64 r1, .int .i64 2, .int .i64 1, .int .i64 2, .int .i64 1, .int .i64 0] 24)) = V at hA
  generalize pick3 k 2 2 = K at hA
  generalize pick3 o o1 1 = O at hA
  generalize pick3 s s1 2 = S at hA
  generalize pick3 b b1 1 = B at hA
  generalize pick3 r r1 0 = R at hA
  generalize W4.heap.size + 1 = H at hA
  clear hD c1 hlt4 HR HJ hx hy hq hJ hI
  replace hA := hide hA
  go_loopg [21] 3 (fun m i wx => ∃ j : Nat, j ≤ 3 ∧ m = 3 - j ∧ i = .int .i64 j ∧ AL3 w H K O S B R wx)
  case atStart => exact ⟨0, by omega, rfl, rfl, unhide hA⟩
  case round =>
    obtain ⟨j, hj, rfl, rfl, hX⟩ := hrel
    clear hA
    replace hX := hide hX
    by_cases hlt : j < 3
    · have l1 : (j : Int) < 3 := by omega
      have l2 : decide ((j : Int) < 3) = true := decide_eq_true l1
      go_wp2_with fail
      go_loopg [22] 2 (fun m i wx => ∃ l : Nat, l ≤ 2 ∧ m = 2 - l ∧ i = .int .i64 l ∧ AL3 w H K O S B R wx)
      case atStart => exact ⟨0, by omega, rfl, rfl, unhide hX⟩
      case round =>
        obtain ⟨l, hl2, rfl, rfl, hY⟩ := hrel
        clear hX
        have cc := hY.1 j hlt
        replace hY := hide hY
        have hcase : l = 0 ∨ l = 1 ∨ l = 2 := by omega
        rcases hcase with rfl | rfl | rfl
        · obtain ⟨f, hf⟩ : ∃ f, stepS (K j) (O j) (S j) (B j) (R j) value depth = f := ⟨_, rfl⟩
          obtain ⟨g, hg⟩ : ∃ f, stepL (K j) (O j) (S j) (B j) (R j) value depth = f := ⟨_, rfl⟩
          obtain ⟨t, ht⟩ : ∃ f, stepOk (K j) (O j) (S j) (B j) (R j) value depth = f := ⟨_, rfl⟩
          replace hf := hide hf
          replace hg := hide hg
          replace ht := hide ht
          go_wp2_with fail
          refine (astep_to (K j) (O j) (S j) (B j) (R j) value depth f g t _ (unhide hf) (unhide hg) (unhide ht)).mono ?_
          rintro e W5 ⟨rfl, K5⟩
          replace hY := (unhide hY).kept K5
          have cc1 := hY.1 j hlt
          replace hY := hide hY
          clear cc K5
          go_wp2_with fail
          refine (rstep_to (K j) (O j) (S j) (B j) (R j) value depth f g t _ (unhide hf) (unhide hg) (unhide ht)).mono ?_
          rintro e W6 ⟨rfl, K6⟩
          replace hY := hide ((unhide hY).kept K6)
          clear cc1 K6
          go_wp2
          go_roundg (2 - 1)
          case rel => exact ⟨1, by omega, rfl, by go_num, unhide hY⟩
          case measure => omega
        · obtain ⟨N, hN⟩ : ∃ x, depth % 25 = x := ⟨_, rfl⟩
          have N1 : 0 ≤ N ∧ N ≤ 24 := by omega
          have hW := wrap_pow N N1.1 N1.2
          have hP1 := pow24 N N1.1 N1.2
          obtain ⟨P, hP⟩ : ∃ P : Int, ((2 ^ N.toNat : Nat) : Int) = P := ⟨_, rfl⟩
          rw [hP] at hW hP1
          obtain ⟨Q, hQ⟩ : ∃ x, value % P = x := ⟨_, rfl⟩
          obtain ⟨f, hf⟩ : ∃ f, stepS (K j) (O j) (S j) (B j) (R j) Q N = f := ⟨_, rfl⟩
          obtain ⟨g, hg⟩ : ∃ f, stepL (K j) (O j) (S j) (B j) (R j) Q N = f := ⟨_, rfl⟩
          obtain ⟨t, ht⟩ : ∃ f, stepOk (K j) (O j) (S j) (B j) (R j) Q N = f := ⟨_, rfl⟩
          replace hf := hide hf
          replace hg := hide hg
          replace ht := hide ht
          replace hN := hide hN
          replace hP := hide hP
          replace hQ := hide hQ
          go_wp2_with fail
          refine (number_to _ _ _ _ (by omega) (by omega) (unhide hN)).mono ?_
          rintro e w' ⟨rfl, rfl⟩
          go_wp2_with fail
          refine (number_to _ _ _ _ (by omega) (by omega) (unhide hQ)).mono ?_
          rintro e w' ⟨rfl, rfl⟩
          go_wp2_with fail
          refine (astep_to (K j) (O j) (S j) (B j) (R j) Q N f g t _ (unhide hf) (unhide hg) (unhide ht)).mono ?_
          rintro e W5 ⟨rfl, K5⟩
          replace hY := (unhide hY).kept K5
          have cc1 := hY.1 j hlt
          replace hY := hide hY
          clear cc K5
          go_wp2_with fail
          refine (rstep_to (K j) (O j) (S j) (B j) (R j) Q N f g t _ (unhide hf) (unhide hg) (unhide ht)).mono ?_
          rintro e W6 ⟨rfl, K6⟩
          replace hY := hide ((unhide hY).kept K6)
          clear cc1 K6
          go_wp2
          go_roundg (2 - 2)
          case rel => exact ⟨2, by omega, rfl, by go_num, unhide hY⟩
          case measure => omega
        · clear cc
          go_wp2
          go_roundg (3 - (j + 1))
          case rel => exact ⟨j + 1, by omega, rfl, by go_num, unhide hY⟩
          case measure => omega
    · go_wp2
      go_ret
      exact ⟨rfl, (unhide hX).2.below (Nat.le_refl _) (by simp)⟩
set_option maxHeartbeats 400000 in
theorem says_out (a0 k o s b r : Int) (a : Option Addr) (len cap : Nat) (value depth : Int) (w : World) (h : 20 < len) (hm : len ≤ 9223372036854775807) :
    Calls Try.prog 3 #[.int .u32 a0, capV k o s b r, .slice a len cap, .int .i64 value, .int .i64 depth] w fun e w' => e = .returned (.bool true) ∧ Below w.heap.size w w' := by
  have d1 : decide ((20 : Int) < (len : Int)) = true := decide_eq_true (by omega)
  go_enter Try.func3, Try.ntmps3
  go_wp2_with fail
  refine (first_kp _).mono ?_
  rintro e W0 ⟨rfl, K0⟩
  replace K0 := hide K0
  go_wp2
  go_ret
  exact ⟨rfl, (((Kp.refl [] w).alloc _).then (unhide K0)).below (Nat.le_refl _) (by simp)⟩
theorem says_law (a0 k o s b r : Int) (a : Option Addr) (len cap : Nat) (zs : List Int) (value depth : Int) (w : World) (h0 : (Lit.int .u32 a0).wf = true) (_ : (Lit.int .i64 k).wf = true) (_ : (Lit.int .i64 o).wf = true) (_ : (Lit.int .i64 s).wf = true) (_ : (Lit.int .i64 b).wf = true) (_ : (Lit.int .i64 r).wf = true) (hl : zs.length = len) (hI : Ints .i64 w a zs) (_ : (Lit.int .i64 value).wf = true) (_ : (Lit.int .i64 depth).wf = true) :
    Calls Try.prog 3 #[.int .u32 a0, capV k o s b r, .slice a len cap, .int .i64 value, .int .i64 depth] w fun e w' => e = .returned (.bool true) ∧ Below w.heap.size w w' := by
  have hn : 0 ≤ a0 ∧ a0 < 4294967296 := by have := bounds_u32 h0; omega
  subst hl
  by_cases h : zs.length ≤ 20
  · exact says_in a0 k o s b r a cap zs value depth w hn h hI
  · exact says_out a0 k o s b r a _ cap value depth w (by omega) hI.1
end Go.Proofs.Ytejkelfhihfklaa
