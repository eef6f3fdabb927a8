/- The walk of CapsLess. -/
import Derived.Test.YtndbmhdkckmfcaaKNames
import Derived.Test.YtndbmhdkckmfcaaKMkCap
import Derived.Deep.RegionHeld3
namespace Go.Proofs.Ytndbmhdkckmfcaa
open Go.RowKit
set_option linter.unusedVariables false
theorem f8 (p : Nat → Nat → Nat → Prop) [∀ a b c, Decidable (p a b c)] (h : ∀ a : Fin 8, ∀ b : Fin 8, ∀ c : Fin 8, p a b c) (a b c : Nat) (ha : a < 8) (hb : b < 8) (hc : c < 8) : p a b c := h ⟨a, ha⟩ ⟨b, hb⟩ ⟨c, hc⟩
theorem lessR_nat (r a : Nat) (m : Int) (hr : r < 8) (hm : (m % 8).toNat = a) : lessR (r : Int) m = ((r &&& a : Nat) : Int) := by
  unfold lessR
  rw [hm, show ((r : Int) % 8).toNat = r by omega]
theorem less_both (r a b : Nat) (hr : r < 8) (ha : a < 8) (hb : b < 8) : (r &&& a) &&& b = r &&& (a &&& b) ∧ r &&& a < 8 := ⟨Nat.and_assoc r a b, and_lt8 r a ha⟩
theorem andNot_low : ∀ r : Fin 8, ∀ a : Fin 8, bits .andNot .i64 (((r : Nat) &&& (a : Nat) : Nat) : Int) ((r : Nat) : Int) = 0 ∧ bits .andNot .i64 (((r : Nat) &&& (a : Nat) : Nat) : Int) ((a : Nat) : Int) = 0 := by decide
theorem and_mod8 (a b : Int) : (bits .and .i64 a b % 8).toNat = (a % 8).toNat &&& (b % 8).toNat := by
  have := rless_walk a b
  rw [and_7] at this
  unfold lessR at this
  omega
/-- The five capabilities of the law. -/
def LL (C X Y Z D : Nat) (k o s b : Int) (R x y : Nat) (wx : World) : Prop := CapAt wx C k o s b R ∧ CapAt wx X k o s b x ∧ CapAt wx Y k o s b y ∧ CapAt wx Z k o s b y ∧ CapAt wx D k o s b x
theorem LL.kept {C X Y Z D : Nat} {k o s b : Int} {R x y : Nat} {w w' : World} (h : LL C X Y Z D k o s b R x y w) (kp : Kp [] w w') : LL C X Y Z D k o s b R x y w' :=
  ⟨h.1.kept kp (by simp), h.2.1.kept kp (by simp), h.2.2.1.kept kp (by simp), h.2.2.2.1.kept kp (by simp), h.2.2.2.2.kept kp (by simp)⟩
theorem LL.drew {C X Y Z D : Nat} {k o s b : Int} {R x y : Nat} {w : World} (h : LL C X Y Z D k o s b R x y w) : LL C X Y Z D k o s b R x y w.drew := h
theorem LL.cells {C X Y Z D : Nat} {k o s b : Int} {R x y : Nat} {w' : World} (h : LL C X Y Z D k o s b R x y w') : w'.cell? ⟨C, 0, none⟩ = some (.int .i64 k) ∧ w'.cell? ⟨C, 1, none⟩ = some (.int .i64 o) ∧ w'.cell? ⟨C, 2, none⟩ = some (.int .i64 s) ∧ w'.cell? ⟨C, 3, none⟩ = some (.int .i64 b) ∧ w'.cell? ⟨C, 4, none⟩ = some (.int .i64 (R : Int)) ∧ w'.cell? ⟨X, 0, none⟩ = some (.int .i64 k) ∧ w'.cell? ⟨X, 1, none⟩ = some (.int .i64 o) ∧ w'.cell? ⟨X, 2, none⟩ = some (.int .i64 s) ∧ w'.cell? ⟨X, 3, none⟩ = some (.int .i64 b) ∧ w'.cell? ⟨X, 4, none⟩ = some (.int .i64 (x : Int)) ∧ w'.cell? ⟨Y, 0, none⟩ = some (.int .i64 k) ∧ w'.cell? ⟨Y, 1, none⟩ = some (.int .i64 o) ∧ w'.cell? ⟨Y, 2, none⟩ = some (.int .i64 s) ∧ w'.cell? ⟨Y, 3, none⟩ = some (.int .i64 b) ∧ w'.cell? ⟨Y, 4, none⟩ = some (.int .i64 (y : Int)) ∧ w'.cell? ⟨Z, 0, none⟩ = some (.int .i64 k) ∧ w'.cell? ⟨Z, 1, none⟩ = some (.int .i64 o) ∧ w'.cell? ⟨Z, 2, none⟩ = some (.int .i64 s) ∧ w'.cell? ⟨Z, 3, none⟩ = some (.int .i64 b) ∧ w'.cell? ⟨Z, 4, none⟩ = some (.int .i64 (y : Int)) ∧ w'.cell? ⟨D, 0, none⟩ = some (.int .i64 k) ∧ w'.cell? ⟨D, 1, none⟩ = some (.int .i64 o) ∧ w'.cell? ⟨D, 2, none⟩ = some (.int .i64 s) ∧ w'.cell? ⟨D, 3, none⟩ = some (.int .i64 b) ∧ w'.cell? ⟨D, 4, none⟩ = some (.int .i64 (x : Int)) :=
  have c := h.1.cells
  have x := h.2.1.cells
  have y := h.2.2.1.cells
  have z := h.2.2.2.1.cells
  have d := h.2.2.2.2.cells
  ⟨c.1, c.2.1, c.2.2.1, c.2.2.2.1, c.2.2.2.2.1, x.1, x.2.1, x.2.2.1, x.2.2.2.1, x.2.2.2.2.1, y.1, y.2.1, y.2.2.1, y.2.2.2.1, y.2.2.2.2.1, z.1, z.2.1, z.2.2.1, z.2.2.2.1, z.2.2.2.2.1, d.1, d.2.1, d.2.2.1, d.2.2.2.1, d.2.2.2.2.1⟩
theorem sq_start {w W0 : World} {a : Option Addr} {zs : List Int} (cap : Nat) (K0 : Kp [] w W0) (hI : Ints .i64 w a zs) : Sq w (W0.alloc (.cells #[.slice a zs.length cap, .int .i64 0] 29)) W0.heap.size a cap zs 0 :=
  ⟨Bk.new W0 _ [.slice a zs.length cap, .int .i64 0], K0.size, K0.alloc _, hI, by omega⟩
theorem less_agg (k o s b r m v : Int) (w : World) (h : lessR r m = v) :
    Calls Try.prog 14 #[capV k o s b r, .int .i64 m] w fun e w' => e = .returned (.agg #[.int .i64 k, .int .i64 o, .int .i64 s, .int .i64 b, .int .i64 v]) ∧ Kp [] w w' := less_to k o s b r m v w h
set_option maxHeartbeats 2000000 in
theorem less_in (a : Option Addr) (cap : Nat) (zs : List Int) (u v : Int) (w : World) (hl : zs.length ≤ 40) (hI : Ints .i64 w a zs) :
    Calls Try.prog 4 #[.slice a zs.length cap, .int .i64 u, .int .i64 v] w fun e w' => e = .returned (.bool true) ∧ Below w.heap.size w w' := by
  have d1 : decide ((40 : Int) < (zs.length : Int)) = false := decide_eq_false (by omega)
  replace hI := hide hI
  obtain ⟨A, hA⟩ : ∃ A : Nat, (u % 8).toNat = A := ⟨_, rfl⟩
  obtain ⟨B, hB⟩ : ∃ B : Nat, (v % 8).toNat = B := ⟨_, rfl⟩
  have A8 : A < 8 := by omega
  have B8 : B < 8 := by omega
  have hAB := hide (and_mod8 u v)
  rw [hA, hB] at hAB
  have hu7 : bits .and .i64 u 7 = (A : Int) := by rw [and_7, hA]
  replace hA := hide hA
  replace hB := hide hB
  go_enter Try.func4, Try.ntmps4
  go_wp2_with fail
  refine (first_calls _).mono ?_
  rintro e W0 ⟨rfl, K0⟩
  replace K0 := hide K0
  go_wp2_with fail
  refine (mkcap_calls (sq_start cap (unhide K0) (unhide hI)) (by omega)).mono ?_
  rintro e W1 ⟨k, o, s, b, r, m, rfl, h1, _, _, hin⟩
  obtain ⟨R, rfl⟩ : ∃ R : Nat, r = (R : Int) := ⟨r.toNat, by have := hin.2.2.1; omega⟩
  have R8 : R < 8 := by have := hin.2.2.1; omega
  have K1 := hide h1.kp
  clear h1 hin
  have hr7 : bits .and .i64 (R : Int) 7 = (R : Int) := by rw [and_7]; omega
  obtain ⟨x, hx⟩ : ∃ x, R &&& A = x := ⟨_, rfl⟩
  obtain ⟨y, hy⟩ : ∃ y, x &&& B = y := ⟨_, rfl⟩
  have L1 := hide (show lessR (R : Int) u = (x : Int) from by rw [lessR_nat R A u R8 (unhide hA), hx])
  have x8 : x < 8 := by rw [← hx]; exact and_lt8 R A A8
  have L2 := hide (show lessR (x : Int) v = (y : Int) from by rw [lessR_nat x B v x8 (unhide hB), hy])
  have L3 := hide (show lessR (R : Int) (bits .and .i64 u v) = (y : Int) from by rw [lessR_nat R (A &&& B) _ R8 (unhide hAB), ← Nat.and_assoc, hx, hy])
  have N1 : bits .andNot .i64 (x : Int) (R : Int) = 0 := by rw [← hx]; exact (andNot_low ⟨R, R8⟩ ⟨A, A8⟩).1
  have N2 : bits .andNot .i64 (x : Int) (A : Int) = 0 := by rw [← hx]; exact (andNot_low ⟨R, R8⟩ ⟨A, A8⟩).2
  have L7 := hide (show lessR (R : Int) 7 = (R : Int) from by rw [lessR_nat R 7 7 R8 rfl, show (7 : Nat) = 2 ^ 3 - 1 from rfl, Nat.and_two_pow_sub_one_eq_mod]; omega)
  have Lm := hide (show lessR (R : Int) (-1) = (R : Int) from by rw [lessR_nat R 7 (-1) R8 rfl, show (7 : Nat) = 2 ^ 3 - 1 from rfl, Nat.and_two_pow_sub_one_eq_mod]; omega)
  have L0 := hide (show lessR (R : Int) 0 = 0 from by rw [lessR_nat R 0 0 R8 rfl]; simp)
  have HN := hide (show namesP k o s k o s = true from by simp [namesP])
  replace hx := hide hx
  replace hy := hide hy
  go_wp2_with fail
  refine (less_to k o s b R u x _ (unhide L1)).mono ?_
  rintro e W2 ⟨rfl, K2⟩
  have C2 := (CapAt.next _ k o s b R rfl).kept K2 (by simp)
  replace K2 := hide (((unhide K1).alloc _).then K2)
  have c2 := C2.cells
  have l2 : W1.heap.size < W2.heap.size := Bk.lt C2
  go_wp2_with fail
  refine (less_to k o s b x v y _ (unhide L2)).mono ?_
  rintro e W3 ⟨rfl, K3⟩
  have C3 := (C2.alloc _).kept K3 (by simp)
  have X3 := (CapAt.next _ k o s b x rfl).kept K3 (by simp)
  replace K3 := hide (((unhide K2).alloc _).then K3)
  have c3 := C3.cells
  have x3 := X3.cells
  have l3 : W1.heap.size < W3.heap.size := Bk.lt C3
  have m3 : W2.heap.size < W3.heap.size := Bk.lt X3
  clear C2 c2
  go_wp2_with fail
  refine (less_to k o s b R (bits .and .i64 u v) y _ (unhide L3)).mono ?_
  rintro e W4 ⟨rfl, K4⟩
  have C4 := (C3.alloc _).kept K4 (by simp)
  have X4 := (X3.alloc _).kept K4 (by simp)
  have Y4 := (CapAt.next _ k o s b y rfl).kept K4 (by simp)
  replace K4 := hide (((unhide K3).alloc _).then K4)
  have c4 := C4.cells
  have x4 := X4.cells
  have l4 : W1.heap.size < W4.heap.size := Bk.lt C4
  have m4 : W2.heap.size < W4.heap.size := Bk.lt X4
  clear C3 c3 X3 x3
  go_upto_region 13 with fail
  have hL : LL W1.heap.size W2.heap.size W3.heap.size W4.heap.size (W4.heap.size + 1) k o s b R x y ((W4.alloc (.cells #[.int .i64 k, .int .i64 o, .int .i64 s, .int .i64 b, .int .i64 (y : Int)] 23)).alloc (.cells #[.int .i64 k, .int .i64 o, .int .i64 s, .int .i64 b, .int .i64 (x : Int)] 23)) :=
    ⟨(C4.alloc _).alloc _, (X4.alloc _).alloc _, (Y4.alloc _).alloc _, (CapAt.next _ k o s b y rfl).alloc _, CapAt.next _ k o s b x (by simp)⟩
  have hK : Kp [] w ((W4.alloc (.cells #[.int .i64 k, .int .i64 o, .int .i64 s, .int .i64 b, .int .i64 (y : Int)] 23)).alloc (.cells #[.int .i64 k, .int .i64 o, .int .i64 s, .int .i64 b, .int .i64 (x : Int)] 23)) := ((unhide K4).alloc _).alloc _
  clear C4 c4 X4 x4 Y4 l4 m4 K4 l3 m3 l2 K3 K2 hI
  generalize ((W4.alloc (.cells #[.int .i64 k, .int .i64 o, .int .i64 s, .int .i64 b, .int .i64 (y : Int)] 23)).alloc (.cells #[.int .i64 k, .int .i64 o, .int .i64 s, .int .i64 b, .int .i64 (x : Int)] 23)) = W at hL hK
  have hfd : ∀ w : World, (Instr.field 23 (.agg #[.int .i64 k, .int .i64 o, .int .i64 s, .int .i64 b, .int .i64 0]) 4).run Try.prog w = .ok (.int .i64 0) w := fun _ => by kernel_rfl
  have hLd := hide hL.drew
  have hKd := hide hK.drew
  clear hL hK
  go_region_held3 (fun w' => w'.cell? ⟨W1.heap.size, 0, none⟩ = some (.int .i64 k) ∧ w'.cell? ⟨W1.heap.size, 1, none⟩ = some (.int .i64 o) ∧ w'.cell? ⟨W1.heap.size, 2, none⟩ = some (.int .i64 s) ∧ w'.cell? ⟨W1.heap.size, 3, none⟩ = some (.int .i64 b) ∧ w'.cell? ⟨W1.heap.size, 4, none⟩ = some (.int .i64 (R : Int)) ∧ w'.cell? ⟨W2.heap.size, 0, none⟩ = some (.int .i64 k) ∧ w'.cell? ⟨W2.heap.size, 1, none⟩ = some (.int .i64 o) ∧ w'.cell? ⟨W2.heap.size, 2, none⟩ = some (.int .i64 s) ∧ w'.cell? ⟨W2.heap.size, 3, none⟩ = some (.int .i64 b) ∧ w'.cell? ⟨W2.heap.size, 4, none⟩ = some (.int .i64 (x : Int)) ∧ w'.cell? ⟨W3.heap.size, 0, none⟩ = some (.int .i64 k) ∧ w'.cell? ⟨W3.heap.size, 1, none⟩ = some (.int .i64 o) ∧ w'.cell? ⟨W3.heap.size, 2, none⟩ = some (.int .i64 s) ∧ w'.cell? ⟨W3.heap.size, 3, none⟩ = some (.int .i64 b) ∧ w'.cell? ⟨W3.heap.size, 4, none⟩ = some (.int .i64 (y : Int)) ∧ w'.cell? ⟨W4.heap.size, 0, none⟩ = some (.int .i64 k) ∧ w'.cell? ⟨W4.heap.size, 1, none⟩ = some (.int .i64 o) ∧ w'.cell? ⟨W4.heap.size, 2, none⟩ = some (.int .i64 s) ∧ w'.cell? ⟨W4.heap.size, 3, none⟩ = some (.int .i64 b) ∧ w'.cell? ⟨W4.heap.size, 4, none⟩ = some (.int .i64 (y : Int)) ∧ w'.cell? ⟨W4.heap.size + 1, 0, none⟩ = some (.int .i64 k) ∧ w'.cell? ⟨W4.heap.size + 1, 1, none⟩ = some (.int .i64 o) ∧ w'.cell? ⟨W4.heap.size + 1, 2, none⟩ = some (.int .i64 s) ∧ w'.cell? ⟨W4.heap.size + 1, 3, none⟩ = some (.int .i64 b) ∧ w'.cell? ⟨W4.heap.size + 1, 4, none⟩ = some (.int .i64 (x : Int))) (first | exact (unhide q4).cells | exact (unhide q3).cells | exact (unhide q2).cells | exact (unhide q1).cells | exact (unhide hLd).cells) (first
    | (go_at_call 14; (with_reducible refine (less_agg k o s b R 7 R _ (unhide L7)).mono ?_); rintro e V1 ⟨rfl, K1⟩; have q1 := hide ((unhide hLd).kept K1); have r1 := hide ((unhide hKd).then K1); clear K1)
    | (go_at_call 14; (with_reducible refine (less_agg k o s b R (-1) R _ (unhide Lm)).mono ?_); rintro e V2 ⟨rfl, K1⟩; have q2 := hide ((unhide q1).kept K1); have r2 := hide ((unhide r1).then K1); clear K1)
    | (go_at_call 14; (with_reducible refine (less_agg k o s b R 0 0 _ (unhide L0)).mono ?_); rintro e V3 ⟨rfl, K1⟩; have q3 := hide ((unhide q2).kept K1); have r3 := hide ((unhide r2).then K1); clear K1)
    | (go_at_call 18; (with_reducible refine (names_to k o s b R k o s b x _ _ (unhide HN)).mono ?_); rintro e V4 ⟨rfl, K1⟩; have q4 := hide ((unhide q3).kept K1); have r4 := hide ((unhide r3).then K1); clear K1))
  all_goals
    go_wp2
    go_ret
    exact ⟨rfl, (unhide r4).below (Nat.le_refl _) (by simp)⟩
theorem less_out (a : Option Addr) (len cap : Nat) (u v : Int) (w : World) (hl : 40 < len) :
    Calls Try.prog 4 #[.slice a len cap, .int .i64 u, .int .i64 v] w fun e w' => e = .returned (.bool true) ∧ Below w.heap.size w w' := by
  have d1 : (40 : Int) < (len : Int) := by omega
  go_enter Try.func4, Try.ntmps4
  go_wp2_with fail
  refine (first_calls _).mono ?_
  rintro e W0 ⟨rfl, K0⟩
  replace K0 := hide K0
  go_wp2
  go_ret
  exact ⟨rfl, (unhide K0).below (Nat.le_refl _) (by simp)⟩
theorem less_law (a : Option Addr) (len cap : Nat) (zs : List Int) (u v : Int) (w : World) (hl : zs.length = len) (hI : Ints .i64 w a zs) (_ : (Lit.int .i64 u).wf = true) (_ : (Lit.int .i64 v).wf = true) :
    Calls Try.prog 4 #[.slice a len cap, .int .i64 u, .int .i64 v] w fun e w' => e = .returned (.bool true) ∧ Below w.heap.size w w' := by
  subst hl
  by_cases h : zs.length ≤ 40
  · exact less_in a cap zs u v w h hI
  · exact less_out a _ cap u v w (by omega)
end Go.Proofs.Ytndbmhdkckmfcaa
