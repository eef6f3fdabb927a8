/- Package caps, the rest: fewer rights, a badge, one object, its units. -/
import Derived.Test.YtjjgjgncnifjmaaKCaps
namespace Go.Proofs.Ytjjgjgncnifjmaa
open Go.RowKit
set_option linter.unusedVariables false
/-- The bits that two numbers have, of the lowest three. -/
def lessR (r m : Int) : Int := (((r % 8).toNat &&& (m % 8).toNat : Nat) : Int)
theorem mod8_of (X r : Int) (h : X = r % 18446744073709551616) : X.toNat % 8 = (r % 8).toNat := by subst h; omega
theorem and_low (r : Int) (a : Nat) (ha : a < 8) : bits .and .i64 r (a : Int) = (((r % 8).toNat &&& a : Nat) : Int) := by
  show IntKind.i64.wrap ((BitVec.ofInt 64 r &&& BitVec.ofInt 64 (a : Int)).toNat : Int) = _
  have e1 : (BitVec.ofInt 64 (a : Int)).toNat = a := by rw [BitVec.ofInt_natCast, BitVec.toNat_ofNat]; exact Nat.mod_eq_of_lt (by omega)
  have e2 : (BitVec.ofInt 64 r).toNat % 8 = (r % 8).toNat := by rw [BitVec.toNat_ofInt]; exact mod8_of _ r rfl
  have e3 : a = 7 &&& a := by
    have : ∀ a : Fin 8, (a : Nat) = 7 &&& (a : Nat) := by decide
    exact this ⟨a, ha⟩
  have e4 : (BitVec.ofInt 64 r).toNat &&& a = (r % 8).toNat &&& a := by
    rw [e3, ← Nat.and_assoc, show (7 : Nat) = 2 ^ 3 - 1 from rfl, Nat.and_two_pow_sub_one_eq_mod, ← Nat.and_assoc, Nat.and_two_pow_sub_one_eq_mod, show (2 : Nat) ^ 3 = 8 from rfl, e2, Nat.mod_eq_of_lt (show (r % 8).toNat < 8 by omega)]
  have e5 : (r % 8).toNat &&& a < 8 := Nat.lt_of_le_of_lt Nat.and_le_right ha
  rw [BitVec.toNat_and, e1, e4]
  generalize (r % 8).toNat &&& a = x at e5
  unfold IntKind.wrap
  have hx : ((x : Int) % 2 ^ IntKind.i64.bits) = x := by
    show (x : Int) % 18446744073709551616 = x
    omega
  rw [hx]
  have : ¬ ((x : Int) ≥ 2 ^ (IntKind.i64.bits - 1)) := by
    show ¬ ((x : Int) ≥ 9223372036854775808)
    omega
  simp [this]
theorem and_7 (m : Int) : bits .and .i64 m 7 = (((m % 8).toNat : Nat) : Int) := by
  rw [show (7 : Int) = ((7 : Nat) : Int) from rfl, and_low m 7 (by omega), show (7 : Nat) = 2 ^ 3 - 1 from rfl, Nat.and_two_pow_sub_one_eq_mod, Nat.mod_eq_of_lt (show (m % 8).toNat < 2 ^ 3 by omega)]
theorem less_walk (r m : Int) : bits .and .i64 r (bits .and .i64 m 7) = lessR r m := by
  rw [and_7, and_low r _ (by omega)]; rfl
theorem and_lt8 (a b : Nat) (hb : b < 8) : a &&& b < 8 := Nat.lt_of_le_of_lt Nat.and_le_right hb
theorem lessR_bd (r m : Int) : 0 ≤ lessR r m ∧ lessR r m < 8 := by
  have := and_lt8 (r % 8).toNat (m % 8).toNat (by omega)
  unfold lessR; omega
/-- The document's own order of it. -/
theorem rless_walk (r m : Int) : bits .and .i64 (bits .and .i64 r m) 7 = lessR r m := by
  rw [and_7]
  unfold lessR
  congr 1
  show ((IntKind.i64.wrap ((BitVec.ofInt 64 r &&& BitVec.ofInt 64 m).toNat : Int)) % 8).toNat = _
  have e1 : (BitVec.ofInt 64 r).toNat % 8 = (r % 8).toNat := by rw [BitVec.toNat_ofInt]; exact mod8_of _ r rfl
  have e2 : (BitVec.ofInt 64 m).toNat % 8 = (m % 8).toNat := by rw [BitVec.toNat_ofInt]; exact mod8_of _ m rfl
  have e3 : ∀ x : Nat, (IntKind.i64.wrap (x : Int) % 8).toNat = x % 8 := by
    intro x
    unfold IntKind.wrap
    show ((if (true && decide (((x : Int) % 18446744073709551616) ≥ 9223372036854775808)) = true then (x : Int) % 18446744073709551616 - 18446744073709551616 else (x : Int) % 18446744073709551616) % 8).toNat = x % 8
    split <;> omega
  rw [e3, BitVec.toNat_and, ← e1, ← e2, show (8 : Nat) = 2 ^ 3 from rfl, Nat.and_mod_two_pow]
def namesP (k o s k' o' s' : Int) : Bool := decide (k = k' ∧ o = o' ∧ (k = 1 → s = s'))
/-- With a badge, or a guard: the capability's numbers, and the code. -/
def bdg (k o s b r n : Int) : Int × Int × Int × Int × Int × Int :=
  if k = 4 ∨ k = 5 then (if b ≠ 0 ∨ n = 0 then (0, 0, 0, 0, 0, 12) else if 2147483647 < n then (0, 0, 0, 0, 0, 7) else (k, o, s, n, r, 0))
  else if k = 2 then (if chk 2 o (n % 256) (n / 256) r = true then (2, o, n % 256, n / 256, r, 0) else (0, 0, 0, 0, 0, 7))
  else (0, 0, 0, 0, 0, 5)
theorem field8 (n : Int) (h0 : 0 ≤ n) : ((fldN n.toNat (0 : Int).toNat (widthOf 0 8).toNat : Nat) : Int) = n % 256 := by
  rw [show (widthOf 0 8).toNat = 8 from rfl, show (0 : Int).toNat = 0 from rfl]
  unfold fldN
  simp
  omega
theorem five {S : List Nat} {w w' : World} (h : Kp S w w') {p : Nat} (hp : w.heap.size ≤ p) (a b c d e : Value) :
    Kp S w (((((w'.setCell ⟨p, 0, none⟩ a).setCell ⟨p, 1, none⟩ b).setCell ⟨p, 2, none⟩ c).setCell ⟨p, 3, none⟩ d).setCell ⟨p, 4, none⟩ e) :=
  ((((h.setCell (.inr hp) _).setCell (.inr hp) _).setCell (.inr hp) _).setCell (.inr hp) _).setCell (.inr hp) _
theorem Bk.next (w : World) (T : TypeId) (vs : List Value) {p : Nat} (hp : w.heap.size = p) : Bk (w.alloc (.cells vs.toArray T)) p T vs := by subst hp; exact Bk.new w T vs
theorem Bk.setOther {w : World} {g : Nat} {T : TypeId} {vs : List Value} (h : Bk w g T vs) {p : Addr} (hp : p.block ≠ g) (v : Value) : Bk (w.setCell p v) g T vs := by
  unfold Bk at *
  rw [Below.heap_setCell _ _ _ _ (fun e => hp e.symm)]
  exact h
end Go.Proofs.Ytjjgjgncnifjmaa
