/- NotifAgain, reckoned: words put together; a row of those that wait, from a place on. -/
import Derived.Test.YtgahekhlbcnmaaaKTw13
namespace Go.Proofs.Ytgahekhlbcnmaaa
open Go.RowKit
set_option linter.unusedVariables false
theorem uor_is (a b : Int) : uor a b = (((BitVec.ofInt 32 a ||| BitVec.ofInt 32 b).toNat : Nat) : Int) := by
  show IntKind.u32.wrap (((BitVec.ofInt 32 a ||| BitVec.ofInt 32 b).toNat : Nat) : Int) = _
  have h := (BitVec.ofInt 32 a ||| BitVec.ofInt 32 b).isLt
  rw [IntKind.wrap_u32]
  omega
theorem uor_back (a b : Int) : BitVec.ofInt 32 (uor a b) = BitVec.ofInt 32 a ||| BitVec.ofInt 32 b := by
  rw [uor_is]
  apply BitVec.eq_of_toNat_eq
  rw [BitVec.toNat_ofInt]
  have h := (BitVec.ofInt 32 a ||| BitVec.ofInt 32 b).isLt
  omega
theorem uor_zero (a b : Int) : uor 0 (uor a b) = uor a b := by
  rw [uor_is 0, uor_back, uor_is a b]
  congr 2
  have : BitVec.ofInt 32 0 = 0#32 := rfl
  rw [this, BitVec.zero_or]
theorem uor_four (b : Int) : uor b 4 ≠ 0 := by
  intro h
  rw [uor_is] at h
  have h2 : (BitVec.ofInt 32 b ||| BitVec.ofInt 32 4).toNat = 0 := by omega
  have h3 : (BitVec.ofInt 32 b ||| BitVec.ofInt 32 4) = 0#32 := BitVec.eq_of_toNat_eq (by rw [h2]; rfl)
  have h4 := congrArg (fun v : BitVec 32 => v.getLsbD 2) h3
  simp at h4
/-- Those that wait: (1, 0), (1, 1), .. -/
def wl (n : Nat) : List (Int × Int) := (List.range n).map fun i : Nat => ((1 : Int), (i : Int))
theorem wl_len (n : Nat) : (wl n).length = n := by unfold wl; simp
theorem wl_get {n i : Nat} (h : i < n) : (wl n)[i]? = some (1, (i : Int)) := by unfold wl; simp [h]
theorem wl_mem {n : Nat} {q : Int × Int} : q ∈ wl n ↔ ∃ i : Nat, i < n ∧ q = (1, (i : Int)) := by
  unfold wl
  rw [List.mem_map]
  constructor
  · rintro ⟨i, hi, rfl⟩; exact ⟨i, List.mem_range.1 hi, rfl⟩
  · rintro ⟨i, hi, rfl⟩; exact ⟨i, List.mem_range.2 hi, rfl⟩
theorem wl_succ (n : Nat) : wl (n + 1) = wl n ++ [(1, (n : Int))] := by unfold wl; rw [List.range_succ, List.map_append]; rfl
theorem wl_push (n : Nat) : lPush (wl n) (1, (n : Int)) = wl (n + 1) := by
  rw [lPush_yes, wl_succ]
  intro h
  obtain ⟨i, hi, e⟩ := wl_mem.1 h
  have := congrArg Prod.snd e
  simp only at this
  omega
theorem wl_there {n k : Nat} (h : k < n) : lPush (wl n) (1, (k : Int)) = wl n := lPush_no (wl_mem.2 ⟨k, h, rfl⟩)
theorem drop_fst {L : List (Int × Int)} {i : Nat} {q : Int × Int} (h : L[i]? = some q) : lFst (L.drop i) = q ∧ (L.drop i).isEmpty = false ∧ (L.drop i).tail = L.drop (i + 1) := by
  obtain ⟨hi, rfl⟩ := List.getElem?_eq_some_iff.1 h
  rw [List.drop_eq_getElem_cons hi]
  exact ⟨rfl, rfl, rfl⟩
/-- A Signal that wakes number i. -/
theorem sig_at {L : List (Int × Int)} {i : Nat} {q : Int × Int} (h : L[i]? = some q) {word b s : Int} (hs : uor word b = s) (h0 : s ≠ 0) : sigW word b (L.drop i) = true ∧ sigQ word b (L.drop i) = q ∧ sigB word b (L.drop i) = s ∧ sigN word b (L.drop i) = 0 ∧ sigL word b (L.drop i) = L.drop (i + 1) := by
  obtain ⟨h1, h2, h3⟩ := drop_fst h
  have e : sigW word b (L.drop i) = true := by unfold sigW; rw [hs, h2, decide_eq_true h0]; rfl
  refine ⟨e, ?_, ?_, ?_, ?_⟩
  · unfold sigQ; rw [e]; exact h1
  · unfold sigB; rw [e]; exact hs
  · unfold sigN; rw [e]; rfl
  · unfold sigL; rw [e]; exact h3
end Go.Proofs.Ytgahekhlbcnmaaa
