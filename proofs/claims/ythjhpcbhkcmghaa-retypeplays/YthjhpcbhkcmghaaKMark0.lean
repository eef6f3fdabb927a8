/- The document's marks (ringkernref1.Marks): how many of a range's units were taken. -/
import Derived.Test.YthjhpcbhkcmghaaKRow
import Derived.Test.YthjhpcbhkcmghaaKTab
import Derived.Deep.DeepCutAuto
import Derived.Deep.RegionHeld3
namespace Go.Proofs.Ythjhpcbhkcmghaa
open Go.RowKit
set_option linter.unusedVariables false
/-- A mark: a range, how many of its units were taken. -/
structure Mk where
  b : Int
  z : Int
  n : Int
def markE : Gr.Enc Mk 92 3 := ⟨fun x => [.int .i64 x.b, .int .i64 x.z, .int .i64 x.n], fun _ => rfl, fun x v hv => by
  simp only [List.mem_cons, List.not_mem_nil, or_false] at hv
  rcases hv with rfl | rfl | rfl <;> rfl⟩
theorem markE_vals (x : Mk) : markE.vals x = [.int .i64 x.b, .int .i64 x.z, .int .i64 x.n] := rfl
def mkAt (M : List Mk) (b z : Int) : Option Nat := M.findIdx? fun x => x.b == b && x.z == z
def usedL (M : List Mk) (b z : Int) : Int := match mkAt M b z with | some i => (match M[i]? with | some x => x.n | none => 0) | none => 0
def setML (M : List Mk) (b z n : Int) : List Mk := match mkAt M b z with | some i => M.set i ⟨b, z, n⟩ | none => M ++ [⟨b, z, n⟩]
theorem mkAt_some {M : List Mk} {b z : Int} {i : Nat} (h : mkAt M b z = some i) : ∃ x, M[i]? = some x ∧ x.b = b ∧ x.z = z := by
  unfold mkAt at h
  obtain ⟨hi, h1, _⟩ := List.findIdx?_eq_some_iff_getElem.1 h
  exact ⟨M[i], List.getElem?_eq_getElem hi, by simp at h1; exact h1.1, by simp at h1; exact h1.2⟩
theorem mkAt_hit {M : List Mk} {b z : Int} {j : Nat} {x : Mk} (h : ∀ l, l < j → ∀ x, M[l]? = some x → ¬ (x.b = b ∧ x.z = z)) (hx : M[j]? = some x) (h1 : x.b = b) (h2 : x.z = z) : mkAt M b z = some j := by
  obtain ⟨hj, rfl⟩ := List.getElem?_eq_some_iff.1 hx
  unfold mkAt
  refine List.findIdx?_eq_some_iff_getElem.2 ⟨hj, by simp [h1, h2], fun l hl => ?_⟩
  have := h l hl _ (List.getElem?_eq_getElem (by omega))
  simpa using this
theorem mkAt_miss {M : List Mk} {b z : Int} (h : ∀ l, l < M.length → ∀ x, M[l]? = some x → ¬ (x.b = b ∧ x.z = z)) : mkAt M b z = none := by
  unfold mkAt
  refine List.findIdx?_eq_none_iff.2 fun x hx => ?_
  obtain ⟨l, hl, rfl⟩ := List.mem_iff_getElem.1 hx
  have := h l hl _ (List.getElem?_eq_getElem hl)
  simpa using this
theorem used_hit {M : List Mk} {b z : Int} {j : Nat} {x : Mk} (h : mkAt M b z = some j) (hx : M[j]? = some x) : usedL M b z = x.n := by
  unfold usedL
  rw [h]
  simp only [hx]
theorem used_miss {M : List Mk} {b z : Int} (h : mkAt M b z = none) : usedL M b z = 0 := by
  unfold usedL
  rw [h]
theorem mk_more {M : List Mk} {b z : Int} {j : Nat} {x : Mk} (h : ∀ l, l < j → ∀ x, M[l]? = some x → ¬ (x.b = b ∧ x.z = z)) (hx : M[j]? = some x) (hn : ¬ (x.b = b ∧ x.z = z)) : ∀ l, l < j + 1 → ∀ x, M[l]? = some x → ¬ (x.b = b ∧ x.z = z) := by
  intro l hl y hy
  by_cases e : l = j
  · subst e; rw [hx] at hy; cases hy; exact hn
  · exact h l (by omega) y hy
/-- Another number at a range; else the same. -/
theorem used_set (M : List Mk) (b z n b' z' : Int) : usedL (setML M b z n) b' z' = if b' = b ∧ z' = z then n else usedL M b' z' := by
  induction M with
  | nil =>
    by_cases h : b' = b ∧ z' = z
    · obtain ⟨rfl, rfl⟩ := h
      rw [if_pos ⟨rfl, rfl⟩]
      have e : mkAt ([] : List Mk) b' z' = none := rfl
      unfold setML
      rw [e]
      exact used_hit (x := ⟨b', z', n⟩) (mkAt_hit (j := 0) (fun l hl => by omega) rfl rfl rfl) rfl
    · rw [if_neg h]
      have e : mkAt ([] : List Mk) b z = none := rfl
      unfold setML
      rw [e]
      rw [used_miss (M := []) rfl]
      refine used_miss (mkAt_miss fun l hl x hx hh => ?_)
      have : l = 0 := by simp at hl; omega
      subst this
      cases hx
      exact h ⟨hh.1.symm, hh.2.symm⟩
  | cons y M ih =>
    have c1 : ∀ (N : List Mk) (b z : Int), y.b = b ∧ y.z = z → mkAt (y :: N) b z = some 0 := fun N b z h => mkAt_hit (fun l hl => by omega) rfl h.1 h.2
    have c2 : ∀ (N : List Mk) (b z : Int), ¬ (y.b = b ∧ y.z = z) → mkAt (y :: N) b z = (mkAt N b z).map (· + 1) := fun N b z h => by
      unfold mkAt
      rw [List.findIdx?_cons, if_neg (by simpa using h)]
    have u2 : ∀ (N : List Mk) (b z : Int), ¬ (y.b = b ∧ y.z = z) → usedL (y :: N) b z = usedL N b z := fun N b z h => by
      unfold usedL
      rw [c2 N b z h]
      cases mkAt N b z with
      | none => rfl
      | some i => simp
    by_cases h : y.b = b ∧ y.z = z
    · have e : setML (y :: M) b z n = ⟨b, z, n⟩ :: M := by unfold setML; rw [c1 M b z h]; rfl
      rw [e]
      by_cases h' : b' = b ∧ z' = z
      · obtain ⟨rfl, rfl⟩ := h'
        rw [if_pos ⟨rfl, rfl⟩]
        exact used_hit (x := ⟨b', z', n⟩) (mkAt_hit (j := 0) (fun l hl => by omega) rfl rfl rfl) rfl
      · rw [if_neg h', u2 M b' z' (fun q => h' ⟨q.1.symm.trans h.1, q.2.symm.trans h.2⟩)]
        unfold usedL
        have e3 : mkAt (⟨b, z, n⟩ :: M) b' z' = (mkAt M b' z').map (· + 1) := by
          unfold mkAt
          rw [List.findIdx?_cons, if_neg (by simp; exact fun q1 q2 => h' ⟨q1.symm, q2.symm⟩)]
        rw [e3]
        cases mkAt M b' z' with
        | none => rfl
        | some i => simp
    · have e : setML (y :: M) b z n = y :: setML M b z n := by
        unfold setML
        rw [c2 M b z h]
        cases mkAt M b z with
        | none => rfl
        | some i => rfl
      rw [e]
      by_cases h' : y.b = b' ∧ y.z = z'
      · rw [if_neg (fun q => h ⟨h'.1.trans q.1, h'.2.trans q.2⟩), used_hit (c1 (setML M b z n) b' z' h') (x := y) rfl, used_hit (c1 M b' z' h') (x := y) rfl]
      · rw [u2 _ _ _ h', u2 _ _ _ h', ih]
theorem setML_len (M : List Mk) (b z n : Int) : (setML M b z n).length ≤ M.length + 1 := by
  unfold setML
  split
  · rw [List.length_set]; omega
  · rw [List.length_append]; simp
/-- The marks at block y, in memory that is newer than base. -/
structure RM (base : Nat) (w : World) (y : Nat) (a : Option Addr) (cap : Nat) (M : List Mk) : Prop where
  head : Bk w y 36 [.slice a M.length cap]
  own : Gr.Rw markE base w (.slice a M.length cap) M
  new : base ≤ y
  small : M.length ≤ 65536
theorem RM.lt {base : Nat} {w : World} {y : Nat} {a : Option Addr} {cap : Nat} {M : List Mk} (h : RM base w y a cap M) : y < w.heap.size := h.head.lt
theorem RM.kept {base : Nat} {w w' : World} {y : Nat} {a : Option Addr} {cap : Nat} {M : List Mk} {S : List Nat} (h : RM base w y a cap M) (k : Kp S w w') (hy : y ∉ S) (ha : ∀ g, (Value.slice a M.length cap).ownBlock = some g → g ∉ S) : RM base w' y a cap M :=
  ⟨h.head.kept k hy, h.own.kept k ha, h.new, h.small⟩
theorem RM.grew {base : Nat} {w w' : World} {y : Nat} {a : Option Addr} {cap : Nat} {M : List Mk} (h : RM base w y a cap M) (k : Kp [] w w') : RM base w' y a cap M := h.kept k (by simp) (by simp)
theorem RM.addr {base : Nat} {w : World} {y : Nat} {a : Option Addr} {cap : Nat} {M : List Mk} (h : RM base w y a cap M) (hp : 0 < M.length) : ∃ g, a = some ⟨g, 0, none⟩ := by
  rcases h.own.addr with ⟨_, e⟩ | ⟨g, c, e, _⟩
  · rw [e] at hp; simp at hp
  · cases e; exact ⟨g, rfl⟩
theorem RM.cells {base : Nat} {w : World} {y g : Nat} {cap : Nat} {M : List Mk} (h : RM base w y (some ⟨g, 0, none⟩) cap M) {i : Nat} {x : Mk} (hx : M[i]? = some x) : w.cell? ⟨g, i * 3, none⟩ = some (.int .i64 x.b) ∧ w.cell? ⟨g, i * 3 + 1, none⟩ = some (.int .i64 x.z) ∧ w.cell? ⟨g, i * 3 + 2, none⟩ = some (.int .i64 x.n) :=
  ⟨h.own.cell (j := 0) hx rfl, h.own.cell (j := 1) hx rfl, h.own.cell (j := 2) hx rfl⟩
theorem RM.start (base : Nat) (w : World) (hb : base ≤ w.heap.size) : RM base (w.alloc (.cells #[.slice none 0 0] 36)) w.heap.size none 0 [] :=
  ⟨Bk.new w _ [.slice none 0 0], .nil _ _, hb, by simp⟩
set_option maxHeartbeats 1000000 in
theorem rused_calls {base : Nat} {w : World} {y : Nat} {a : Option Addr} {cap : Nat} {M : List Mk} (h : RM base w y a cap M) (b z : Int) :
    Calls Try.prog 25 #[.pointer (some ⟨y, 0, none⟩), .agg #[.int .i64 b, .int .i64 z]] w fun e w' => e = .returned (.int .i64 (usedL M b z)) ∧ Kp [] w w' := by
  have hs := h.small
  have H0 := hide (h.grew ((Kp.refl [] w).alloc (.cells #[.int .i64 b, .int .i64 z] 45)))
  have K0 := hide ((Kp.refl [] w).alloc (.cells #[.int .i64 b, .int .i64 z] 45))
  have P0 := hide (Bk.new w 45 [.int .i64 b, .int .i64 z])
  have c0 := (unhide H0).head.cell (i := 0) rfl
  clear h
  go_enter Try.func25, Try.ntmps25
  go_wp2_with fail
  go_loopg [5] M.length (fun m i wx => ∃ j : Nat, j ≤ M.length ∧ m = M.length - j ∧ i = .int .i64 j ∧ (∀ l, l < j → ∀ x, M[l]? = some x → ¬ (x.b = b ∧ x.z = z)) ∧ RM base wx y a cap M ∧ Bk wx w.heap.size 45 [.int .i64 b, .int .i64 z] ∧ Kp [] w wx)
  case atStart => exact ⟨0, Nat.zero_le _, rfl, rfl, fun l hl => by omega, unhide H0, unhide P0, unhide K0⟩
  case round =>
    obtain ⟨j, hj, rfl, rfl, hnot, hR, hP, hK⟩ := hrel
    clear H0 K0 P0 c0
    have c0 := hR.head.cell (i := 0) rfl
    have p0 := hP.cell (i := 0) rfl
    have p1 := hP.cell (i := 1) rfl
    by_cases hlt : j < M.length
    · obtain ⟨g, rfl⟩ := hR.addr (by omega)
      obtain ⟨x, hx⟩ : ∃ x, M[j]? = some x := ⟨_, List.getElem?_eq_getElem hlt⟩
      obtain ⟨x0, x1, x2⟩ := hR.cells hx
      have b1 : (j : Int) < (M.length : Int) := by omega
      have b2 : ((j : Int)).toNat = j := Int.toNat_natCast j
      obtain ⟨xb, xz, xn⟩ := x
      simp only at x0 x1 x2
      replace hR := hide hR
      replace hP := hide hP
      replace hK := hide hK
      replace hnot := hide hnot
      have hx' := hide hx
      clear hx
      by_cases e1 : xb = b
      · by_cases e2 : xz = z
        · subst e1 e2
          go_wp2_with fail
          go_quiet (fail)
          go_wp2
          go_ret
          exact ⟨ret_int (used_hit (mkAt_hit (unhide hnot) (unhide hx') rfl rfl) (unhide hx')).symm, (unhide hK).drewN _⟩
        · subst e1
          have e2' : (xz == z) = false := beq_eq_false_iff_ne.2 e2
          go_wp2_with fail
          go_quiet (fail)
          go_wp2
          go_roundg (M.length - (j + 1))
          case measure => omega
          case rel => exact ⟨j + 1, by omega, rfl, by go_num, mk_more (unhide hnot) (unhide hx') (fun H => e2 H.2), (unhide hR).grew ((Kp.refl [] _).drewN _), (unhide hP).drewN _, (unhide hK).drewN _⟩
      · have e1' : (xb == b) = false := beq_eq_false_iff_ne.2 e1
        go_wp2_with fail
        go_quiet (fail)
        go_wp2
        go_roundg (M.length - (j + 1))
        case measure => omega
        case rel => exact ⟨j + 1, by omega, rfl, by go_num, mk_more (unhide hnot) (unhide hx') (fun H => e1 H.1), (unhide hR).grew ((Kp.refl [] _).drewN _), (unhide hP).drewN _, (unhide hK).drewN _⟩
    · have b1 : decide ((j : Int) < (M.length : Int)) = false := decide_eq_false (by omega)
      replace hR := hide hR
      replace hP := hide hP
      replace hK := hide hK
      replace hnot := hide hnot
      go_wp2
      go_ret
      exact ⟨ret_int (used_miss (mkAt_miss (fun l hl => unhide hnot l (by omega)))).symm, unhide hK⟩
theorem rused_to {base : Nat} {w : World} {y : Nat} {a : Option Addr} {cap : Nat} {M : List Mk} (h : RM base w y a cap M) {b z u : Int} (hu : usedL M b z = u) :
    Calls Try.prog 25 #[.pointer (some ⟨y, 0, none⟩), .agg #[.int .i64 b, .int .i64 z]] w fun e w' => e = .returned (.int .i64 u) ∧ Kp [] w w' := by subst hu; exact rused_calls h b z
/-- Nothing but the document's marks was touched. -/
def Dch (base y : Nat) (w w' : World) : Prop := ∃ S, Kp S w w' ∧ ∀ i ∈ S, i = y ∨ base ≤ i ∧ ∃ c, w.heap[i]? = some (.cells c 92 (0, 0))
theorem Dch.of {base y : Nat} {w w' : World} (k : Kp [] w w') : Dch base y w w' := ⟨[], k, by simp⟩
theorem Dch.size {base y : Nat} {w w' : World} (h : Dch base y w w') : w.heap.size ≤ w'.heap.size := by
  obtain ⟨S, k, _⟩ := h
  exact k.size
theorem Dch.trans {base y : Nat} {a b c : World} (h : Dch base y a b) (k : Dch base y b c) (hy : ∀ c', a.heap[y]? ≠ some (.cells c' 92 (0, 0))) : Dch base y a c := by
  obtain ⟨S, k1, h1⟩ := h
  obtain ⟨S', k2, h2⟩ := k
  refine ⟨S ++ S'.filter (fun i => decide (i < a.heap.size)), k1.trans k2 (fun i m => List.mem_append_left _ m) (fun i m => ?_), fun i m => ?_⟩
  · by_cases q : i < a.heap.size
    · exact .inl (List.mem_append_right _ (List.mem_filter.2 ⟨m, by simpa using q⟩))
    · exact .inr (by omega)
  · by_cases hi : i ∈ S
    · exact h1 i hi
    · have m' := (List.mem_append.1 m).resolve_left hi
      obtain ⟨m2, m3⟩ := List.mem_filter.1 m'
      have m4 : i < a.heap.size := by simpa using m3
      rcases h2 i m2 with e | ⟨hb, c', e⟩
      · exact .inl e
      · exact .inr ⟨hb, c', (k1.block i m4 hi).symm.trans e⟩
theorem Dch.bk {base y : Nat} {w w' : World} {g : Nat} {T : TypeId} {vs : List Value} (h : Dch base y w w') (b : Bk w g T vs) (hg : g ≠ y) (hT : T ≠ 92) : Bk w' g T vs := by
  obtain ⟨S, k, hS⟩ := h
  refine b.kept k (fun m => ?_)
  rcases hS g m with e | ⟨_, c, e⟩
  · exact hg e
  · unfold Bk at b
    rw [b] at e
    simp at e
    exact hT e.2
end Go.Proofs.Ythjhpcbhkcmghaa
