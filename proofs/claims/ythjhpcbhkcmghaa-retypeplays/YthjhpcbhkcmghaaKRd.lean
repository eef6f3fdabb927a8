/- The document's table and marks, beside one another. -/
import Derived.Test.YthjhpcbhkcmghaaKMark4
import Derived.Test.YthjhpcbhkcmghaaKMark2
import Derived.Test.YthjhpcbhkcmghaaKDup0
namespace Go.Proofs.Ythjhpcbhkcmghaa
open Go.RowKit
set_option linter.unusedVariables false
/-- The document's marks at y: F of each range, so many marks at most. -/
def RMs (base : Nat) (w : World) (y : Nat) (F : Int × Int → Int) (n : Nat) : Prop := ∃ a cap M, RM base w y a cap M ∧ (∀ b z, usedL M b z = F (b, z)) ∧ M.length ≤ n
structure RD (base : Nat) (x y : Nat) (L : List Sl) (F : Int × Int → Int) (n : Nat) (w : World) : Prop where
  rt : ∃ ra rc, RT base w x ra rc L
  rm : RMs base w y F n
theorem RD.ne {base : Nat} {x y : Nat} {L : List Sl} {F : Int × Int → Int} {n : Nat} {w : World} (h : RD base x y L F n w) : x ≠ y := by
  obtain ⟨ra, rc, r⟩ := h.rt
  obtain ⟨a, cap, M, m, _⟩ := h.rm
  exact r.head.apart m.head (by decide)
theorem RD.lt {base : Nat} {x y : Nat} {L : List Sl} {F : Int × Int → Int} {n : Nat} {w : World} (h : RD base x y L F n w) : x < w.heap.size ∧ y < w.heap.size := by
  obtain ⟨ra, rc, r⟩ := h.rt
  obtain ⟨a, cap, M, m, _⟩ := h.rm
  exact ⟨r.head.lt, m.head.lt⟩
theorem RD.grew {base : Nat} {x y : Nat} {L : List Sl} {F : Int × Int → Int} {n : Nat} {w w' : World} (h : RD base x y L F n w) (k : Kp [] w w') : RD base x y L F n w' := by
  obtain ⟨ra, rc, r⟩ := h.rt
  obtain ⟨a, cap, M, m, q⟩ := h.rm
  exact ⟨⟨ra, rc, r.grew k⟩, a, cap, M, m.grew k, q⟩
/-- What of the two a change may have touched. -/
def Dmc (base x y : Nat) (w w' : World) : Prop := ∃ S, Kp S w w' ∧ ∀ i ∈ S, i = x ∨ i = y ∨ base ≤ i ∧ ∃ c, w.heap[i]? = some (.cells c 92 (0, 0))
theorem Dmc.of {base x y : Nat} {w w' : World} (k : Kp [] w w') : Dmc base x y w w' := ⟨[], k, by simp⟩
theorem Dmc.ofT {base x y : Nat} {w w' : World} (k : Kp [x] w w') : Dmc base x y w w' := ⟨[x], k, fun i m => .inl (List.mem_singleton.1 m)⟩
theorem Dmc.ofM {base x y : Nat} {w w' : World} (T : Dch base y w w') : Dmc base x y w w' := by
  obtain ⟨S, k, hS⟩ := T
  exact ⟨S, k, fun i m => .inr (hS i m)⟩
theorem Dmc.size {base x y : Nat} {w w' : World} (h : Dmc base x y w w') : w.heap.size ≤ w'.heap.size := by
  obtain ⟨S, k, _⟩ := h
  exact k.size
theorem Dmc.trans {base x y : Nat} {a b c : World} (h : Dmc base x y a b) (k : Dmc base x y b c) : Dmc base x y a c := by
  obtain ⟨S, k1, h1⟩ := h
  obtain ⟨S', k2, h2⟩ := k
  refine ⟨S ++ S'.filter (fun i => decide (i < a.heap.size)), k1.trans k2 (fun i m => List.mem_append_left _ m) (fun i m => ?_), fun i m => ?_⟩
  · by_cases q : i < a.heap.size
    · exact .inl (List.mem_append_right _ (List.mem_filter.2 ⟨m, by simpa using q⟩))
    · exact .inr (by omega)
  · by_cases hi : i ∈ S
    · exact h1 i hi
    · have m' := (List.mem_append.1 m).resolve_left hi
      obtain ⟨m2, m3⟩ := List.mem_filter.1 m'
      have m4 : i < a.heap.size := by simpa using m3
      rcases h2 i m2 with e | e | ⟨hb, c', e⟩
      · exact .inl e
      · exact .inr (.inl e)
      · exact .inr (.inr ⟨hb, c', (k1.block i m4 hi).symm.trans e⟩)
theorem Dmc.pre {base x y : Nat} {w W w' : World} (k : Kp [] w W) (T : Dmc base x y W w') : Dmc base x y w w' := (Dmc.of k).trans T
theorem Dmc.bk {base x y : Nat} {w w' : World} {g : Nat} {T : TypeId} {vs : List Value} (h : Dmc base x y w w') (b : Bk w g T vs) (h1 : g ≠ x) (h2 : g ≠ y) (hT : T ≠ 92) : Bk w' g T vs := by
  obtain ⟨S, k, hS⟩ := h
  refine b.kept k (fun m => ?_)
  rcases hS g m with e | e | ⟨_, c, e⟩
  · exact h1 e
  · exact h2 e
  · unfold Bk at b
    rw [b] at e
    simp at e
    exact hT e.2
/-- A change of the table. -/
theorem RD.turnT {base : Nat} {x y : Nat} {L L' : List Sl} {F : Int × Int → Int} {n : Nat} {w w' : World} (h : RD base x y L F n w) (k : Kp [x] w w') (X : ∃ ra rc, RT base w' x ra rc L') : RD base x y L' F n w' := by
  have hne := h.ne
  obtain ⟨ra, rc, r⟩ := h.rt
  obtain ⟨a, cap, M, m, q⟩ := h.rm
  refine ⟨X, a, cap, M, m.kept k (by simpa using hne.symm) (fun g e mm => ?_), q⟩
  obtain ⟨_, c, hc⟩ := m.own.block e
  have e2 : g = x := by simpa using mm
  subst e2
  have b := r.head
  unfold Bk at b
  rw [b] at hc
  simp at hc
/-- A change of the marks. -/
theorem RD.turnM {base : Nat} {x y : Nat} {L : List Sl} {F F' : Int × Int → Int} {n n' : Nat} {w w' : World} (h : RD base x y L F n w) (T : Dch base y w w') (X : RMs base w' y F' n') : RD base x y L F' n' w' := by
  have hne := h.ne
  obtain ⟨ra, rc, r⟩ := h.rt
  obtain ⟨a, cap, M, m, q⟩ := h.rm
  obtain ⟨S, k, hS⟩ := T
  refine ⟨⟨ra, rc, r.kept k (fun mm => ?_) (fun g e mm => ?_)⟩, X⟩
  · rcases hS x mm with e | ⟨_, c, e⟩
    · exact hne e
    · have b := r.head
      unfold Bk at b
      rw [b] at e
      simp at e
  · rcases r.own.2 with ⟨e2, _⟩ | ⟨g', c, cur, e2, hb, hh, _⟩
    · rw [e] at e2; cases e2
    · rw [e] at e2
      cases e2
      rcases hS g mm with e3 | ⟨_, c3, e3⟩
      · subst e3
        have b := m.head
        unfold Bk at b
        rw [hh] at b
        simp at b
      · rw [hh] at e3
        simp at e3
/-- A block of another type, beside the two, was written. -/
theorem RD.beside {base : Nat} {x y g : Nat} {L : List Sl} {F : Int × Int → Int} {n : Nat} {w w' : World} {T : TypeId} {vs : List Value} (h : RD base x y L F n w) (k : Kp [g] w w') (b : Bk w g T vs) (h1 : g ≠ x) (h2 : g ≠ y) (h3 : T ≠ 78) (h4 : T ≠ 92) : RD base x y L F n w' := by
  obtain ⟨ra, rc, r⟩ := h.rt
  obtain ⟨a, cap, M, m, q⟩ := h.rm
  unfold Bk at b
  refine ⟨⟨ra, rc, r.kept k (by simpa using h1.symm) (fun g' e mm => ?_)⟩, a, cap, M, m.kept k (by simpa using h2.symm) (fun g' e mm => ?_), q⟩
  · rcases r.own.2 with ⟨e2, _⟩ | ⟨g2, c, cur, e2, hb, hh, _⟩
    · rw [e] at e2; cases e2
    · rw [e] at e2
      cases e2
      have e3 : g' = g := by simpa using mm
      subst e3
      rw [hh] at b
      simp at b
      exact h3 b.2.symm
  · obtain ⟨_, c, hc⟩ := m.own.block e
    have e3 : g' = g := by simpa using mm
    subst e3
    rw [hc] at b
    simp at b
    exact h4 b.2.symm
/-- The program's change of table or marks leaves the document's. -/
theorem RD.kept {base : Nat} {x y : Nat} {L : List Sl} {F : Int × Int → Int} {n : Nat} {w w' : World} {S : List Nat} (h : RD base x y L F n w) (k : Kp S w w') (hx : x ∉ S) (hy : y ∉ S) (hS : ∀ i ∈ S, i < base ∨ ∀ c T z, w.heap[i]? ≠ some (.cells c T z)) : RD base x y L F n w' := by
  obtain ⟨ra, rc, r⟩ := h.rt
  obtain ⟨a, cap, M, m, q⟩ := h.rm
  refine ⟨⟨ra, rc, r.kept k hx (fun g' e mm => ?_)⟩, a, cap, M, m.kept k hy (fun g' e mm => ?_), q⟩
  · rcases r.own.2 with ⟨e2, _⟩ | ⟨g2, c, cur, e2, hb, hh, _⟩
    · rw [e] at e2; cases e2
    · rw [e] at e2
      cases e2
      rcases hS g' mm with q | q
      · omega
      · exact q _ _ _ hh
  · obtain ⟨hb, c, hc⟩ := m.own.block e
    rcases hS g' mm with q | q
    · omega
    · exact q _ _ _ hc
/-- Reset, taken. -/
theorem RMs.reset {base y : Nat} {w : World} {F : Int × Int → Int} {n : Nat} (h : RMs base w y F n) (hn : n < 65536) (b z : Int) :
    Calls Try.prog 16 #[.pointer (some ⟨y, 0, none⟩), .agg #[.int .i64 b, .int .i64 z]] w fun e w' => e = .returned (.tuple #[]) ∧ RMs base w' y (upF F (b, z) 0) (n + 1) ∧ Dch base y w w' := by
  obtain ⟨a, cap, M, m, hu, hl⟩ := h
  refine (rreset_calls m b z (by omega)).mono ?_
  rintro e w' ⟨rfl, ⟨a', cap', m'⟩, D⟩
  refine ⟨rfl, ⟨a', cap', _, m', fun b' z' => ?_, by have := setML_len M b z 0; omega⟩, D⟩
  rw [used_set, hu]
  unfold upF
  by_cases e : b' = b ∧ z' = z
  · rw [if_pos e, if_pos (Prod.ext e.1 e.2)]
  · rw [if_neg e, if_neg (fun q => e ⟨congrArg Prod.fst q, congrArg Prod.snd q⟩)]
theorem RMs.used {base y : Nat} {w : World} {F : Int × Int → Int} {n : Nat} (h : RMs base w y F n) {b z u : Int} (hu : F (b, z) = u) :
    Calls Try.prog 25 #[.pointer (some ⟨y, 0, none⟩), .agg #[.int .i64 b, .int .i64 z]] w fun e w' => e = .returned (.int .i64 u) ∧ Kp [] w w' := by
  obtain ⟨a, cap, M, m, hU, hl⟩ := h
  exact rused_to m ((hU b z).trans hu)
theorem RMs.no {base y : Nat} {w : World} {F : Int × Int → Int} {k : Nat} (h : RMs base w y F k) {b z n u : Int} (hu : F (b, z) = u) (hs : IntKind.i64.wrap (z - u) = z - u) (hno : n < 1 ∨ z - u < n) :
    Calls Try.prog 18 #[.pointer (some ⟨y, 0, none⟩), .agg #[.int .i64 b, .int .i64 z], .int .i64 n] w fun e w' => e = .returned (.tuple #[.int .i64 0, .bool false]) ∧ Kp [] w w' := by
  obtain ⟨a, cap, M, m, hU, hl⟩ := h
  exact rtake_no m ((hU b z).trans hu) hs hno
theorem RMs.yes {base y : Nat} {w : World} {F : Int × Int → Int} {k : Nat} (h : RMs base w y F k) (hk : k < 65536) {b z n u : Int} (hu : F (b, z) = u) (hs : IntKind.i64.wrap (z - u) = z - u) (ha : IntKind.i64.wrap (u + n) = u + n) (hb : IntKind.i64.wrap (b + u) = b + u) (h1 : 1 ≤ n) (h2 : n ≤ z - u) :
    Calls Try.prog 18 #[.pointer (some ⟨y, 0, none⟩), .agg #[.int .i64 b, .int .i64 z], .int .i64 n] w fun e w' => e = .returned (.tuple #[.int .i64 (b + u), .bool true]) ∧ RMs base w' y (upF F (b, z) (u + n)) (k + 1) ∧ Dch base y w w' := by
  obtain ⟨a, cap, M, m, hU, hl⟩ := h
  refine (rtake_yes m (by omega) ((hU b z).trans hu) hs ha hb h1 h2).mono ?_
  rintro e w' ⟨rfl, ⟨a', cap', m'⟩, D⟩
  refine ⟨rfl, ⟨a', cap', _, m', fun b' z' => ?_, by have := setML_len M b z (u + n); omega⟩, D⟩
  rw [used_set, hU]
  unfold upF
  by_cases e : b' = b ∧ z' = z
  · rw [if_pos e, if_pos (Prod.ext e.1 e.2)]
  · rw [if_neg e, if_neg (fun q => e ⟨congrArg Prod.fst q, congrArg Prod.snd q⟩)]
end Go.Proofs.Ythjhpcbhkcmghaa
