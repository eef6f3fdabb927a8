/- The program's endpoint, what lies there; a changed line beside the other. -/
import Derived.Test.YthnpkojfkhndoaaKEpL2
namespace Go.Proofs.Ythnpkojfkhndoaa
open Go.RowKit
set_option linter.unusedVariables false
set_option linter.unusedSimpArgs false
/-- An ID's two numbers. -/
def IdW (q1 q2 : Int) : Prop := (Lit.int .i64 q1).wf = true ∧ (Lit.int .i64 q2).wf = true
theorem idW_of {s p : Int} (h1 : -9223372036854775808 ≤ s ∧ s ≤ 9223372036854775807) (h2 : -9223372036854775808 ≤ p ∧ p ≤ 9223372036854775807) : IdW s p := ⟨WalkArith.wf_i64 (by omega), WalkArith.wf_i64 (by omega)⟩
/-- The program's endpoint at t, in memory newer than base: those that wait, the blocks that are its own. -/
def PE (base : Nat) (w : World) (t : Nat) (S : List Ms) (R : List Rc) (F : List Nat) : Prop :=
  ∃ (va : Value) (ka : Nat) (vb : Value) (kb : Nat), F = va.ownBlock.toList ++ vb.ownBlock.toList ∧ Bk w t 31 [va, .int .i64 (ka : Int), vb, .int .i64 (kb : Int)] ∧ Ln (msE 47) base w va ka S ∧ Ln (rcE 42) base w vb kb R ∧ base ≤ t
theorem Ln.kept {α : Type} {T : TypeId} {sz : Nat} {E : Gr.Enc α T sz} {base : Nat} {w w' : World} {v : Value} {k : Nat} {L : List α} {X : List Nat} (h : Ln E base w v k L) (kp : Kp X w w') (hn : ∀ g, v.ownBlock = some g → g ∉ X) : Ln E base w' v k L := by
  obtain ⟨C, hr, rest⟩ := h
  exact ⟨C, hr.kept kp hn, rest⟩
theorem Ln.grew {α : Type} {T : TypeId} {sz : Nat} {E : Gr.Enc α T sz} {base : Nat} {w w' : World} {v : Value} {k : Nat} {L : List α} (h : Ln E base w v k L) (kp : Kp [] w w') : Ln E base w' v k L := h.kept kp (by simp)
/-- A row of another type lies elsewhere. -/
theorem row_apart {α β : Type} {T T' : TypeId} {sz sz' : Nat} {E : Gr.Enc α T sz} {E' : Gr.Enc β T' sz'} {base base' : Nat} {w : World} {v v' : Value} {L : List α} {M : List β} (h : Gr.Rw E base w v L) (h' : Gr.Rw E' base' w v' M) (hT : T ≠ T') {g : Nat} (hg : v.ownBlock = some g) : g ∉ v'.ownBlock.toList := fun m => by
  obtain ⟨_, cs, h1⟩ := h.block hg
  obtain ⟨_, c, h2⟩ := h'.block (g := g) (by cases hv : v'.ownBlock with | none => rw [hv] at m; cases m | some q => rw [hv] at m; simp at m; rw [m])
  rw [h1] at h2
  simp at h2
  exact hT h2.2
theorem PE.kept {base : Nat} {w w' : World} {t : Nat} {S : List Ms} {R : List Rc} {F X : List Nat} (h : PE base w t S R F) (k : Kp X w w') (ht : t ∉ X) (hF : ∀ g ∈ F, g ∉ X) : PE base w' t S R F := by
  obtain ⟨va, ka, vb, kb, rfl, hB, hS, hR, hb⟩ := h
  exact ⟨va, ka, vb, kb, rfl, hB.kept k ht, hS.kept k (fun g hg => hF g (List.mem_append_left _ (Option.mem_toList.2 hg))), hR.kept k (fun g hg => hF g (List.mem_append_right _ (Option.mem_toList.2 hg))), hb⟩
theorem PE.lt {base : Nat} {w : World} {t : Nat} {S : List Ms} {R : List Rc} {F : List Nat} (h : PE base w t S R F) : t < w.heap.size := by
  obtain ⟨va, ka, vb, kb, _, hB, _⟩ := h
  exact hB.lt
theorem PE.both {base : Nat} {w : World} {t : Nat} {S : List Ms} {R : List Rc} {F : List Nat} (h : PE base w t S R F) : ∀ g ∈ F, base ≤ g ∧ g < w.heap.size := by
  obtain ⟨va, ka, vb, kb, rfl, hB, ⟨C, hr, _⟩, ⟨D, hr2, _⟩, _⟩ := h
  intro g hg
  rcases List.mem_append.1 hg with m | m
  · exact hr.lt (Option.mem_toList.1 m)
  · exact hr2.lt (Option.mem_toList.1 m)
theorem PE.old {base : Nat} {w : World} {t : Nat} {S : List Ms} {R : List Rc} {F : List Nat} (h : PE base w t S R F) : ∀ g ∈ F, g < w.heap.size := fun g m => (h.both g m).2
theorem PE.new {base : Nat} {w : World} {t : Nat} {S : List Ms} {R : List Rc} {F : List Nat} (h : PE base w t S R F) : base ≤ t ∧ ∀ g ∈ F, base ≤ g := ⟨by obtain ⟨va, ka, vb, kb, _, _, _, _, hb⟩ := h; exact hb, fun g m => (h.both g m).1⟩
theorem PE.start (base : Nat) (w : World) (hb : base ≤ w.heap.size) : PE base (w.alloc (.cells #[.slice none 0 0, .int .i64 0, .slice none 0 0, .int .i64 0] 31)) w.heap.size [] [] [] :=
  ⟨.slice none 0 0, 0, .slice none 0 0, 0, rfl, Bk.new w _ [.slice none 0 0, .int .i64 0, .slice none 0 0, .int .i64 0], ⟨[], .nil _ _, rfl, .inr ⟨rfl, rfl⟩⟩, ⟨[], .nil _ _, rfl, .inr ⟨rfl, rfl⟩⟩, hb⟩
/-- Since w. -/
structure EIn (w : World) (t : Nat) (S : List Ms) (R : List Rc) (F : List Nat) (wr : World) : Prop where
  kp : Kp [] w wr
  pe : PE w.heap.size wr t S R F
  ssm : S.length ≤ 65536
  rsm : R.length ≤ 65536
  one : S = [] ∨ R = []
theorem EIn.lt {w wr : World} {t : Nat} {S : List Ms} {R : List Rc} {F : List Nat} (h : EIn w t S R F wr) : t < wr.heap.size := h.pe.lt
theorem EIn.old {w wr : World} {t : Nat} {S : List Ms} {R : List Rc} {F : List Nat} (h : EIn w t S R F wr) : ∀ g ∈ F, g < wr.heap.size := h.pe.old
theorem EIn.new {w wr : World} {t : Nat} {S : List Ms} {R : List Rc} {F : List Nat} (h : EIn w t S R F wr) : w.heap.size ≤ t ∧ ∀ g ∈ F, w.heap.size ≤ g := h.pe.new
theorem EIn.grew {w wr w' : World} {t : Nat} {S : List Ms} {R : List Rc} {F : List Nat} (h : EIn w t S R F wr) (k : Kp [] wr w') : EIn w t S R F w' := ⟨h.kp.then k, h.pe.kept k (by simp) (by simp), h.ssm, h.rsm, h.one⟩
theorem EIn.beside {w wr w' : World} {t : Nat} {S : List Ms} {R : List Rc} {F : List Nat} {g : Nat} (h : EIn w t S R F wr) (k : Kp [g] wr w') (ht : g ≠ t) (hF : g ∉ F) (hn : w.heap.size ≤ g) : EIn w t S R F w' :=
  ⟨h.kp.trans k (by simp) (by simpa using hn), h.pe.kept k (by simpa using (Ne.symm ht)) (fun q m e => hF (by rw [← List.mem_singleton.1 e]; exact m)), h.ssm, h.rsm, h.one⟩
theorem EIn.of {w W wr : World} {t : Nat} (k : Kp [] w W) (ht : t = W.heap.size) (k' : Kp [] (W.alloc (.cells #[.slice none 0 0, .int .i64 0, .slice none 0 0, .int .i64 0] 31)) wr) : EIn w t [] [] [] wr := by
  subst ht
  exact ⟨(k.alloc _).then k', (PE.start _ _ k.size).kept k' (by simp) (by simp), by simp, by simp, .inl rfl⟩
/-- What a change of the endpoint leaves. -/
def EC (w : World) (t : Nat) (S : List Ms) (R : List Rc) (F : List Nat) (wr : World) (v : Value) (e : Ending) (w' : World) : Prop :=
  e = .returned v ∧ ∃ F', EIn w t S R F' w' ∧ Kp (t :: F) wr w' ∧ ∀ g ∈ F', g ∈ F ∨ wr.heap.size ≤ g
theorem Ln.more {α : Type} {T : TypeId} {sz : Nat} {E : Gr.Enc α T sz} {base : Nat} {w : World} {v : Value} {k : Nat} {C L : List α} {x : α} (hr : Gr.Rw E base w v (C ++ [x])) (hd : C.drop k = L) (hh : 2 * k < C.length ∨ (k = 0 ∧ C = [])) : Ln E base w v k (L ++ [x]) := by
  refine ⟨_, hr, ?_, ?_⟩
  · rw [List.drop_append_of_le_length (by rcases hh with h | ⟨rfl, _⟩ <;> omega), hd]
  · rcases hh with h | ⟨rfl, rfl⟩
    · exact .inl (by simp; omega)
    · exact .inl (by simp)
theorem ln_small {α : Type} {k n : Nat} {C L : List α} (hd : C.drop k = L) (hh : 2 * k < C.length ∨ (k = 0 ∧ C = [])) (hn : L.length ≤ n) : C.length ≤ 2 * n ∧ k ≤ C.length := by
  have := congrArg List.length hd
  rw [List.length_drop] at this
  rcases hh with h | ⟨rfl, rfl⟩
  · omega
  · simp
theorem ln_nil {α : Type} {k : Nat} {C : List α} (hd : C.drop k = []) (hh : 2 * k < C.length ∨ (k = 0 ∧ C = [])) : C = [] := by
  rcases hh with h | ⟨rfl, rfl⟩
  · have := congrArg List.length hd
    rw [List.length_drop] at this
    simp at this
    omega
  · rfl
/-- A changed line, the other as it was: what that leaves. -/
theorem PE.putS {base : Nat} {w w' : World} {t : Nat} {va vb va' : Value} {ka kb ka' : Nat} {S' : List Ms} {R : List Rc} {X : List Nat} (hB : Bk w t 31 [va, .int .i64 (ka : Int), vb, .int .i64 (kb : Int)]) (hR : Ln (rcE 42) base w vb kb R) (hb : base ≤ t) (k : Kp X w w') (hX : ∀ g ∈ X, g = t ∨ va.ownBlock = some g) {C : List Ms} (hr : Gr.Rw (msE 47) base w va C) (hB' : Bk w' t 31 [va', .int .i64 (ka' : Int), vb, .int .i64 (kb : Int)]) (hS' : Ln (msE 47) base w' va' ka' S') (hn : ∀ q, va'.ownBlock = some q → va.ownBlock = some q ∨ w.heap.size ≤ q) :
    ∃ F', PE base w' t S' R F' ∧ Kp (t :: (va.ownBlock.toList ++ vb.ownBlock.toList)) w w' ∧ ∀ g ∈ F', g ∈ va.ownBlock.toList ++ vb.ownBlock.toList ∨ w.heap.size ≤ g := by
  obtain ⟨D, hr2, rest⟩ := hR
  refine ⟨_, ⟨va', ka', vb, kb, rfl, hB', hS', ⟨D, hr2.kept k (fun g hg m => ?_), rest⟩, hb⟩, k.mono (fun g m => ?_), fun g m => ?_⟩
  · rcases hX g m with e | e
    · exact ne_of_row hr2 hB (by decide) (by rw [hg, e])
    · exact row_apart hr2 hr (by decide) hg (Option.mem_toList.2 e)
  · rcases hX g m with e | e
    · rw [e]; simp
    · exact List.mem_cons_of_mem _ (List.mem_append_left _ (Option.mem_toList.2 e))
  · rcases List.mem_append.1 m with e | e
    · exact (hn g (Option.mem_toList.1 e)).imp (fun e => List.mem_append_left _ (Option.mem_toList.2 e)) id
    · exact .inl (List.mem_append_right _ e)
theorem PE.putR {base : Nat} {w w' : World} {t : Nat} {va vb vb' : Value} {ka kb kb' : Nat} {S : List Ms} {R' : List Rc} {X : List Nat} (hB : Bk w t 31 [va, .int .i64 (ka : Int), vb, .int .i64 (kb : Int)]) (hS : Ln (msE 47) base w va ka S) (hb : base ≤ t) (k : Kp X w w') (hX : ∀ g ∈ X, g = t ∨ vb.ownBlock = some g) {D : List Rc} (hr : Gr.Rw (rcE 42) base w vb D) (hB' : Bk w' t 31 [va, .int .i64 (ka : Int), vb', .int .i64 (kb' : Int)]) (hR' : Ln (rcE 42) base w' vb' kb' R') (hn : ∀ q, vb'.ownBlock = some q → vb.ownBlock = some q ∨ w.heap.size ≤ q) :
    ∃ F', PE base w' t S R' F' ∧ Kp (t :: (va.ownBlock.toList ++ vb.ownBlock.toList)) w w' ∧ ∀ g ∈ F', g ∈ va.ownBlock.toList ++ vb.ownBlock.toList ∨ w.heap.size ≤ g := by
  obtain ⟨C, hr2, rest⟩ := hS
  refine ⟨_, ⟨va, ka, vb', kb', rfl, hB', ⟨C, hr2.kept k (fun g hg m => ?_), rest⟩, hR', hb⟩, k.mono (fun g m => ?_), fun g m => ?_⟩
  · rcases hX g m with e | e
    · exact ne_of_row hr2 hB (by decide) (by rw [hg, e])
    · exact row_apart hr2 hr (by decide) hg (Option.mem_toList.2 e)
  · rcases hX g m with e | e
    · rw [e]; simp
    · exact List.mem_cons_of_mem _ (List.mem_append_right _ (Option.mem_toList.2 e))
  · rcases List.mem_append.1 m with e | e
    · exact .inl (List.mem_append_left _ e)
    · exact (hn g (Option.mem_toList.1 e)).imp (fun e => List.mem_append_right _ (Option.mem_toList.2 e)) id
end Go.Proofs.Ythnpkojfkhndoaa
