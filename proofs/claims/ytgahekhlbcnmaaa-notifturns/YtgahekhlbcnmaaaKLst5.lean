/- The program's list: Pop, All. -/
import Derived.Test.YtgahekhlbcnmaaaKLst4
namespace Go.Proofs.Ytgahekhlbcnmaaa
open Go.RowKit
set_option linter.unusedVariables false
set_option linter.unusedSimpArgs false
def idE : Gr.Enc (Int × Int) 27 2 := ⟨fun x => [.int .i64 x.1, .int .i64 x.2], fun _ => rfl, fun x v hv => by
  simp only [List.mem_cons, List.not_mem_nil, or_false] at hv
  rcases hv with rfl | rfl <;> rfl⟩
theorem Try.infoID : (Try.prog.info? 27).map (fun i => (i.zero, i.size, i.bytes)) = some (some (.agg #[.int .i64 0, .int .i64 0]), 2, 16) := by kernel_rfl
theorem two_zeros (n : Nat) : (madeCells #[Value.int .i64 0, .int .i64 0] (n * 2)).toList = Gr.rows idE (List.replicate n (0, 0)) := by
  have e : ∀ k, madeCells #[Value.int .i64 0, .int .i64 0] k = Array.replicate k (Value.int .i64 0) := fun k => by
    apply Array.ext (by simp [madeCells])
    intro i h1 h2
    simp only [madeCells, Array.getElem_map, Array.getElem_range, Array.getElem_replicate]
    have : i % 2 = 0 ∨ i % 2 = 1 := by omega
    rcases this with h | h <;> simp [h]
  rw [e, Array.toList_replicate]
  induction n with
  | zero => rfl
  | succ n ih =>
    have e1 : (n + 1) * 2 = 2 + n * 2 := by omega
    rw [List.replicate_succ, show Gr.rows idE ((0, 0) :: List.replicate n (0, 0)) = idE.vals (0, 0) ++ Gr.rows idE (List.replicate n (0, 0)) from by unfold Gr.rows; rw [List.flatMap_cons], ← ih, e1, Nat.add_comm]
    rfl
/-- 'make([]api.ID, n)'. -/
theorem make_ids (w : World) {n : Nat} {k : Int} (hk : k = (n : Int)) (hn : n ≤ 65536) :
    ∃ w', (Instr.makeSlice 34 (.int .i64 k) (.int .i64 k)).run Try.prog w = .ok (.slice (some ⟨w.heap.size, 0, none⟩) n n) w' ∧ Gr.Rw idE w.heap.size w' (.slice (some ⟨w.heap.size, 0, none⟩) n n) (List.replicate n (0, 0)) ∧ Kp [] w w' := by
  subst hk
  obtain ⟨i0, hi, hinf⟩ := Option.map_eq_some_iff.1 Try.infoID
  simp only [Prod.mk.injEq] at hinf
  obtain ⟨hz0, hz1, hz2⟩ := hinf
  obtain ⟨w', h1, h2, h3⟩ := run_makeSlice_full (P := Try.prog) w w.heap.size 34 27 i0 (.agg #[.int .i64 0, .int .i64 0]) 2 Try.underlying34 hi hz0 hz1 .i64 .i64 n (by omega) (by rw [hz2]; omega) (by unfold maxLen; omega) (Nat.le_refl _)
  refine ⟨w', h1, ?_, ⟨h3.os, h3.tape, h3.output, h3.size, fun k hk _ => h3.block k hk (by simp)⟩⟩
  unfold Gr.Rw
  rw [List.length_replicate, ← two_zeros]
  exact h2
theorem PLP.pre {w w1 w' : World} {y o : Nat} {U : TypeId} {pre post : List Value} {m : Option Nat} {L : List (Int × Int)} {v : Value} {e : Ending} (k : Kp [] w w1) (h : PLP w1 y o U pre post m L v e w') : PLP w y o U pre post m L v e w' := by
  obtain ⟨rfl, m', f, h1, h2, h3⟩ := h
  exact ⟨rfl, m', f, h1, k.trans h2 (by simp) (fun i hi => .inl hi), fun b e => (h3 b e).imp id fun q => Nat.le_trans k.size q⟩
theorem PLP.post {w w1 w2 : World} {y o : Nat} {U : TypeId} {pre post : List Value} {m : Option Nat} {L : List (Int × Int)} {v u : Value} {e : Ending} (h : PLP w y o U pre post m L v e w1) (k : Kp [] w1 w2) : PLP w y o U pre post m L u (.returned u) w2 := by
  obtain ⟨rfl, m', f, h1, h2, h3⟩ := h
  exact ⟨rfl, m', f, h1.grew k, h2.trans k (fun i hi => hi) (by simp), h3⟩
theorem PLP.box {w w1 : World} {y o g : Nat} {U : TypeId} {pre post : List Value} {m : Option Nat} {L : List (Int × Int)} {v u : Value} {e : Ending} {U' : TypeId} {vs : List Value} (h : PLP w y o U pre post m L v e w1) (hy : y < w.heap.size) (b : Bk w1 g U' vs) (hg : w.heap.size ≤ g) (i : Nat) (x : Value) : PLP w y o U pre post m L u (.returned u) (w1.setCell ⟨g, i, none⟩ x) := by
  obtain ⟨rfl, m', f, h1, h2, h3⟩ := h
  refine ⟨rfl, m', f, h1.kept ((Kp.refl [g] w1).setCell (.inl (by simp)) x) (by simp; omega) (fun b' e q => ?_), h2.setCell (.inr hg) x, h3⟩
  have q' : b' = g := by simpa using q
  exact h1.noc b' e _ _ _ (by rw [q']; exact b)
set_option maxRecDepth 4000 in
set_option maxHeartbeats 1000000 in
theorem ppop_no {w : World} {y o : Nat} {U : TypeId} {pre post : List Value} {m : Option Nat} {f : Int × Int} (h : PL w y o U pre post m f []) :
    Calls Try.prog 21 #[.pointer (some ⟨y, o, none⟩)] w fun e w' => e = .returned (.tuple #[.agg #[.int .i64 0, .int .i64 0], .bool false]) ∧ Kp [] w w' := by
  have KW := hide ((Kp.refl [] w).alloc (.cells #[.int .i64 0, .int .i64 0] 27))
  have H := hide (h.grew (unhide KW))
  have B0 := hide (Bk.new w 27 [.int .i64 0, .int .i64 0])
  clear h
  go_enter Try.func21, Try.ntmps21
  go_wp2_with fail
  refine (plen (unhide H) (k := 0) rfl).mono ?_
  rintro e W1 ⟨rfl, K1⟩
  have B1 := (unhide B0).kept K1 (by simp)
  have KW1 := hide ((unhide KW).then K1)
  have f0 := B1.frozen
  have e0 := B1.cell (i := 0) rfl
  have e1 := B1.cell (i := 1) rfl
  clear B1 B0 H K1 KW
  go_wp2
  refine bodyPost_ret (v := .tuple #[.agg #[.int .i64 0, .int .i64 0], .bool false]) (by simp [results, Try.results21, go_sem, *]) rfl ⟨rfl, ?_⟩
  exact ((unhide KW1).setCell (.inr (by simp)) _).setCell (.inr (by simp)) _
set_option maxRecDepth 4000 in
set_option maxHeartbeats 2000000 in
theorem ppop_yes {w : World} {y o : Nat} {U : TypeId} {pre post : List Value} {m : Option Nat} {f1 f2 : Int} {T : List (Int × Int)} (h : PL w y o U pre post m (f1, f2) ((f1, f2) :: T)) :
    Calls Try.prog 21 #[.pointer (some ⟨y, o, none⟩)] w (PLP w y o U pre post m T (.tuple #[.agg #[.int .i64 f1, .int .i64 f2], .bool true])) := by
  have hnd := hide h.nd
  have hyl := hide h.head.lt
  have hml := hide h.lt
  have KW := hide ((Kp.refl [] w).alloc (.cells #[.int .i64 0, .int .i64 0] 27))
  have H := hide (h.grew (unhide KW))
  have B0 := hide (Bk.new w 27 [.int .i64 0, .int .i64 0])
  obtain ⟨len, hlen⟩ : ∃ k : Int, (((f1, f2) :: T).length : Int) = k := ⟨_, rfl⟩
  have hl0 : (len == 0) = false := beq_eq_false_iff_ne.2 (by have : 0 < ((f1, f2) :: T).length := by simp
                                                             omega)
  replace hlen := hide hlen
  clear h
  go_enter Try.func21, Try.ntmps21
  go_wp2_with fail
  refine (plen (unhide H) (unhide hlen)).mono ?_
  rintro e W1 ⟨rfl, K1⟩
  have B1 := hide ((unhide B0).kept K1 (by simp))
  have KW1 := hide ((unhide KW).then K1)
  have H1 := hide ((unhide H).grew K1)
  have y1 := (unhide H1).head.cell (i := 1) rfl
  have y2 := (unhide H1).head.cell (i := 2) rfl
  have K2 := (Kp.refl [] W1).alloc (.cells #[.int .i64 f1, .int .i64 f2] 27)
  have B2 := hide ((unhide B1).kept K2 (by simp))
  have C2 := hide (Bk.new W1 27 [.int .i64 f1, .int .i64 f2])
  have KW2 := hide ((unhide KW1).then K2)
  have H2 := hide ((unhide H1).grew K2)
  have d0 := (unhide C2).cell (i := 0) rfl
  have d1 := (unhide C2).cell (i := 1) rfl
  clear K1 K2 KW H B0
  go_wp2_with fail
  have hwl := hide (unhide B1).lt
  generalize W1.alloc (.cells #[.int .i64 f1, .int .i64 f2] 27) = W2 at *
  obtain ⟨D, eD⟩ : ∃ D, W1.heap.size = D := ⟨_, rfl⟩
  rw [eD] at C2 hwl
  simp only [eD]
  clear d0 d1 y1 y2 eD B1 KW1 H1
  refine (pdrop_yes (unhide H2) (by simp)).mono ?_
  rw [lDel_head (unhide hnd)]
  intro e W3 X3
  have X3' := X3
  obtain ⟨rfl, m', f', hP, hK, hm'⟩ := X3
  have hDS : D ∉ y :: m.toList ∧ w.heap.size ∉ y :: m.toList := by
    have h1 := unhide hyl
    have h2 := unhide hml
    have h3 := unhide hwl
    constructor
    · intro q
      rcases List.mem_cons.1 q with q | q
      · omega
      · have := h2 D (Option.mem_toList.1 q); omega
    · intro q
      rcases List.mem_cons.1 q with q | q
      · omega
      · have := h2 _ (Option.mem_toList.1 q); omega
  have B3 := (unhide B2).kept hK hDS.2
  have C3 := (unhide C2).kept hK hDS.1
  have f0 := B3.frozen
  have b0 := B3.cell (i := 0) rfl
  have b1 := B3.cell (i := 1) rfl
  have d0 := C3.cell (i := 0) rfl
  have d1 := C3.cell (i := 1) rfl
  have X4 := hide (PLP.box (u := .tuple #[.agg #[.int .i64 f1, .int .i64 f2], .bool true]) (PLP.box (u := .bool true) (PLP.pre (unhide KW2) X3') (unhide hyl) B3 (Nat.le_refl _) 0 (.int .i64 f1)) (unhide hyl) (B3.set 0 (.int .i64 f1)) (Nat.le_refl _) 1 (.int .i64 f2))
  clear hP hK hDS B3 C3 B2 C2 H2 hm' X3'
  go_wp2
  exact bodyPost_ret (v := .tuple #[.agg #[.int .i64 f1, .int .i64 f2], .bool true]) (by simp [results, Try.results21, go_sem, *]) rfl (unhide X4)
end Go.Proofs.Ytgahekhlbcnmaaa
