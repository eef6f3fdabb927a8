/- The program's endpoint: one more behind the others. -/
import Derived.Test.YthnpkojfkhndoaaKEpL0
namespace Go.Proofs.Ythnpkojfkhndoaa
open Go.RowKit
set_option linter.unusedVariables false
set_option linter.unusedSimpArgs false
theorem any_row {α : Type} {T : TypeId} {sz : Nat} {E : Gr.Enc α T sz} {base : Nat} {w : World} {v : Value} {L : List α} (h : Gr.Rw E base w v L) : ∃ a n c, v = .slice a n c := by
  obtain ⟨a, c, e⟩ := h.form
  exact ⟨a, _, c, e⟩
/-- A row's block is of another type than the endpoint's. -/
theorem ne_of_row {α : Type} {T : TypeId} {sz : Nat} {E : Gr.Enc α T sz} {base : Nat} {w : World} {v : Value} {L : List α} {t : Nat} {U : TypeId} {vs : List Value} (h : Gr.Rw E base w v L) (b : Bk w t U vs) (hT : T ≠ U) (e : some t = v.ownBlock) : False := by
  obtain ⟨_, c, hc⟩ := h.block e.symm
  unfold Bk at b
  rw [b] at hc
  simp at hc
  exact hT hc.2.symm
/-- What push leaves. -/
def MPushP (base : Nat) (w : World) (t : Nat) (v u2 u3 : Value) (k : Nat) (C : List Ms) (e : Ending) (w' : World) : Prop :=
  e = .returned (.tuple #[]) ∧ ∃ v', Bk w' t 31 [v', .int .i64 (k : Int), u2, u3] ∧ Gr.Rw (msE 47) base w' v' C ∧ Kp (t :: v.ownBlock.toList) w w' ∧ ∀ q, v'.ownBlock = some q → v.ownBlock = some q ∨ w.heap.size ≤ q
set_option maxRecDepth 8000 in
set_option maxHeartbeats 4000000 in
theorem mpush {base : Nat} {w : World} {t : Nat} {v u2 u3 : Value} {k : Nat} {C : List Ms} (h : Bk w t 31 [v, .int .i64 (k : Int), u2, u3]) (hr : Gr.Rw (msE 47) base w v C) (hb : base ≤ w.heap.size) (hl : C.length < 262144) (q1 q2 wd bd : Int) (cl : Bool) :
    Calls Try.prog 18 #[.pointer (some ⟨t, 0, none⟩), .agg #[.int .i64 q1, .int .i64 q2, .int .u32 wd, .int .i64 bd, .bool cl]] w (MPushP base w t v u2 u3 k (C ++ [(q1, q2, wd, bd, cl)])) := by
  have hne : Hid (some t ≠ v.ownBlock) := fun e => ne_of_row hr h (by decide) e
  have hlb : Hid (C.length + [(q1, q2, wd, bd, cl)].length ≤ 1048576) := by unfold Hid; simp; omega
  have K0 := hide ((Kp.refl [] w).alloc (.cells #[.int .i64 q1, .int .i64 q2, .int .u32 wd, .int .i64 bd, .bool cl] 47))
  have B0 := hide (Bk.new w 47 [.int .i64 q1, .int .i64 q2, .int .u32 wd, .int .i64 bd, .bool cl])
  have H0 := hide (h.kept (unhide K0) (by simp))
  have R0 := hide (hr.grew (unhide K0))
  have hbW : Hid (base ≤ (w.alloc (.cells #[.int .i64 q1, .int .i64 q2, .int .u32 wd, .int .i64 bd, .bool cl] 47)).heap.size) := by unfold Hid; simp; omega
  have hsz : Hid (w.heap.size ≤ (w.alloc (.cells #[.int .i64 q1, .int .i64 q2, .int .u32 wd, .int .i64 bd, .bool cl] 47)).heap.size) := by unfold Hid; simp
  have ht := hide h.lt
  clear h hr hb hl
  go_enter Try.func18, Try.ntmps18
  go_upto_region 1 with fail
  generalize w.alloc (.cells #[.int .i64 q1, .int .i64 q2, .int .u32 wd, .int .i64 bd, .bool cl] 47) = W1 at *
  have hS0 : Hid (∀ w', Kp [] W1 w' → (w'.cell? ⟨t, 0, none⟩ = some v ∧ w'.cell? ⟨w.heap.size, 0, none⟩ = some (.int .i64 q1) ∧ w'.cell? ⟨w.heap.size, 1, none⟩ = some (.int .i64 q2) ∧ w'.cell? ⟨w.heap.size, 2, none⟩ = some (.int .u32 wd) ∧ w'.cell? ⟨w.heap.size, 3, none⟩ = some (.int .i64 bd) ∧ w'.cell? ⟨w.heap.size, 4, none⟩ = some (.bool cl))) := fun w' kk => ⟨((unhide H0).kept kk (by simp)).cell (i := 0) rfl, ((unhide B0).kept kk (by simp)).cell (i := 0) rfl, ((unhide B0).kept kk (by simp)).cell (i := 1) rfl, ((unhide B0).kept kk (by simp)).cell (i := 2) rfl, ((unhide B0).kept kk (by simp)).cell (i := 3) rfl, ((unhide B0).kept kk (by simp)).cell (i := 4) rfl⟩
  have hA := unhide hS0 _ (Kp.refl [] W1)
  have hB := unhide hS0 _ ((Kp.refl [] W1).alloc (.cells #[.int .i64 q1, .int .i64 q2, .int .u32 wd, .int .i64 bd, .bool cl] 47))
  have kA := ((Kp.refl [] W1).drew).alloc (.cells #[.int .i64 q1, .int .i64 q2, .int .u32 wd, .int .i64 bd, .bool cl] 47)
  have kA := hide kA
  go_region_law (first
    | (refine Gr.step_app (E := (msE 47)) Try.underlying24 Try.infoMsgP rfl (by decide) (by decide) (by rfl) _ _ (by rfl) base v _ C [(q1, q2, wd, bd, cl)] (by rfl) (by rfl) ((unhide R0).grew (unhide kA)) (Gr.src_one (Bk.new W1.drew 47 [.int .i64 q1, .int .i64 q2, .int .u32 wd, .int .i64 bd, .bool cl]) rfl) (unhide hlb) (Nat.le_trans (unhide hbW) (unhide kA).size) ?_; intro v1 w1 hrow hgrow hat; obtain ⟨a3, n3, c3, rfl⟩ := any_row hrow; have b1 := Gr.bk_grown ((unhide H0).kept (unhide kA) (by simp)) hgrow (unhide hne); have f1 := b1.frozen; have c1 := b1.cell (i := 0) rfl; have R1 := hide hrow; have B1 := hide b1; have G1 := hide (Gr.kp_gb hgrow); have A1 : Hid (∀ q, (Value.slice a3 n3 c3).ownBlock = some q → v.ownBlock = some q ∨ w.heap.size ≤ q) := fun q hq => hat.imp (fun e => e.symm.trans hq) (fun e => by rw [Option.some.inj (hq.symm.trans e)]; exact Nat.le_trans (unhide hsz) (unhide kA).size); clear hrow hgrow hat b1))
  all_goals
    have k4 := (Kp.refl [t] _).setCell (p := ⟨t, 0, none⟩) (.inl (by simp)) (Value.slice a3 n3 c3) (w := w1) (w' := w1)
    have hfin : Hid (MPushP base w t v u2 u3 k (C ++ [(q1, q2, wd, bd, cl)]) (.returned (.tuple #[])) (w1.setCell ⟨t, 0, none⟩ (.slice a3 n3 c3))) := by
      refine ⟨rfl, _, (unhide B1).set 0 _, (unhide R1).kept k4 (fun g hg m => ne_of_row (unhide R1) (unhide B1) (by decide) (by rw [hg, List.mem_singleton.1 m])), ?_, unhide A1⟩
      exact (((unhide K0).then (unhide kA)).trans (unhide G1) (T := t :: v.ownBlock.toList) (by simp) (fun i m => .inl (List.mem_cons_of_mem _ m))).trans k4 (fun i m => m) (fun i m => .inl (by rw [List.mem_singleton.1 m]; simp))
    clear hA hB k4 R1 B1 G1 A1
    go_wp2
    go_end0
    exact unhide hfin
/-- What push leaves. -/
def RPushP (base : Nat) (w : World) (t : Nat) (v u0 u1 : Value) (k : Nat) (C : List Rc) (e : Ending) (w' : World) : Prop :=
  e = .returned (.tuple #[]) ∧ ∃ v', Bk w' t 31 [u0, u1, v', .int .i64 (k : Int)] ∧ Gr.Rw (rcE 42) base w' v' C ∧ Kp (t :: v.ownBlock.toList) w w' ∧ ∀ q, v'.ownBlock = some q → v.ownBlock = some q ∨ w.heap.size ≤ q
set_option maxRecDepth 8000 in
set_option maxHeartbeats 4000000 in
theorem rpush {base : Nat} {w : World} {t : Nat} {v u0 u1 : Value} {k : Nat} {C : List Rc} (h : Bk w t 31 [u0, u1, v, .int .i64 (k : Int)]) (hr : Gr.Rw (rcE 42) base w v C) (hb : base ≤ w.heap.size) (hl : C.length < 262144) (q1 q2 rp : Int) :
    Calls Try.prog 24 #[.pointer (some ⟨t, 2, none⟩), .agg #[.int .i64 q1, .int .i64 q2, .int .i64 rp]] w (RPushP base w t v u0 u1 k (C ++ [(q1, q2, rp)])) := by
  have hne : Hid (some t ≠ v.ownBlock) := fun e => ne_of_row hr h (by decide) e
  have hlb : Hid (C.length + [(q1, q2, rp)].length ≤ 1048576) := by unfold Hid; simp; omega
  have K0 := hide ((Kp.refl [] w).alloc (.cells #[.int .i64 q1, .int .i64 q2, .int .i64 rp] 42))
  have B0 := hide (Bk.new w 42 [.int .i64 q1, .int .i64 q2, .int .i64 rp])
  have H0 := hide (h.kept (unhide K0) (by simp))
  have R0 := hide (hr.grew (unhide K0))
  have hbW : Hid (base ≤ (w.alloc (.cells #[.int .i64 q1, .int .i64 q2, .int .i64 rp] 42)).heap.size) := by unfold Hid; simp; omega
  have hsz : Hid (w.heap.size ≤ (w.alloc (.cells #[.int .i64 q1, .int .i64 q2, .int .i64 rp] 42)).heap.size) := by unfold Hid; simp
  have ht := hide h.lt
  clear h hr hb hl
  go_enter Try.func24, Try.ntmps24
  go_upto_region 1 with fail
  generalize w.alloc (.cells #[.int .i64 q1, .int .i64 q2, .int .i64 rp] 42) = W1 at *
  have hS0 : Hid (∀ w', Kp [] W1 w' → (w'.cell? ⟨t, 2, none⟩ = some v ∧ w'.cell? ⟨w.heap.size, 0, none⟩ = some (.int .i64 q1) ∧ w'.cell? ⟨w.heap.size, 1, none⟩ = some (.int .i64 q2) ∧ w'.cell? ⟨w.heap.size, 2, none⟩ = some (.int .i64 rp))) := fun w' kk => ⟨((unhide H0).kept kk (by simp)).cell (i := 2) rfl, ((unhide B0).kept kk (by simp)).cell (i := 0) rfl, ((unhide B0).kept kk (by simp)).cell (i := 1) rfl, ((unhide B0).kept kk (by simp)).cell (i := 2) rfl⟩
  have hA := unhide hS0 _ (Kp.refl [] W1)
  have hB := unhide hS0 _ ((Kp.refl [] W1).alloc (.cells #[.int .i64 q1, .int .i64 q2, .int .i64 rp] 42))
  have kA := ((Kp.refl [] W1).drew).alloc (.cells #[.int .i64 q1, .int .i64 q2, .int .i64 rp] 42)
  have kA := hide kA
  go_region_law (first
    | (refine Gr.step_app (E := (rcE 42)) Try.underlying27 Try.infoRcvP rfl (by decide) (by decide) (by rfl) _ _ (by rfl) base v _ C [(q1, q2, rp)] (by rfl) (by rfl) ((unhide R0).grew (unhide kA)) (Gr.src_one (Bk.new W1.drew 42 [.int .i64 q1, .int .i64 q2, .int .i64 rp]) rfl) (unhide hlb) (Nat.le_trans (unhide hbW) (unhide kA).size) ?_; intro v1 w1 hrow hgrow hat; obtain ⟨a3, n3, c3, rfl⟩ := any_row hrow; have b1 := Gr.bk_grown ((unhide H0).kept (unhide kA) (by simp)) hgrow (unhide hne); have f1 := b1.frozen; have c1 := b1.cell (i := 2) rfl; have R1 := hide hrow; have B1 := hide b1; have G1 := hide (Gr.kp_gb hgrow); have A1 : Hid (∀ q, (Value.slice a3 n3 c3).ownBlock = some q → v.ownBlock = some q ∨ w.heap.size ≤ q) := fun q hq => hat.imp (fun e => e.symm.trans hq) (fun e => by rw [Option.some.inj (hq.symm.trans e)]; exact Nat.le_trans (unhide hsz) (unhide kA).size); clear hrow hgrow hat b1))
  all_goals
    have k4 := (Kp.refl [t] _).setCell (p := ⟨t, 2, none⟩) (.inl (by simp)) (Value.slice a3 n3 c3) (w := w1) (w' := w1)
    have hfin : Hid (RPushP base w t v u0 u1 k (C ++ [(q1, q2, rp)]) (.returned (.tuple #[])) (w1.setCell ⟨t, 2, none⟩ (.slice a3 n3 c3))) := by
      refine ⟨rfl, _, (unhide B1).set 2 _, (unhide R1).kept k4 (fun g hg m => ne_of_row (unhide R1) (unhide B1) (by decide) (by rw [hg, List.mem_singleton.1 m])), ?_, unhide A1⟩
      exact (((unhide K0).then (unhide kA)).trans (unhide G1) (T := t :: v.ownBlock.toList) (by simp) (fun i m => .inl (List.mem_cons_of_mem _ m))).trans k4 (fun i m => m) (fun i m => .inl (by rw [List.mem_singleton.1 m]; simp))
    clear hA hB k4 R1 B1 G1 A1
    go_wp2
    go_end0
    exact unhide hfin
end Go.Proofs.Ythnpkojfkhndoaa
