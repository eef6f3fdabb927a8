/- The document's endpoint: its rows of messages and of those that receive, at a block of its own. -/
import Derived.Test.YthnpkojfkhndoaaKRowO
import Derived.Deep.DeepCutAuto
import Derived.Deep.CutBlock
import Derived.Deep.RegionHeld3
import Derived.Deep.RegionLaw
import Derived.BigRegion
namespace Go.Proofs.Ythnpkojfkhndoaa
open Go.RowKit
set_option linter.unusedVariables false
set_option linter.unusedSimpArgs false
/-- A message: who (ring, number), its word, its badge, whether it is a call. -/
abbrev Ms := Int × Int × Int × Int × Bool
/-- One that receives: who, its reply. -/
abbrev Rc := Int × Int × Int
def msV (m : Ms) : List Value := [.int .i64 m.1, .int .i64 m.2.1, .int .u32 m.2.2.1, .int .i64 m.2.2.2.1, .bool m.2.2.2.2]
def rcV (r : Rc) : List Value := [.int .i64 r.1, .int .i64 r.2.1, .int .i64 r.2.2]
def msE (T : TypeId) : Gr.Enc Ms T 5 := ⟨msV, fun _ => rfl, fun x v hv => by
  simp only [msV, List.mem_cons, List.not_mem_nil, or_false] at hv
  rcases hv with rfl | rfl | rfl | rfl | rfl <;> rfl⟩
def rcE (T : TypeId) : Gr.Enc Rc T 3 := ⟨rcV, fun _ => rfl, fun x v hv => by
  simp only [rcV, List.mem_cons, List.not_mem_nil, or_false] at hv
  rcases hv with rfl | rfl | rfl <;> rfl⟩
/-- Is it another one than this? -/
def msN (q : Int × Int) (m : Ms) : Bool := !decide ((m.1, m.2.1) = q)
def rcN (q : Int × Int) (r : Rc) : Bool := !decide ((r.1, r.2.1) = q)
theorem Try.infoMsgR : (Try.prog.info? 51).map (fun i => (i.zero, i.size, i.bytes)) = some (some (.agg #[.int .i64 0, .int .i64 0, .int .u32 0, .int .i64 0, .bool false]), 5, 40) := by kernel_rfl
theorem Try.infoRcvR : (Try.prog.info? 48).map (fun i => (i.zero, i.size, i.bytes)) = some (some (.agg #[.int .i64 0, .int .i64 0, .int .i64 0]), 3, 24) := by kernel_rfl
/-- The document's endpoint at block y, in memory newer than base. -/
structure RE (base : Nat) (w : World) (y : Nat) (a : Option Addr) (ca : Nat) (S : List Ms) (b : Option Addr) (cb : Nat) (R : List Rc) : Prop where
  head : Bk w y 35 [.slice a S.length ca, .slice b R.length cb]
  s : Gr.Ro (msE 51) base w (.slice a S.length ca) S
  r : Gr.Ro (rcE 48) base w (.slice b R.length cb) R
  new : base ≤ y
  ssm : S.length ≤ 65536
  rsm : R.length ≤ 65536
theorem RE.lt {base : Nat} {w : World} {y : Nat} {a : Option Addr} {ca : Nat} {S : List Ms} {b : Option Addr} {cb : Nat} {R : List Rc} (h : RE base w y a ca S b cb R) : y < w.heap.size := h.head.lt
theorem RE.kept {base : Nat} {w w' : World} {y : Nat} {a : Option Addr} {ca : Nat} {S : List Ms} {b : Option Addr} {cb : Nat} {R : List Rc} {X : List Nat} (h : RE base w y a ca S b cb R) (k : Kp X w w') (hy : y ∉ X) (ha : ∀ g, (Value.slice a S.length ca).ownBlock = some g → g ∉ X) (hb : ∀ g, (Value.slice b R.length cb).ownBlock = some g → g ∉ X) : RE base w' y a ca S b cb R :=
  ⟨h.head.kept k hy, h.s.kept k ha, h.r.kept k hb, h.new, h.ssm, h.rsm⟩
theorem RE.grew {base : Nat} {w w' : World} {y : Nat} {a : Option Addr} {ca : Nat} {S : List Ms} {b : Option Addr} {cb : Nat} {R : List Rc} (h : RE base w y a ca S b cb R) (k : Kp [] w w') : RE base w' y a ca S b cb R := h.kept k (by simp) (by simp) (by simp)
theorem RE.start (base : Nat) (w : World) (hb : base ≤ w.heap.size) : RE base (w.alloc (.cells #[.slice none 0 0, .slice none 0 0] 35)) w.heap.size none 0 [] none 0 [] :=
  ⟨Bk.new w _ [.slice none 0 0, .slice none 0 0], .nil _ _, .nil _ _, hb, by simp, by simp⟩
/-- '==' and '!=' of two IDs, each as one fact. -/
theorem eqi (q1 q2 f1 f2 : Int) (w : World) : (binOp .eql 39 (.agg #[.int .i64 q1, .int .i64 q2]) (.agg #[.int .i64 f1, .int .i64 f2])).run Try.prog w = .ok (.bool (decide ((q1, q2) = (f1, f2)))) w := by
  by_cases e1 : q1 = f1
  · by_cases e2 : q2 = f2
    · subst e1 e2
      simp [go_sem]
    · simp [go_sem, e1, e2]
  · simp [go_sem, e1]
theorem neqi (q1 q2 f1 f2 : Int) (w : World) : (binOp .neq 39 (.agg #[.int .i64 q1, .int .i64 q2]) (.agg #[.int .i64 f1, .int .i64 f2])).run Try.prog w = .ok (.bool (!decide ((q1, q2) = (f1, f2)))) w := by
  by_cases e1 : q1 = f1
  · by_cases e2 : q2 = f2
    · subst e1 e2
      simp [go_sem]
    · simp [go_sem, e1, e2]
  · simp [go_sem, e1]
/-- A row's block is one that is there. -/
theorem Gr.Ro.old {α : Type} {T : TypeId} {sz : Nat} {E : Gr.Enc α T sz} {base : Nat} {w : World} {v : Value} {L : List α} (h : Gr.Ro E base w v L) {g : Nat} (hg : v.ownBlock = some g) : g < w.heap.size := by
  obtain ⟨_, cs, hc⟩ := h.lt hg
  exact (Array.getElem?_eq_some_iff.1 hc).1
/-- A block of another type is not among a row's. -/
theorem ro_off {α : Type} {T : TypeId} {sz : Nat} {E : Gr.Enc α T sz} {base : Nat} {w : World} {v : Value} {L : List α} (h : Gr.Ro E base w v L) {y : Nat} {U : TypeId} {vs : List Value} (b : Bk w y U vs) (hne : T ≠ U) {g : Nat} (hg : v.ownBlock = some g) : g ∉ [y] := fun m => by
  obtain ⟨_, cs, hc⟩ := h.lt hg
  rw [List.mem_singleton.1 m] at hc
  unfold Bk at b
  rw [b] at hc
  simp at hc
  exact hne hc.2.symm
theorem RE.putS {base base' : Nat} {w : World} {y n c : Nat} {ad b : Option Addr} {cb : Nat} {u : Value} {M : List Ms} {R : List Rc} (hrow : Gr.Ro (msE 51) base' w (.slice ad n c) M) (hn : n = M.length) (hb : base ≤ base') (ht : Bk w y 35 [u, .slice b R.length cb]) (hr : Gr.Ro (rcE 48) base w (.slice b R.length cb) R) (hby : base ≤ y) (hs : M.length ≤ 65536) (hrs : R.length ≤ 65536) :
    RE base (w.setCell ⟨y, 0, none⟩ (.slice ad n c)) y ad c M b cb R ∧ Kp [y] w (w.setCell ⟨y, 0, none⟩ (.slice ad n c)) := by
  subst hn
  have k := (Kp.refl [y] w).setCell (p := ⟨y, 0, none⟩) (.inl (by simp)) (.slice ad M.length c)
  exact ⟨⟨ht.set 0 _, (hrow.kept k (fun g hg => ro_off hrow ht (by decide) hg)).mono hb, hr.kept k (fun g hg => ro_off hr ht (by decide) hg), hby, hs, hrs⟩, k⟩
theorem RE.putR {base base' : Nat} {w : World} {y n c : Nat} {ad a : Option Addr} {ca : Nat} {u : Value} {M : List Rc} {S : List Ms} (hrow : Gr.Ro (rcE 48) base' w (.slice ad n c) M) (hn : n = M.length) (hb : base ≤ base') (ht : Bk w y 35 [.slice a S.length ca, u]) (hs : Gr.Ro (msE 51) base w (.slice a S.length ca) S) (hby : base ≤ y) (hrs : M.length ≤ 65536) (hss : S.length ≤ 65536) :
    RE base (w.setCell ⟨y, 1, none⟩ (.slice ad n c)) y a ca S ad c M ∧ Kp [y] w (w.setCell ⟨y, 1, none⟩ (.slice ad n c)) := by
  subst hn
  have k := (Kp.refl [y] w).setCell (p := ⟨y, 1, none⟩) (.inl (by simp)) (.slice ad M.length c)
  exact ⟨⟨ht.set 1 _, hs.kept k (fun g hg => ro_off hs ht (by decide) hg), (hrow.kept k (fun g hg => ro_off hrow ht (by decide) hg)).mono hb, hby, hss, hrs⟩, k⟩
theorem filtL_yes {α : Type} {L : List α} {f : α → Bool} {j : Nat} {x : α} (hx : L[j]? = some x) (hf : f x = true) : (L.take (j + 1)).filter f = (L.take j).filter f ++ [x] := by
  obtain ⟨hj, rfl⟩ := List.getElem?_eq_some_iff.1 hx
  rw [List.take_succ_eq_append_getElem hj, List.filter_append]
  simp [hf]
theorem filtL_no {α : Type} {L : List α} {f : α → Bool} {j : Nat} {x : α} (hx : L[j]? = some x) (hf : f x = false) : (L.take (j + 1)).filter f = (L.take j).filter f := by
  obtain ⟨hj, rfl⟩ := List.getElem?_eq_some_iff.1 hx
  rw [List.take_succ_eq_append_getElem hj, List.filter_append]
  simp [hf]
/-- The block where a row lies. -/
def rb (a : Option Addr) : Option Nat := (Value.slice a 0 0).ownBlock
theorem rb_is (a : Option Addr) (n c : Nat) : (Value.slice a n c).ownBlock = rb a := by cases a <;> rfl
/-- What a change of the document's endpoint leaves: its rows lie where they lay, or in new blocks. -/
def REP (base y : Nat) (w : World) (a b : Option Addr) (v : Value) (S : List Ms) (R : List Rc) (e : Ending) (w' : World) : Prop :=
  e = .returned v ∧ (∃ a' ca b' cb, RE base w' y a' ca S b' cb R ∧ (∀ g, rb a' = some g → rb a = some g ∨ w.heap.size ≤ g) ∧ ∀ g, rb b' = some g → rb b = some g ∨ w.heap.size ≤ g) ∧ Kp [y] w w'
end Go.Proofs.Ythnpkojfkhndoaa
