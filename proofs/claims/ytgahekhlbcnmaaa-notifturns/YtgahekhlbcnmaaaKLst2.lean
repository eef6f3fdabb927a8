/- The program's list at a block; Len, Has. -/
import Derived.Test.YtgahekhlbcnmaaaKLst1
namespace Go.Proofs.Ytgahekhlbcnmaaa
open Go.RowKit
set_option linter.unusedVariables false
set_option linter.unusedSimpArgs false
theorem Try.fieldAhead (a1 a2 n1 n2 : Int) (w : World) : (Instr.field 64 (.agg #[.int .i64 a1, .int .i64 a2, .int .i64 n1, .int .i64 n2]) 0).run Try.prog w = .ok (.agg #[.int .i64 a1, .int .i64 a2]) w := by kernel_rfl
theorem Try.fieldBehind (a1 a2 n1 n2 : Int) (w : World) : (Instr.field 64 (.agg #[.int .i64 a1, .int .i64 a2, .int .i64 n1, .int .i64 n2]) 1).run Try.prog w = .ok (.agg #[.int .i64 n1, .int .i64 n2]) w := by kernel_rfl
/-- The map has just these, a ring from f on. -/
def LsO (w : World) (m : Option Nat) (f : Int × Int) (L : List (Int × Int)) : Prop := match m with | none => L = [] | some b => ∃ p n, Gm.Mp idK w b (ents L p n) ∧ Rn p n f L
theorem LsO.kept {S : List Nat} {w w' : World} {m : Option Nat} {f : Int × Int} {L : List (Int × Int)} (h : LsO w m f L) (k : Kp S w w') (hm : ∀ b, m = some b → b ∉ S) : LsO w' m f L := by
  cases m with
  | none => exact h
  | some b =>
    obtain ⟨p, n, h1, h2⟩ := h
    exact ⟨p, n, h1.kept k (hm b rfl), h2⟩
/-- The program's list at a block. -/
structure PL (w : World) (y o : Nat) (U : TypeId) (pre post : List Value) (m : Option Nat) (f : Int × Int) (L : List (Int × Int)) : Prop where
  head : Hd w y o U pre post [.map m, .int .i64 f.1, .int .i64 f.2]
  mo : LsO w m f L
  nd : L.Nodup
  ok : ∀ q ∈ L, IdIn q
  small : L.length ≤ 65536
theorem PL.kept {S : List Nat} {w w' : World} {y o : Nat} {U : TypeId} {pre post : List Value} {m : Option Nat} {f : Int × Int} {L : List (Int × Int)} (h : PL w y o U pre post m f L) (k : Kp S w w') (hy : y ∉ S) (hm : ∀ b, m = some b → b ∉ S) : PL w' y o U pre post m f L := ⟨h.head.kept k hy, h.mo.kept k hm, h.nd, h.ok, h.small⟩
theorem PL.grew {w w' : World} {y o : Nat} {U : TypeId} {pre post : List Value} {m : Option Nat} {f : Int × Int} {L : List (Int × Int)} (h : PL w y o U pre post m f L) (k : Kp [] w w') : PL w' y o U pre post m f L := h.kept k (by simp) (by simp)
theorem PL.new (w : World) : PL (w.alloc (.cells #[.map none, .int .i64 0, .int .i64 0] 29)) w.heap.size 0 29 [] [] none (0, 0) [] := ⟨.of (Bk.new w 29 [.map none, .int .i64 0, .int .i64 0]), rfl, List.nodup_nil, by simp, by simp⟩
theorem PL.lt {w : World} {y o : Nat} {U : TypeId} {pre post : List Value} {m : Option Nat} {f : Int × Int} {L : List (Int × Int)} (h : PL w y o U pre post m f L) : ∀ b, m = some b → b < w.heap.size := fun b e => by
  subst e
  obtain ⟨p, n, h1, _⟩ := h.mo
  exact h1.lt
theorem PL.noc {w : World} {y o : Nat} {U : TypeId} {pre post : List Value} {m : Option Nat} {f : Int × Int} {L : List (Int × Int)} (h : PL w y o U pre post m f L) : ∀ b, m = some b → ∀ c T z, w.heap[b]? ≠ some (.cells c T z) := fun b e c T z q => by
  subst e
  obtain ⟨p, n, ⟨es, clock, hb, _⟩, _⟩ := h.mo
  rw [hb] at q
  cases q
theorem PL.ne {w : World} {y o : Nat} {U : TypeId} {pre post : List Value} {m : Option Nat} {f : Int × Int} {L : List (Int × Int)} (h : PL w y o U pre post m f L) : ∀ b, m = some b → b ≠ y := fun b e q => by
  subst q
  exact h.noc b e _ _ _ h.head.bk
def lHas (L : List (Int × Int)) (q : Int × Int) : Bool := decide (q ∈ L)
theorem lHas_yes {L : List (Int × Int)} {q : Int × Int} (h : q ∈ L) : lHas L q = true := decide_eq_true h
theorem lHas_no {L : List (Int × Int)} {q : Int × Int} (h : q ∉ L) : lHas L q = false := decide_eq_false h
theorem lHas_iff {L : List (Int × Int)} {q : Int × Int} : lHas L q = true ↔ q ∈ L := decide_eq_true_iff
/-- What a look at the map finds, in whatever world that only grew. -/
theorem PL.look {w : World} {y o : Nat} {U : TypeId} {pre post : List Value} {m : Option Nat} {f : Int × Int} {L : List (Int × Int)} (h : PL w y o U pre post m f L) {q : Int × Int} (hi : IdIn q) :
    ∃ x1 x2 x3 x4 : Int, ∀ w', Kp [] w w' → (Instr.lookup 25 (.map m) (.agg #[.int .i64 q.1, .int .i64 q.2]) true).run Try.prog w' = .ok (.tuple #[.agg #[.int .i64 x1, .int .i64 x2, .int .i64 x3, .int .i64 x4], .bool (lHas L q)]) w' := by
  cases m with
  | none =>
    have e : L = [] := h.mo
    subst e
    exact ⟨0, 0, 0, 0, fun w' _ => Gm.look_nil (K := idK) Try.underlying25 (Try.zeroPlace w') hi true⟩
  | some b =>
    obtain ⟨p, n, hm, _⟩ := h.mo
    by_cases hq : q ∈ L
    · refine ⟨(p q).1, (p q).2, (n q).1, (n q).2, fun w' k => ?_⟩
      rw [lHas_yes hq]
      exact (mp_look (hm.kept k (by simp)) hi true).1 hq
    · refine ⟨0, 0, 0, 0, fun w' k => ?_⟩
      rw [lHas_no hq]
      exact (mp_look (hm.kept k (by simp)) hi true).2 hq
theorem PL.maplen {w : World} {y o : Nat} {U : TypeId} {pre post : List Value} {m : Option Nat} {f : Int × Int} {L : List (Int × Int)} (h : PL w y o U pre post m f L) (ty : TypeId) : (Builtin.len_ #[25] ty #[.map m]).run Try.prog w = .ok (.int .i64 (L.length : Int)) w := by
  cases m with
  | none =>
    have e : L = [] := h.mo
    subst e
    exact run_len_nilMap w 25 ty (by simp [Program.mapKeyOf, Program.mapElemOf, Try.underlying25])
  | some b =>
    obtain ⟨p, n, ⟨es, clock, hb, E⟩, _⟩ := h.mo
    have hl : es.size = L.length := by
      have := E.kv.length_eq
      simpa [ents] using this
    rw [← hl]
    exact run_len_map w 25 ty b es clock (by simp [Program.mapKeyOf, Program.mapElemOf, Try.underlying25]) hb
set_option maxHeartbeats 1000000 in
theorem plen {w : World} {y o : Nat} {U : TypeId} {pre post : List Value} {m : Option Nat} {f : Int × Int} {L : List (Int × Int)} (h : PL w y o U pre post m f L) {k : Int} (hk : (L.length : Int) = k) :
    Calls Try.prog 28 #[.pointer (some ⟨y, o, none⟩)] w fun e w' => e = .returned (.int .i64 k) ∧ Kp [] w w' := by
  subst hk
  have c0 := h.head.cell0 rfl
  have hl := h.maplen
  clear h
  go_enter Try.func28, Try.ntmps28
  go_wp2
  go_ret
  exact ⟨rfl, Kp.refl _ _⟩
set_option maxRecDepth 4000 in
set_option maxHeartbeats 1000000 in
theorem phas {w : World} {y o : Nat} {U : TypeId} {pre post : List Value} {m : Option Nat} {f : Int × Int} {L : List (Int × Int)} (h : PL w y o U pre post m f L) {q1 q2 : Int} {is : Bool} (hi : IdIn (q1, q2)) (his : lHas L (q1, q2) = is) :
    Calls Try.prog 27 #[.pointer (some ⟨y, o, none⟩), .agg #[.int .i64 q1, .int .i64 q2]] w fun e w' => e = .returned (.bool is) ∧ Kp [] w w' := by
  subst his
  obtain ⟨x1, x2, x3, x4, hl⟩ := h.look hi
  obtain ⟨is, his⟩ : ∃ v, lHas L (q1, q2) = v := ⟨_, rfl⟩
  rw [his] at hl ⊢
  have hS : Hid (∀ w', Kp [] (w.alloc (.cells #[.int .i64 q1, .int .i64 q2] 27)) w' → w'.cell? ⟨y, o, none⟩ = some (.map m) ∧ w'.cell? ⟨w.heap.size, 0, none⟩ = some (.int .i64 q1) ∧ w'.cell? ⟨w.heap.size, 1, none⟩ = some (.int .i64 q2) ∧ (Instr.lookup 25 (.map m) (.agg #[.int .i64 q1, .int .i64 q2]) true).run Try.prog w' = .ok (.tuple #[.agg #[.int .i64 x1, .int .i64 x2, .int .i64 x3, .int .i64 x4], .bool is]) w') := fun w' K => by
    obtain ⟨B, K1⟩ := box_id (q := (q1, q2)) K
    exact ⟨(h.grew K1).head.cell0 rfl, B.cell rfl, B.cell rfl, hl w' K1⟩
  have KW := hide ((Kp.refl [] w).alloc (.cells #[.int .i64 q1, .int .i64 q2] 27))
  clear h hl his
  go_enter Try.func27, Try.ntmps27
  go_wp2_with fail
  have hw1 : (w.alloc (.cells #[.int .i64 q1, .int .i64 q2] 27)).heap.size = w.heap.size + 1 := by simp
  generalize w.alloc (.cells #[.int .i64 q1, .int .i64 q2] 27) = w1 at *
  have K0 := hide (Kp.refl [] w1)
  go_region_held3 (fun w' => w'.cell? ⟨y, o, none⟩ = some (.map m) ∧ w'.cell? ⟨w.heap.size, 0, none⟩ = some (.int .i64 q1) ∧ w'.cell? ⟨w.heap.size, 1, none⟩ = some (.int .i64 q2) ∧ (Instr.lookup 25 (.map m) (.agg #[.int .i64 q1, .int .i64 q2]) true).run Try.prog w' = .ok (.tuple #[.agg #[.int .i64 x1, .int .i64 x2, .int .i64 x3, .int .i64 x4], .bool is]) w') (first | exact unhide hS _ ((unhide K0).drew) | exact unhide hS _ (((unhide K0).alloc _).drew)) (fail)
  all_goals
    go_wp2
    go_ret
    exact ⟨rfl, (((unhide KW).alloc _).drew)⟩
end Go.Proofs.Ytgahekhlbcnmaaa
