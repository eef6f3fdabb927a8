/- The program's list (list.List): a ring in a map keyed by IDs; Len, Has, join. -/
import Derived.Test.YtgahekhlbcnmaaaKLst0
import Derived.Test.YtgahekhlbcnmaaaKHd
import Derived.Test.YtgahekhlbcnmaaaKSeg
import Derived.Deep.DeepCutAuto
import Derived.Deep.CutBlock
import Derived.Deep.RegionHeld3
namespace Go.Proofs.Ytgahekhlbcnmaaa
open Go.RowKit
set_option linter.unusedVariables false
set_option linter.unusedSimpArgs false
def idVal (q : Int × Int) : Value := .agg #[.int .i64 q.1, .int .i64 q.2]
theorem idVal_inj {q q' : Int × Int} (h : idVal q = idVal q') : q = q' := by
  unfold idVal at h
  simp at h
  exact Prod.ext h.1 h.2
def IdIn (q : Int × Int) : Prop := (Lit.int .i64 q.1).wf = true ∧ (Lit.int .i64 q.2).wf = true
theorem idIn_of {s p : Int} (h1 : -9223372036854775808 ≤ s ∧ s ≤ 9223372036854775807) (h2 : -9223372036854775808 ≤ p ∧ p ≤ 9223372036854775807) : IdIn (s, p) := ⟨WalkArith.wf_i64 (by omega), WalkArith.wf_i64 (by omega)⟩
theorem Try.laidOutId : laidOutB Try.prog = true := by kernel_rfl
theorem Try.rowId : (27 : TypeId) < Try.prog.types.size := of_decide_eq_true (by kernel_rfl)
theorem Try.keyAtId : Try.prog.keyTypeAt 2 27 = true := by kernel_rfl
theorem Try.threeId : 2 + 1 ≤ 10000 := of_decide_eq_true (by kernel_rfl)
theorem Try.lawId : WideMaps.KeyLaw Try.prog 27 := deep_law_laid (m := 2) Try.laidOutId Try.threeId Try.rowId Try.keyAtId (by rw [Try.underlying27])
theorem Try.keyTypeId : Try.prog.keyType 27 = true := by kernel_rfl
theorem Try.cellsId : Try.prog.cellsOf 27 = 2 := by kernel_rfl
theorem Try.cellsIId : Try.prog.cellsOf 3 = 1 := by kernel_rfl
theorem id_more1 {k n : Nat} (h : k < n) : ∃ m, n = m + 1 := ⟨n - 1, by omega⟩
theorem Try.sizeTId : ∃ m, Try.prog.types.size = m + 1 := id_more1 Try.rowId
theorem key_ofId {q : Int × Int} (h : IdIn q) : ∃ l, keyOf Try.prog 27 (idVal q) = some l := by
  obtain ⟨m, hm⟩ := Try.sizeTId
  obtain ⟨h1, h2⟩ := h
  have hf : (idVal q).formed Try.prog 27 = true := by unfold idVal; simp [Value.formed, Try.underlying27, Try.cellsId]
  have hk : ∃ ls, Try.prog.keyLits (Try.prog.types.size + 1) 27 (idVal q).cells.toList = some ls := by
    rw [hm]
    refine ⟨[.int .i64 q.1, .int .i64 q.2], ?_⟩
    unfold idVal
    simp [Program.keyLits, Try.underlying27, Try.underlying3, Try.cellsId, Try.cellsIId, Value.cells, h1, h2]
  obtain ⟨ls, hls⟩ := hk
  refine ⟨.string (keyBytes ls), ?_⟩
  unfold keyOf
  rw [Try.underlying27]
  simp only [Try.keyTypeId, hf, Bool.and_self, if_true, hls, Option.map_some]
/-- An ID as a key. -/
def idK : Gm.Key 27 (Int × Int) := ⟨idVal, IdIn, idVal_inj, Try.lawId, key_ofId⟩
theorem Try.zeroPlace (w : World) : (zeroValue 64).run Try.prog w = .ok (plV (0, 0) (0, 0)) w := by kernel_rfl
/-- Two boxes of IDs, laid one behind the other. -/
theorem box_id {w w' : World} {q : Int × Int} (K : Kp [] (w.alloc (.cells #[.int .i64 q.1, .int .i64 q.2] 27)) w') : Bk w' w.heap.size 27 [.int .i64 q.1, .int .i64 q.2] ∧ Kp [] w w' :=
  ⟨(Bk.new w 27 [.int .i64 q.1, .int .i64 q.2]).kept K (by simp), ((Kp.refl [] w).alloc _).then K⟩
/-- A place looked up: the map's value there, else zeros. -/
theorem mp_look {w : World} {b : Nat} {L : List (Int × Int)} {p n : Int × Int → Int × Int} (h : Gm.Mp idK w b (ents L p n)) {q : Int × Int} (hi : IdIn q) (c : Bool) :
    (q ∈ L → (Instr.lookup 25 (.map (some b)) (.agg #[.int .i64 q.1, .int .i64 q.2]) c).run Try.prog w = .ok (Gm.lookV c (plV (p q) (n q)) true) w) ∧
    (q ∉ L → (Instr.lookup 25 (.map (some b)) (.agg #[.int .i64 q.1, .int .i64 q.2]) c).run Try.prog w = .ok (Gm.lookV c (plV (0, 0) (0, 0)) false) w) :=
  ⟨fun hq => Gm.Mp.hit h Try.underlying25 (ents_mem hq) c, fun hq => Gm.Mp.miss h Try.underlying25 (Try.zeroPlace w) hi (ents_miss hq) c⟩
/-- Four cells written into a new block. -/
theorem st4 {S : List Nat} {w w' : World} (h : Kp S w w') {P : Nat} {T : TypeId} {z0 z1 z2 z3 : Value} (b : Bk w' P T [z0, z1, z2, z3]) (hp : w.heap.size ≤ P) (v0 v1 v2 v3 : Value) :
    Bk ((((w'.setCell ⟨P, 0, none⟩ v0).setCell ⟨P, 1, none⟩ v1).setCell ⟨P, 2, none⟩ v2).setCell ⟨P, 3, none⟩ v3) P T [v0, v1, v2, v3] ∧ Kp S w ((((w'.setCell ⟨P, 0, none⟩ v0).setCell ⟨P, 1, none⟩ v1).setCell ⟨P, 2, none⟩ v2).setCell ⟨P, 3, none⟩ v3) :=
  ⟨(((b.set 0 v0).set 1 v1).set 2 v2).set 3 v3, (((h.setCell (.inr hp) _).setCell (.inr hp) _).setCell (.inr hp) _).setCell (.inr hp) _⟩
def joinL (L : List (Int × Int)) (c : Int × Int) : List (Int × Int) := if c ∈ L then L else L ++ [c]
theorem joinL_in {L : List (Int × Int)} {c : Int × Int} (h : c ∈ L) : joinL L c = L := if_pos h
theorem joinL_new {L : List (Int × Int)} {c : Int × Int} (h : c ∉ L) : joinL L c = L ++ [c] := if_neg h
def secX (L : List (Int × Int)) (p : Int × Int → Int × Int) (c : Int × Int) : Int × Int := if c ∈ L then p c else (0, 0)
/-- What a join finds at its second ID, what it lays there. -/
theorem mp_second {w : World} {b : Nat} {L : List (Int × Int)} {p n : Int × Int → Int × Int} (h : Gm.Mp idK w b (ents L p n)) {c : Int × Int} (hi : IdIn c) (hc : c ∈ L ∨ n c = (0, 0)) :
    (Instr.lookup 25 (.map (some b)) (.agg #[.int .i64 c.1, .int .i64 c.2]) false).run Try.prog w = .ok (.agg #[.int .i64 (secX L p c).1, .int .i64 (secX L p c).2, .int .i64 (n c).1, .int .i64 (n c).2]) w := by
  unfold secX
  by_cases hm : c ∈ L
  · rw [if_pos hm]
    exact (mp_look h hi false).1 hm
  · rw [hc.resolve_left hm, if_neg hm]
    exact (mp_look h hi false).2 hm
theorem mp_laid {w : World} {b : Nat} {L : List (Int × Int)} {p n : Int × Int → Int × Int} (h : Gm.Mp idK w b (ents L p n)) {c : Int × Int} (a : Int × Int) (hi : IdIn c) :
    ∃ w', (Instr.mapUpdate 25 (.map (some b)) (.agg #[.int .i64 c.1, .int .i64 c.2]) (.agg #[.int .i64 a.1, .int .i64 a.2, .int .i64 (n c).1, .int .i64 (n c).2])).run Try.prog w = .ok () w' ∧ Gm.Mp idK w' b (ents (joinL L c) (updF p c a) n) ∧ Kp [b] w w' := by
  by_cases hm : c ∈ L
  · obtain ⟨w', h1, h2, h3⟩ := Gm.Mp.put_hit h Try.underlying25 (ents_mem hm) (plV a (n c))
    rw [ents_set, updF_same] at h2
    rw [joinL_in hm]
    exact ⟨w', h1, h2, h3⟩
  · obtain ⟨w', h1, h2, h3⟩ := Gm.Mp.put_miss h Try.underlying25 hi (ents_miss hm) (plV a (n c))
    rw [ents_push hm] at h2
    rw [joinL_new hm]
    exact ⟨w', h1, h2, h3⟩
/-- The boxes of a join: its two IDs, its place. -/
structure JB (w : World) (a1 a2 c1 c2 : Int) (vs : List Value) (w' : World) : Prop where
  a : Bk w' w.heap.size 27 [.int .i64 a1, .int .i64 a2]
  c : Bk w' (w.heap.size + 1) 27 [.int .i64 c1, .int .i64 c2]
  p : Bk w' (w.heap.size + 2) 64 vs
theorem JB.kept {S : List Nat} {w wx wy : World} {a1 a2 c1 c2 : Int} {vs : List Value} (h : JB w a1 a2 c1 c2 vs wx) (k : Kp S wx wy) (hs : w.heap.size ∉ S ∧ w.heap.size + 1 ∉ S ∧ w.heap.size + 2 ∉ S) : JB w a1 a2 c1 c2 vs wy := ⟨h.a.kept k hs.1, h.c.kept k hs.2.1, h.p.kept k hs.2.2⟩
theorem jb_set {w wx : World} {a1 a2 c1 c2 : Int} {vs : List Value} (h : JB w a1 a2 c1 c2 vs wx) (i : Nat) (v : Value) : JB w a1 a2 c1 c2 (vs.set i v) (wx.setCell ⟨w.heap.size + 2, i, none⟩ v) :=
  have k := (Kp.refl [w.heap.size + 2] wx).setCell (p := ⟨w.heap.size + 2, i, none⟩) (.inl (by simp)) v
  ⟨h.a.kept k (by simp), h.c.kept k (by simp), h.p.set i v⟩
set_option maxRecDepth 4000 in
set_option maxHeartbeats 2000000 in
theorem pjoin {w : World} {y o b : Nat} {U : TypeId} {pre post : List Value} {f1 f2 : Int} {L : List (Int × Int)} {p n : Int × Int → Int × Int} {a1 a2 c1 c2 : Int} (hy : Hd w y o U pre post [.map (some b), .int .i64 f1, .int .i64 f2]) (hyb : y ≠ b) (hm : Gm.Mp idK w b (ents L p n)) (ha : (a1, a2) ∈ L) (hic : IdIn (c1, c2)) (hc : (c1, c2) ∈ L ∨ (c1, c2) ≠ (a1, a2) ∧ n (c1, c2) = (0, 0)) :
    Calls Try.prog 29 #[.pointer (some ⟨y, o, none⟩), .agg #[.int .i64 a1, .int .i64 a2], .agg #[.int .i64 c1, .int .i64 c2]] w fun e w' => e = .returned (.tuple #[]) ∧ Gm.Mp idK w' b (ents (joinL L (c1, c2)) (updF p (c1, c2) (a1, a2)) (updF n (a1, a2) (c1, c2))) ∧ Kp [b] w w' := by
  have hia : IdIn (a1, a2) := hm.rng _ (ents_mem ha)
  replace hc : (c1, c2) ∈ L ∨ updF n (a1, a2) (c1, c2) (c1, c2) = (0, 0) := hc.imp id fun q => by rw [updF_ne _ _ q.1]; exact q.2
  obtain ⟨⟨m1, m2⟩, hmm⟩ : ∃ z, updF n (a1, a2) (c1, c2) (c1, c2) = z := ⟨_, rfl⟩
  have hb := hm.lt
  have hyl := hy.lt
  obtain ⟨⟨p1, p2⟩, hp⟩ : ∃ z, p (a1, a2) = z := ⟨_, rfl⟩
  obtain ⟨⟨n1, n2⟩, hn⟩ : ∃ z, n (a1, a2) = z := ⟨_, rfl⟩
  have KA := ((Kp.refl [] w).alloc (.cells #[.int .i64 a1, .int .i64 a2] 27)).alloc (.cells #[.int .i64 c1, .int .i64 c2] 27)
  have BA := (Bk.new w 27 [.int .i64 a1, .int .i64 a2]).alloc (.cells #[.int .i64 c1, .int .i64 c2] 27)
  have BC := Gr.bk_next (p := w.heap.size + 1) (w.alloc (.cells #[.int .i64 a1, .int .i64 a2] 27)) 27 [.int .i64 c1, .int .i64 c2] (by simp)
  have hs2 : ((w.alloc (.cells #[.int .i64 a1, .int .i64 a2] 27)).alloc (.cells #[.int .i64 c1, .int .i64 c2] 27)).heap.size = w.heap.size + 2 := by simp
  go_enter Try.func29, Try.ntmps29
  go_wp2_with fail
  generalize (w.alloc (.cells #[.int .i64 a1, .int .i64 a2] 27)).alloc (.cells #[.int .i64 c1, .int .i64 c2] 27) = w2 at *
  have hS : Hid (∀ w', Kp [] w2 w' → w'.cell? ⟨y, o, none⟩ = some (.map (some b)) ∧ w'.cell? ⟨w.heap.size, 0, none⟩ = some (.int .i64 a1) ∧ w'.cell? ⟨w.heap.size, 1, none⟩ = some (.int .i64 a2) ∧ (Instr.lookup 25 (.map (some b)) (.agg #[.int .i64 a1, .int .i64 a2]) false).run Try.prog w' = .ok (.agg #[.int .i64 p1, .int .i64 p2, .int .i64 n1, .int .i64 n2]) w') := fun w' K => by
    refine ⟨((hy.kept KA (by simp)).kept K (by simp)).cell0 rfl, (BA.kept K (by simp)).cell rfl, (BA.kept K (by simp)).cell rfl, ?_⟩
    have h9 := (mp_look ((hm.kept KA (by simp)).kept K (by simp)) hia false).1 ha
    rw [hp, hn] at h9
    exact h9
  have K0 := hide (Kp.refl [] w2)
  go_region_held3 (fun w' => w'.cell? ⟨y, o, none⟩ = some (.map (some b)) ∧ w'.cell? ⟨w.heap.size, 0, none⟩ = some (.int .i64 a1) ∧ w'.cell? ⟨w.heap.size, 1, none⟩ = some (.int .i64 a2) ∧ (Instr.lookup 25 (.map (some b)) (.agg #[.int .i64 a1, .int .i64 a2]) false).run Try.prog w' = .ok (.agg #[.int .i64 p1, .int .i64 p2, .int .i64 n1, .int .i64 n2]) w') (first | exact unhide hS _ ((unhide K0).drew) | exact unhide hS _ (((unhide K0).alloc _).drew)) (fail)
  all_goals
    have BP := Gr.bk_drew (Bk.new w2 64 [.int .i64 p1, .int .i64 p2, .int .i64 n1, .int .i64 n2])
    rw [hs2] at BP
    have K3 := (KA.alloc (.cells #[.int .i64 p1, .int .i64 p2, .int .i64 n1, .int .i64 n2] 64)).drew
    have K23 := ((Kp.refl [] w2).alloc (.cells #[.int .i64 p1, .int .i64 p2, .int .i64 n1, .int .i64 n2] 64)).drew
    have BA3 := BA.kept K23 (by simp)
    have BC3 := BC.kept K23 (by simp)
    clear hS K0 BA BC KA K23 hs2
    generalize (w2.alloc (.cells #[.int .i64 p1, .int .i64 p2, .int .i64 n1, .int .i64 n2] 64)).drew = w3 at *
    have e0 := BC3.cell (i := 0) rfl
    have e1 := BC3.cell (i := 1) rfl
    have e2 := BP.frozen
    have e3 := BP.cell (i := 2) rfl
    have e4 := BP.cell (i := 3) rfl
    have J4 := hide (jb_set (jb_set ⟨BA3, BC3, BP⟩ 2 (.int .i64 c1)) 3 (.int .i64 c2))
    have K4 := hide ((K3.setCell (p := ⟨w.heap.size + 2, 2, none⟩) (.inr (by simp)) (.int .i64 c1)).setCell (p := ⟨w.heap.size + 2, 3, none⟩) (.inr (by simp)) (.int .i64 c2))
    clear BA3 BC3 BP K3
    go_wp2_with fail
    generalize (w3.setCell ⟨w.heap.size + 2, 2, none⟩ (.int .i64 c1)).setCell ⟨w.heap.size + 2, 3, none⟩ (.int .i64 c2) = w4 at *
    clear e0 e1 e2 e3 e4
    obtain ⟨w5, hup0, hM5, hK5⟩ := Gm.Mp.put_hit (w := w4.drew) ((hm.kept (unhide K4) (by simp)).drewN 1) Try.underlying25 (ents_mem ha) (plV (p (a1, a2)) (c1, c2))
    rw [ents_set, updF_same] at hM5
    rw [hp] at hup0
    have hup : (Instr.mapUpdate 25 (.map (some b)) (.agg #[.int .i64 a1, .int .i64 a2]) (.agg #[.int .i64 p1, .int .i64 p2, .int .i64 c1, .int .i64 c2])).run Try.prog w4.drew = .ok () w5 := hup0
    have hS : Hid (∀ w', Kp [b] w4 w' → w'.cell? ⟨y, o, none⟩ = some (.map (some b)) ∧ w'.cell? ⟨w.heap.size, 0, none⟩ = some (.int .i64 a1) ∧ w'.cell? ⟨w.heap.size, 1, none⟩ = some (.int .i64 a2) ∧ w'.cell? ⟨w.heap.size + 2, 0, none⟩ = some (.int .i64 p1) ∧ w'.cell? ⟨w.heap.size + 2, 1, none⟩ = some (.int .i64 p2) ∧ w'.cell? ⟨w.heap.size + 2, 2, none⟩ = some (.int .i64 c1) ∧ w'.cell? ⟨w.heap.size + 2, 3, none⟩ = some (.int .i64 c2)) := fun w' K => by
      have J := (unhide J4).kept K (by simp; omega)
      exact ⟨((hy.kept (unhide K4) (by simp)).kept K (by simpa using hyb)).cell0 rfl, J.a.cell rfl, J.a.cell rfl, J.p.cell rfl, J.p.cell rfl, J.p.cell rfl, J.p.cell rfl⟩
    have K0 := hide (Kp.refl [b] w4).drew
    have K1 := hide ((Kp.refl [b] w4).drew.then hK5)
    clear hup0 hK5
    go_region_held3 (fun w' => w'.cell? ⟨y, o, none⟩ = some (.map (some b)) ∧ w'.cell? ⟨w.heap.size, 0, none⟩ = some (.int .i64 a1) ∧ w'.cell? ⟨w.heap.size, 1, none⟩ = some (.int .i64 a2) ∧ w'.cell? ⟨w.heap.size + 2, 0, none⟩ = some (.int .i64 p1) ∧ w'.cell? ⟨w.heap.size + 2, 1, none⟩ = some (.int .i64 p2) ∧ w'.cell? ⟨w.heap.size + 2, 2, none⟩ = some (.int .i64 c1) ∧ w'.cell? ⟨w.heap.size + 2, 3, none⟩ = some (.int .i64 c2)) (first | exact unhide hS _ (unhide K0) | exact unhide hS _ (unhide K1)) (fail)
    have J5 := (unhide J4).kept (unhide K1) (by simp; omega)
    have K5 : Kp [b] w w5 := (unhide K4).trans (unhide K1) (by simp) (by simp)
    have Y5 := hide (hy.kept K5 (by simpa using hyb))
    replace J5 := hide J5
    replace K5 := hide K5
    clear hup K0 K1 K4 J4 hS
    obtain ⟨⟨x1, x2⟩, hx⟩ : ∃ z, secX L p (c1, c2) = z := ⟨_, rfl⟩
    have hS : Hid (∀ w', Kp [w.heap.size + 2] w5 w' → w'.cell? ⟨y, o, none⟩ = some (.map (some b)) ∧ w'.cell? ⟨w.heap.size + 1, 0, none⟩ = some (.int .i64 c1) ∧ w'.cell? ⟨w.heap.size + 1, 1, none⟩ = some (.int .i64 c2) ∧ (Instr.lookup 25 (.map (some b)) (.agg #[.int .i64 c1, .int .i64 c2]) false).run Try.prog w' = .ok (.agg #[.int .i64 x1, .int .i64 x2, .int .i64 m1, .int .i64 m2]) w') := fun w' K => by
      refine ⟨((unhide Y5).kept K (by simp; omega)).cell0 rfl, ((unhide J5).c.kept K (by simp)).cell rfl, ((unhide J5).c.kept K (by simp)).cell rfl, ?_⟩
      have h9 := mp_second (hM5.kept K (by simp; omega)) hic hc
      rw [hmm, hx] at h9
      exact h9
    have g0 := (unhide J5).p.frozen
    have g1 := (unhide J5).p.cell (i := 0) rfl
    have g2 := (unhide J5).p.cell (i := 1) rfl
    have g3 := (unhide J5).p.cell (i := 2) rfl
    have g4 := (unhide J5).p.cell (i := 3) rfl
    have K0 := hide (Kp.refl [w.heap.size + 2] w5).drew
    have J6 := hide (jb_set (jb_set (jb_set (jb_set (unhide J5) 0 (.int .i64 x1)) 1 (.int .i64 x2)) 2 (.int .i64 m1)) 3 (.int .i64 m2))
    have K6 := hide ((((((Kp.refl [w.heap.size + 2] w5).setCell (p := ⟨w.heap.size + 2, 0, none⟩) (.inl (by simp)) (.int .i64 x1)).setCell (p := ⟨w.heap.size + 2, 1, none⟩) (.inl (by simp)) (.int .i64 x2)).setCell (p := ⟨w.heap.size + 2, 2, none⟩) (.inl (by simp)) (.int .i64 m1)).setCell (p := ⟨w.heap.size + 2, 3, none⟩) (.inl (by simp)) (.int .i64 m2)).drew)
    go_wp2_with fail
    go_region_held3 (fun w' => w'.cell? ⟨y, o, none⟩ = some (.map (some b)) ∧ w'.cell? ⟨w.heap.size + 1, 0, none⟩ = some (.int .i64 c1) ∧ w'.cell? ⟨w.heap.size + 1, 1, none⟩ = some (.int .i64 c2) ∧ (Instr.lookup 25 (.map (some b)) (.agg #[.int .i64 c1, .int .i64 c2]) false).run Try.prog w' = .ok (.agg #[.int .i64 x1, .int .i64 x2, .int .i64 m1, .int .i64 m2]) w') (first | exact unhide hS _ (unhide K0) | exact unhide hS _ (unhide K6)) (fail)
    have J6' : Hid (JB w a1 a2 c1 c2 [.int .i64 x1, .int .i64 x2, .int .i64 m1, .int .i64 m2] (((((w5.setCell ⟨w.heap.size + 2, 0, none⟩ (.int .i64 x1)).setCell ⟨w.heap.size + 2, 1, none⟩ (.int .i64 x2)).setCell ⟨w.heap.size + 2, 2, none⟩ (.int .i64 m1)).setCell ⟨w.heap.size + 2, 3, none⟩ (.int .i64 m2)).drew)) := (unhide J6).kept ((Kp.refl [] _).drew) (by simp)
    clear J6 hS K0 g0 g1 g2 g3 g4
    generalize ((((w5.setCell ⟨w.heap.size + 2, 0, none⟩ (.int .i64 x1)).setCell ⟨w.heap.size + 2, 1, none⟩ (.int .i64 x2)).setCell ⟨w.heap.size + 2, 2, none⟩ (.int .i64 m1)).setCell ⟨w.heap.size + 2, 3, none⟩ (.int .i64 m2)).drew = w6 at *
    have Y6 := (unhide Y5).kept (unhide K6) (by simp; omega)
    have M6 := hM5.kept (unhide K6) (by simp; omega)
    have L6 : Kp [b] w w6 := (unhide K5).trans (unhide K6) (by simp) (by simp)
    clear hM5 K5 Y5 J5 K6
    have e0 := (unhide J6').a.cell (i := 0) rfl
    have e1 := (unhide J6').a.cell (i := 1) rfl
    have g0 := (unhide J6').p.frozen
    have g1 := (unhide J6').p.cell (i := 0) rfl
    have g2 := (unhide J6').p.cell (i := 1) rfl
    have J7 := hide (jb_set (jb_set (unhide J6') 0 (.int .i64 a1)) 1 (.int .i64 a2))
    have K7 := ((Kp.refl [w.heap.size + 2] w6).setCell (p := ⟨w.heap.size + 2, 0, none⟩) (.inl (by simp)) (.int .i64 a1)).setCell (p := ⟨w.heap.size + 2, 1, none⟩) (.inl (by simp)) (.int .i64 a2)
    go_wp2_with fail
    clear e0 e1 g0 g1 g2 J6'
    generalize (w6.setCell ⟨w.heap.size + 2, 0, none⟩ (.int .i64 a1)).setCell ⟨w.heap.size + 2, 1, none⟩ (.int .i64 a2) = w7 at *
    have Y7 := Y6.kept K7 (by simp; omega)
    have M7 := M6.kept K7 (by simp; omega)
    have L7 : Kp [b] w w7 := L6.trans K7 (by simp) (by simp)
    clear Y6 M6 K7 L6
    obtain ⟨w8, hup, hM8, hK8⟩ := mp_laid (w := w7.drew) (M7.drewN 1) (a1, a2) hic
    rw [hmm] at hup
    simp only at hup
    have hS : Hid (∀ w', Kp [b] w7 w' → w'.cell? ⟨y, o, none⟩ = some (.map (some b)) ∧ w'.cell? ⟨w.heap.size + 1, 0, none⟩ = some (.int .i64 c1) ∧ w'.cell? ⟨w.heap.size + 1, 1, none⟩ = some (.int .i64 c2) ∧ w'.cell? ⟨w.heap.size + 2, 0, none⟩ = some (.int .i64 a1) ∧ w'.cell? ⟨w.heap.size + 2, 1, none⟩ = some (.int .i64 a2) ∧ w'.cell? ⟨w.heap.size + 2, 2, none⟩ = some (.int .i64 m1) ∧ w'.cell? ⟨w.heap.size + 2, 3, none⟩ = some (.int .i64 m2)) := fun w' K => by
      have J := (unhide J7).kept K (by simp; omega)
      exact ⟨(Y7.kept K (by simpa using hyb)).cell0 rfl, J.c.cell rfl, J.c.cell rfl, J.p.cell rfl, J.p.cell rfl, J.p.cell rfl, J.p.cell rfl⟩
    have K0 := hide (Kp.refl [b] w7).drew
    have K1 := hide ((Kp.refl [b] w7).drew.then hK8)
    clear hK8
    go_region_held3 (fun w' => w'.cell? ⟨y, o, none⟩ = some (.map (some b)) ∧ w'.cell? ⟨w.heap.size + 1, 0, none⟩ = some (.int .i64 c1) ∧ w'.cell? ⟨w.heap.size + 1, 1, none⟩ = some (.int .i64 c2) ∧ w'.cell? ⟨w.heap.size + 2, 0, none⟩ = some (.int .i64 a1) ∧ w'.cell? ⟨w.heap.size + 2, 1, none⟩ = some (.int .i64 a2) ∧ w'.cell? ⟨w.heap.size + 2, 2, none⟩ = some (.int .i64 m1) ∧ w'.cell? ⟨w.heap.size + 2, 3, none⟩ = some (.int .i64 m2)) (first | exact unhide hS _ (unhide K0) | exact unhide hS _ (unhide K1)) (fail)
    go_wp2
    exact bodyPost_end (v := .tuple #[]) (by simp [results, Try.results29, go_sem, *]) rfl ⟨rfl, hM8, L7.then (unhide K1)⟩
end Go.Proofs.Ytgahekhlbcnmaaa
