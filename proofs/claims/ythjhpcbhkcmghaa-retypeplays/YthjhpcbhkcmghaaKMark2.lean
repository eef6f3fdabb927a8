/- The program's marks (retype.Marks): a map keyed by ranges. -/
import Derived.Test.YthjhpcbhkcmghaaKMapG
import Derived.Test.YthjhpcbhkcmghaaKMark0
import Derived.Test.YthjhpcbhkcmghaaKTb
namespace Go.Proofs.Ythjhpcbhkcmghaa
open Go.RowKit
set_option linter.unusedVariables false
theorem Try.rowR : (45 : TypeId) < Try.prog.types.size := of_decide_eq_true (by kernel_rfl)
theorem Try.keyAtR : Try.prog.keyTypeAt 2 45 = true := by kernel_rfl
theorem Try.lawR : WideMaps.KeyLaw Try.prog 45 := deep_law_laid (m := 2) Try.laidOutK Try.three Try.rowR Try.keyAtR (by rw [Try.underlying45])
theorem Try.keyTypeR : Try.prog.keyType 45 = true := by kernel_rfl
theorem Try.cellsR : Try.prog.cellsOf 45 = 2 := by kernel_rfl
theorem key_ofR {q : Int × Int} (h : PIn q) : ∃ l, keyOf Try.prog 45 (plV q) = some l := by
  obtain ⟨m, hm⟩ := Try.sizeT
  obtain ⟨h1, h2⟩ := h
  unfold In64 at h1 h2
  have hf : (plV q).formed Try.prog 45 = true := by unfold plV; simp [Value.formed, Try.underlying45, Try.cellsR]
  have hk : ∃ ls, Try.prog.keyLits (Try.prog.types.size + 1) 45 (plV q).cells.toList = some ls := by
    rw [hm]
    refine ⟨[.int .i64 q.1, .int .i64 q.2], ?_⟩
    unfold plV
    simp [Program.keyLits, Try.underlying45, Try.underlying3, Try.cellsR, Try.cellsI, Value.cells, h1, h2]
  obtain ⟨ls, hls⟩ := hk
  refine ⟨.string (keyBytes ls), ?_⟩
  unfold keyOf
  rw [Try.underlying45]
  simp only [Try.keyTypeR, hf, Bool.and_self, if_true, hls, Option.map_some]
/-- A range as a key. -/
def rgK : Gm.Key 45 (Int × Int) := ⟨plV, PIn, plV_inj, Try.lawR, key_ofR⟩
/-- How much of each range was taken: entries of the map. -/
def kvI (p : (Int × Int) × Int) : (Int × Int) × Value := (p.1, .int .i64 p.2)
def gI (G : List ((Int × Int) × Int)) (q : Int × Int) : Int := match G.find? (fun p => decide (p.1 = q)) with | some p => p.2 | none => 0
def upF (F : Int × Int → Int) (q : Int × Int) (v : Int) : Int × Int → Int := fun q' => if q' = q then v else F q'
theorem gI_hit {G : List ((Int × Int) × Int)} (hn : (G.map Prod.fst).Nodup) {q : Int × Int} {v : Int} (h : (q, v) ∈ G) : gI G q = v := by
  induction G with
  | nil => cases h
  | cons p G ih =>
    rw [List.map_cons, List.nodup_cons] at hn
    unfold gI
    rw [List.find?_cons]
    by_cases e : p.1 = q
    · rw [decide_eq_true e]
      rcases List.mem_cons.1 h with m | m
      · rw [← m]
      · exact absurd (List.mem_map.2 ⟨_, m, e.symm⟩) hn.1
    · rw [decide_eq_false e]
      rcases List.mem_cons.1 h with m | m
      · exact absurd (by rw [← m]) e
      · exact ih hn.2 m
theorem gI_miss {G : List ((Int × Int) × Int)} {q : Int × Int} (h : ∀ p ∈ G, p.1 ≠ q) : gI G q = 0 := by
  unfold gI
  rw [List.find?_eq_none.2 (fun p hp => by simpa using h p hp)]
theorem gI_is (G : List ((Int × Int) × Int)) (q : Int × Int) : (∃ v, (q, v) ∈ G) ∨ ∀ p ∈ G, p.1 ≠ q := by
  by_cases h : ∃ p ∈ G, p.1 = q
  · obtain ⟨p, hp, e⟩ := h
    exact .inl ⟨p.2, by rw [← e]; exact hp⟩
  · exact .inr fun p hp e => h ⟨p, hp, e⟩
def setI (q : Int × Int) (v : Int) (p : (Int × Int) × Int) : (Int × Int) × Int := if p.1 = q then (q, v) else p
theorem setI_kv (q : Int × Int) (v : Int) (G : List ((Int × Int) × Int)) : (G.map kvI).map (Gm.setF q (.int .i64 v)) = (G.map (setI q v)).map kvI := by
  rw [List.map_map, List.map_map]
  refine List.map_congr_left fun p _ => ?_
  unfold setI kvI Gm.setF
  show (if p.1 = q then _ else _) = _
  by_cases e : p.1 = q
  · simp [e]
  · simp [e]
theorem setI_keys (q : Int × Int) (v : Int) (G : List ((Int × Int) × Int)) : (G.map (setI q v)).map Prod.fst = G.map Prod.fst := by
  rw [List.map_map]
  refine List.map_congr_left fun p _ => ?_
  show (setI q v p).1 = p.1
  unfold setI
  split
  · rename_i h; exact h.symm
  · rfl
theorem kv_keys (G : List ((Int × Int) × Int)) : (G.map kvI).map Prod.fst = G.map Prod.fst := by
  rw [List.map_map]
  rfl
theorem gI_set {G : List ((Int × Int) × Int)} (hn : (G.map Prod.fst).Nodup) {q : Int × Int} {v0 : Int} (h : (q, v0) ∈ G) (v : Int) : ∀ q', upF (gI G) q v q' = gI (G.map (setI q v)) q' := by
  intro q'
  have hn' : ((G.map (setI q v)).map Prod.fst).Nodup := by rw [setI_keys]; exact hn
  unfold upF
  by_cases e : q' = q
  · subst e
    rw [if_pos rfl]
    exact (gI_hit hn' (List.mem_map.2 ⟨_, h, by unfold setI; rw [if_pos rfl]⟩)).symm
  · rw [if_neg e]
    rcases gI_is G q' with ⟨u, hu⟩ | hu
    · rw [gI_hit hn hu]
      exact (gI_hit hn' (List.mem_map.2 ⟨_, hu, by unfold setI; rw [if_neg e]⟩)).symm
    · rw [gI_miss hu]
      refine (gI_miss fun p hp => ?_).symm
      obtain ⟨p0, hp0, rfl⟩ := List.mem_map.1 hp
      unfold setI
      split
      · exact fun x => e x.symm
      · exact hu p0 hp0
theorem gI_app {G : List ((Int × Int) × Int)} {q : Int × Int} (h : ∀ p ∈ G, p.1 ≠ q) (v : Int) : ∀ q', upF (gI G) q v q' = gI (G ++ [(q, v)]) q' := by
  intro q'
  unfold upF gI
  rw [List.find?_append]
  by_cases e : q' = q
  · subst e
    rw [if_pos rfl, List.find?_eq_none.2 (fun p hp => by simpa using h p hp)]
    simp
  · rw [if_neg e]
    cases G.find? (fun p => decide (p.1 = q')) with
    | some p => simp
    | none => simp [Ne.symm e]
theorem gI_del {G : List ((Int × Int) × Int)} (q : Int × Int) : ∀ q', upF (gI G) q 0 q' = gI (G.filter fun p => !decide (p.1 = q)) q' := by
  intro q'
  unfold upF
  by_cases e : q' = q
  · subst e
    rw [if_pos rfl]
    exact (gI_miss fun p hp => by have := (List.mem_filter.1 hp).2; simpa using this).symm
  · rw [if_neg e]
    unfold gI
    rw [List.find?_filter]
    congr 2
    funext p
    by_cases e2 : p.1 = q'
    · simp [e2, e]
    · simp [e2]
theorem without_kv (q : Int × Int) (G : List ((Int × Int) × Int)) : Gm.without q (G.map kvI) = (G.filter fun p => !decide (p.1 = q)).map kvI := by
  unfold Gm.without
  rw [List.filter_map]
  rfl
theorem up_same {F : Int × Int → Int} {q : Int × Int} {v : Int} (h : F q = v) : ∀ q', F q' = upF F q v q' := by
  intro q'
  unfold upF
  split
  · rename_i e; rw [e, h]
  · rfl
/-- The map has just these numbers. -/
def MkO (w : World) (m : Option Nat) (F : Int × Int → Int) : Prop := match m with | none => ∀ q, F q = 0 | some b => ∃ G, Gm.Mp rgK w b (G.map kvI) ∧ ∀ q, F q = gI G q
theorem MkO.kept {S : List Nat} {w w' : World} {m : Option Nat} {F : Int × Int → Int} (h : MkO w m F) (k : Kp S w w') (hm : ∀ b, m = some b → b ∉ S) : MkO w' m F := by
  cases m with
  | none => exact h
  | some b =>
    obtain ⟨G, hG, hF⟩ := h
    exact ⟨G, hG.kept k (hm b rfl), hF⟩
theorem MkO.same {w : World} {m : Option Nat} {F F' : Int × Int → Int} (h : MkO w m F) (e : ∀ q, F q = F' q) : MkO w m F' := by
  cases m with
  | none => exact fun q => (e q).symm.trans (h q)
  | some b =>
    obtain ⟨G, hG, hF⟩ := h
    exact ⟨G, hG, fun q => (e q).symm.trans (hF q)⟩
/-- Since w: at y the program's marks, F of each range, in memory that is new since w. -/
structure MkIn (w : World) (y : Nat) (F : Int × Int → Int) (wr : World) : Prop where
  kp : Kp [] w wr
  mp : ∃ m, Bk wr y 33 [.map m] ∧ MkO wr m F ∧ ∀ b, m = some b → w.heap.size ≤ b
  new : w.heap.size ≤ y
theorem MkIn.lt {w wr : World} {y : Nat} {F : Int × Int → Int} (h : MkIn w y F wr) : y < wr.heap.size := by
  obtain ⟨m, hb, _⟩ := h.mp
  exact hb.lt
theorem MkO.lt {w : World} {b : Nat} {F : Int × Int → Int} (h : MkO w (some b) F) : b < w.heap.size := by
  obtain ⟨G, hG, _⟩ := h
  exact hG.lt
theorem MkO.noc {w : World} {b : Nat} {F : Int × Int → Int} (h : MkO w (some b) F) : ∀ c T z, w.heap[b]? ≠ some (.cells c T z) := by
  intro c T z q
  obtain ⟨G, ⟨es, clock, hb, _⟩, _⟩ := h
  rw [hb] at q
  cases q
theorem MkIn.kept {S : List Nat} {w wr w' : World} {y : Nat} {F : Int × Int → Int} (h : MkIn w y F wr) (k : Kp S wr w') (hw : ∀ i ∈ S, w.heap.size ≤ i) (hy : y ∉ S) (hm : ∀ b, Bk wr y 33 [.map (some b)] → b ∉ S) : MkIn w y F w' := by
  obtain ⟨m, hb, ho, hn⟩ := h.mp
  exact ⟨h.kp.trans k (by simp) (fun i mi => .inr (hw i mi)), ⟨m, hb.kept k hy, ho.kept k (fun b e => hm b (by rw [← e]; exact hb)), hn⟩, h.new⟩
theorem MkIn.grew {w wr w' : World} {y : Nat} {F : Int × Int → Int} (h : MkIn w y F wr) (k : Kp [] wr w') : MkIn w y F w' := h.kept k (by simp) (by simp) (by simp)
theorem MkIn.same {w wr : World} {y : Nat} {F F' : Int × Int → Int} (h : MkIn w y F wr) (e : ∀ q, F q = F' q) : MkIn w y F' wr := by
  obtain ⟨m, hb, ho, hn⟩ := h.mp
  exact ⟨h.kp, ⟨m, hb, ho.same e, hn⟩, h.new⟩
theorem MkIn.of {w W wr : World} {y : Nat} (k : Kp [] w W) (hy : y = W.heap.size) (k' : Kp [] (W.alloc (.cells #[.map none] 33)) wr) : MkIn w y (fun _ => 0) wr := by
  subst hy
  exact MkIn.grew ⟨k.alloc _, ⟨none, Bk.new W _ [.map none], fun _ => rfl, by simp⟩, k.size⟩ k'
/-- Nothing but the marks' own blocks was touched. -/
def Mch (w : World) (y : Nat) (wr w' : World) : Prop := Och 33 w y wr w'
/-- What a change of the marks leaves. -/
def MkP (w : World) (y : Nat) (F : Int × Int → Int) (wr : World) (v : Value) (e : Ending) (w' : World) : Prop := e = .returned v ∧ MkIn w y F w' ∧ Mch w y wr w'
theorem Try.zeroInt (w : World) : (zeroValue 3).run Try.prog w = .ok (.int .i64 0) w := by kernel_rfl
/-- A look at a range. -/
theorem MkO.look {w : World} {m : Option Nat} {F : Int × Int → Int} (h : MkO w m F) {q : Int × Int} (hi : PIn q) : (Instr.lookup 31 (.map m) (plV q) false).run Try.prog w = .ok (.int .i64 (F q)) w := by
  cases m with
  | none =>
    have := Gm.look_nil (K := rgK) (w := w) Try.underlying31 (Try.zeroInt w) (q := q) hi false
    rw [show F q = 0 from h q]
    exact this
  | some b =>
    obtain ⟨G, hG, hF⟩ := h
    rw [hF q]
    rcases gI_is G q with ⟨v, hv⟩ | hv
    · have hn := hG.nd
      rw [kv_keys] at hn
      rw [gI_hit hn hv]
      exact hG.hit Try.underlying31 (q := q) (v := .int .i64 v) (List.mem_map.2 ⟨_, hv, rfl⟩) false
    · rw [gI_miss hv]
      exact hG.miss Try.underlying31 (Try.zeroInt w) (q := q) hi (fun p hp => by
        obtain ⟨p0, hp0, rfl⟩ := List.mem_map.1 hp
        exact hv p0 hp0) false
/-- Written at a range. -/
theorem MkO.put {w : World} {b : Nat} {F : Int × Int → Int} (h : MkO w (some b) F) {q : Int × Int} (hi : PIn q) (v : Int) : ∃ w', (Instr.mapUpdate 31 (.map (some b)) (plV q) (.int .i64 v)).run Try.prog w = .ok () w' ∧ MkO w' (some b) (upF F q v) ∧ Kp [b] w w' := by
  obtain ⟨G, hG, hF⟩ := h
  have hn := hG.nd
  rw [kv_keys] at hn
  have hF2 : ∀ q', upF F q v q' = upF (gI G) q v q' := fun q' => by unfold upF; rw [hF q']
  rcases gI_is G q with ⟨u, hu⟩ | hu
  · obtain ⟨w', h1, h2, h3⟩ := hG.put_hit Try.underlying31 (q := q) (v0 := .int .i64 u) (List.mem_map.2 ⟨_, hu, rfl⟩) (.int .i64 v)
    rw [setI_kv] at h2
    exact ⟨w', h1, ⟨_, h2, fun q' => (hF2 q').trans (gI_set hn hu v q')⟩, h3⟩
  · obtain ⟨w', h1, h2, h3⟩ := hG.put_miss Try.underlying31 (q := q) hi (fun p hp => by
      obtain ⟨p0, hp0, rfl⟩ := List.mem_map.1 hp
      exact hu p0 hp0) (.int .i64 v)
    have e : G.map kvI ++ [(q, .int .i64 v)] = (G ++ [(q, v)]).map kvI := by rw [List.map_append]; rfl
    rw [e] at h2
    exact ⟨w', h1, ⟨_, h2, fun q' => (hF2 q').trans (gI_app hu v q')⟩, h3⟩
/-- Taken out at a range. -/
theorem MkO.del {w : World} {m : Option Nat} {F : Int × Int → Int} (h : MkO w m F) {q : Int × Int} (hi : PIn q) (ty : TypeId) : ∃ w', (Builtin.delete_ #[31, 45] ty #[.map m, plV q]).run Try.prog w = .ok (.tuple #[]) w' ∧ MkO w' m (upF F q 0) ∧ Kp m.toList w w' := by
  cases m with
  | none =>
    refine ⟨w, Gm.del_nil (K := rgK) Try.underlying31 (q := q) hi ty, fun q' => ?_, Kp.refl _ _⟩
    unfold upF
    rw [h q']
    simp
  | some b =>
    obtain ⟨G, hG, hF⟩ := h
    have hF2 : ∀ q', upF F q 0 q' = upF (gI G) q 0 q' := fun q' => by unfold upF; rw [hF q']
    rcases gI_is G q with ⟨u, hu⟩ | hu
    · obtain ⟨w', h1, h2, h3⟩ := hG.del Try.underlying31 (q := q) (v0 := .int .i64 u) (List.mem_map.2 ⟨_, hu, rfl⟩) ty
      rw [without_kv] at h2
      exact ⟨w', h1, ⟨_, h2, fun q' => (hF2 q').trans (gI_del q q')⟩, h3⟩
    · obtain ⟨w', h1, h2, h3⟩ := hG.del_miss Try.underlying31 (q := q) hi (fun p hp => by
        obtain ⟨p0, hp0, rfl⟩ := List.mem_map.1 hp
        exact hu p0 hp0) ty
      refine ⟨w', h1, ⟨_, h2, fun q' => ?_⟩, h3⟩
      rw [← up_same ((hF q).trans (gI_miss hu)) q', hF q']
end Go.Proofs.Ythjhpcbhkcmghaa
