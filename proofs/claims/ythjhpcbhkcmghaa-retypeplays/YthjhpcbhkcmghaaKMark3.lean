/- The program's marks: used, taken, reset. -/
import Derived.Test.YthjhpcbhkcmghaaKMark2
import Derived.Deep.RegionHeld3
namespace Go.Proofs.Ythjhpcbhkcmghaa
open Go.RowKit
set_option linter.unusedVariables false
theorem mch_of {w wr w' : World} {y : Nat} {m m' : Option Nat} {F F' : Int × Int → Int} (hb : Bk wr y 33 [.map m]) (ho : MkO wr m F) (hm : ∀ b, m = some b → w.heap.size ≤ b) (hy : w.heap.size ≤ y) (k : Kp (y :: m.toList) wr w') (hb' : Bk w' y 33 [.map m']) (hm' : ∀ b, m' = some b → m = some b ∨ wr.heap.size ≤ b) : Mch w y wr w' := by
  refine ⟨_, k, fun i mi => ?_, fun _ => ⟨fun i mi => ?_, fun i b => ?_⟩⟩
  · rcases List.mem_cons.1 mi with e | e
    · exact ⟨by omega, .inl e⟩
    · have e' : m = some i := Option.mem_toList.1 e
      subst e'
      exact ⟨hm i rfl, .inr ho.noc⟩
  · rcases List.mem_cons.1 mi with e | e
    · exact .inl e
    · have e' : m = some i := Option.mem_toList.1 e
      subst e'
      exact .inr (.inl hb)
  · unfold Bk at b hb'
    rw [hb'] at b
    have e : m' = some i := by simpa using b
    rcases hm' i e with q | q
    · subst q
      exact .inl hb
    · exact .inr q
theorem box_rg {w w' : World} {b z : Int} (K : Kp [] (w.alloc (.cells #[.int .i64 b, .int .i64 z] 45)) w') : Bk w' w.heap.size 45 [.int .i64 b, .int .i64 z] ∧ Kp [] w w' :=
  ⟨(Bk.new w 45 [.int .i64 b, .int .i64 z]).kept K (by simp), ((Kp.refl [] w).alloc _).then K⟩
set_option maxRecDepth 4000 in
set_option maxHeartbeats 1000000 in
theorem mused {w wr : World} {y : Nat} {F : Int × Int → Int} (h : MkIn w y F wr) {b z u : Int} (hi : PIn (b, z)) (hu : F (b, z) = u) :
    Calls Try.prog 24 #[.pointer (some ⟨y, 0, none⟩), .agg #[.int .i64 b, .int .i64 z]] wr fun e w' => e = .returned (.int .i64 u) ∧ Kp [] wr w' := by
  obtain ⟨m, hb, ho, hn⟩ := h.mp
  have hS : Hid (∀ w', Kp [] (wr.alloc (.cells #[.int .i64 b, .int .i64 z] 45)) w' → w'.cell? ⟨y, 0, none⟩ = some (.map m) ∧ w'.cell? ⟨wr.heap.size, 0, none⟩ = some (.int .i64 b) ∧ w'.cell? ⟨wr.heap.size, 1, none⟩ = some (.int .i64 z) ∧ (Instr.lookup 31 (.map m) (.agg #[.int .i64 b, .int .i64 z]) false).run Try.prog w' = .ok (.int .i64 u) w') := fun w' K => by
    obtain ⟨B, K1⟩ := box_rg K
    refine ⟨(hb.kept K1 (by simp)).cell rfl, B.cell rfl, B.cell rfl, ?_⟩
    rw [← hu]
    exact (ho.kept K1 (by simp)).look hi
  have K0 := hide (Kp.refl [] (wr.alloc (.cells #[.int .i64 b, .int .i64 z] 45)))
  have KW := hide ((Kp.refl [] wr).alloc (.cells #[.int .i64 b, .int .i64 z] 45))
  clear h hb ho hn hu
  go_enter Try.func24, Try.ntmps24
  go_wp2_with fail
  have hw1 : (wr.alloc (.cells #[.int .i64 b, .int .i64 z] 45)).heap.size = wr.heap.size + 1 := by simp
  generalize wr.alloc (.cells #[.int .i64 b, .int .i64 z] 45) = w1 at *
  go_region_held3 (fun w' => w'.cell? ⟨y, 0, none⟩ = some (.map m) ∧ w'.cell? ⟨wr.heap.size, 0, none⟩ = some (.int .i64 b) ∧ w'.cell? ⟨wr.heap.size, 1, none⟩ = some (.int .i64 z) ∧ (Instr.lookup 31 (.map m) (.agg #[.int .i64 b, .int .i64 z]) false).run Try.prog w' = .ok (.int .i64 u) w') (first | exact unhide hS _ ((unhide K0).drew) | exact unhide hS _ (((unhide K0).alloc _).drew)) (fail)
  all_goals
    go_wp2
    go_ret
    exact ⟨rfl, (unhide KW).drew⟩
set_option maxRecDepth 4000 in
set_option maxHeartbeats 1000000 in
theorem mreset {w wr : World} {y : Nat} {F : Int × Int → Int} (h : MkIn w y F wr) {b z : Int} (hi : PIn (b, z)) :
    Calls Try.prog 15 #[.pointer (some ⟨y, 0, none⟩), .agg #[.int .i64 b, .int .i64 z]] wr (MkP w y (upF F (b, z) 0) wr (.tuple #[])) := by
  obtain ⟨m, hb, ho, hn⟩ := h.mp
  have H := hide h
  have B0 := hide (hb.alloc (.cells #[.int .i64 b, .int .i64 z] 45))
  have P0 := hide (Bk.new wr 45 [.int .i64 b, .int .i64 z])
  have O0 := ho.kept (((Kp.refl [] wr).alloc (.cells #[.int .i64 b, .int .i64 z] 45)).drew) (by simp)
  have KW := hide ((Kp.refl [] wr).alloc (.cells #[.int .i64 b, .int .i64 z] 45))
  have hnb : Hid (y ∉ m.toList ∧ wr.heap.size ∉ m.toList) := by
    refine ⟨fun mm => ?_, fun mm => ?_⟩
    · have e : m = some y := Option.mem_toList.1 mm
      subst e
      exact ho.noc _ _ _ hb
    · have e : m = some wr.heap.size := Option.mem_toList.1 mm
      subst e
      have := ho.lt
      omega
  have hfin : Hid (∀ w', Kp m.toList wr w' → Bk w' y 33 [.map m] → MkO w' m (upF F (b, z) 0) → MkIn w y (upF F (b, z) 0) w' ∧ Mch w y wr w') := fun w' k hb' ho' => by
    have hK := k.mono (S' := y :: m.toList) (fun i mi => List.mem_cons_of_mem _ mi)
    exact ⟨⟨h.kp.trans k (by simp) (fun i mi => .inr (hn i (Option.mem_toList.1 mi))), ⟨m, hb', ho', hn⟩, h.new⟩, mch_of (F' := F) hb ho hn h.new hK hb' (fun b q => .inl q)⟩
  clear h hb ho hn
  go_enter Try.func15, Try.ntmps15
  go_wp2_with fail
  generalize wr.alloc (.cells #[.int .i64 b, .int .i64 z] 45) = w1 at *
  obtain ⟨W6, hdl, hM6, hK6⟩ := O0.del hi 0
  have hdel : ∀ ty, (Builtin.delete_ #[31, 45] ty #[.map m, .agg #[.int .i64 b, .int .i64 z]]).run Try.prog w1.drew = .ok (.tuple #[]) W6 := fun ty => hdl
  have hS2 : Hid (∀ w', Kp m.toList w1 w' → w'.cell? ⟨y, 0, none⟩ = some (.map m) ∧ w'.cell? ⟨wr.heap.size, 0, none⟩ = some (.int .i64 b) ∧ w'.cell? ⟨wr.heap.size, 1, none⟩ = some (.int .i64 z)) := fun w' kk => ⟨((unhide B0).kept kk (unhide hnb).1).cell rfl, ((unhide P0).kept kk (unhide hnb).2).cell rfl, ((unhide P0).kept kk (unhide hnb).2).cell rfl⟩
  have K5 := hide (Kp.refl m.toList w1).drew
  have K6 := hide ((Kp.refl m.toList w1).drew.then hK6)
  replace hM6 := hide hM6
  have cc := unhide hS2 _ (unhide K5)
  clear hdl hK6 O0
  go_region_held3 (fun w' => w'.cell? ⟨y, 0, none⟩ = some (.map m) ∧ w'.cell? ⟨wr.heap.size, 0, none⟩ = some (.int .i64 b) ∧ w'.cell? ⟨wr.heap.size, 1, none⟩ = some (.int .i64 z)) (first | exact unhide hS2 _ (unhide K5) | exact unhide hS2 _ (unhide K6)) (fail)
  all_goals
    go_wp2
    refine bodyPost_ret (v := .tuple #[]) (by simp [results, Try.results15, go_sem, *]) rfl ⟨rfl, ?_⟩
    exact unhide hfin _ ((unhide KW).trans (unhide K6) (by simp) (fun _ q => .inl q)) ((unhide B0).kept (unhide K6) (unhide hnb).1) (unhide hM6)
set_option maxRecDepth 4000 in
set_option maxHeartbeats 1000000 in
theorem mtake_no {w wr : World} {y : Nat} {F : Int × Int → Int} (h : MkIn w y F wr) {b z n u : Int} (hi : PIn (b, z)) (hu : F (b, z) = u) (hs : IntKind.i64.wrap (z - u) = z - u) (hno : n < 1 ∨ z - u < n) :
    Calls Try.prog 17 #[.pointer (some ⟨y, 0, none⟩), .agg #[.int .i64 b, .int .i64 z], .int .i64 n] wr fun e w' => e = .returned (.tuple #[.int .i64 0, .bool false]) ∧ Kp [] wr w' := by
  have H := hide h
  have KW := hide ((Kp.refl [] wr).alloc (.cells #[.int .i64 b, .int .i64 z] 45))
  have B0 := hide (Bk.new wr 45 [.int .i64 b, .int .i64 z])
  have hl := h.lt
  obtain ⟨m, hb, ho, hn⟩ := h.mp
  have hS : Hid (∀ w', Kp [] (wr.alloc (.cells #[.int .i64 b, .int .i64 z] 45)) w' → w'.cell? ⟨y, 0, none⟩ = some (.map m) ∧ w'.cell? ⟨wr.heap.size, 0, none⟩ = some (.int .i64 b) ∧ w'.cell? ⟨wr.heap.size, 1, none⟩ = some (.int .i64 z) ∧ (Instr.lookup 31 (.map m) (.agg #[.int .i64 b, .int .i64 z]) false).run Try.prog w' = .ok (.int .i64 u) w') := fun w' K => by
    obtain ⟨B, K1⟩ := box_rg K
    refine ⟨(hb.kept K1 (by simp)).cell rfl, B.cell rfl, B.cell rfl, ?_⟩
    rw [← hu]
    exact (ho.kept K1 (by simp)).look hi
  have K0 := hide (Kp.refl [] (wr.alloc (.cells #[.int .i64 b, .int .i64 z] 45)))
  clear h hb ho hn hu
  go_enter Try.func17, Try.ntmps17
  go_wp2_with fail
  have hw1 : (wr.alloc (.cells #[.int .i64 b, .int .i64 z] 45)).heap.size = wr.heap.size + 1 := by simp
  generalize wr.alloc (.cells #[.int .i64 b, .int .i64 z] 45) = w1 at *
  go_region_held3 (fun w' => w'.cell? ⟨y, 0, none⟩ = some (.map m) ∧ w'.cell? ⟨wr.heap.size, 0, none⟩ = some (.int .i64 b) ∧ w'.cell? ⟨wr.heap.size, 1, none⟩ = some (.int .i64 z) ∧ (Instr.lookup 31 (.map m) (.agg #[.int .i64 b, .int .i64 z]) false).run Try.prog w' = .ok (.int .i64 u) w') (first | exact unhide hS _ ((unhide K0).drew) | exact unhide hS _ (((unhide K0).alloc _).drew)) (fail)
  all_goals
    have z1 := (unhide B0).cell (i := 1) rfl
    by_cases h1 : n < 1
    · clear hno
      go_wp2
      exact bodyPost_ret (v := .tuple #[.int .i64 0, .bool false]) (by simp [results, Try.results17, go_sem, *]) rfl ⟨rfl, (unhide KW).drew⟩
    · have h2 : z - u < n := by omega
      have h3 : decide (n < 1) = false := decide_eq_false h1
      clear hno h1
      go_wp2
      exact bodyPost_ret (v := .tuple #[.int .i64 0, .bool false]) (by simp [results, Try.results17, go_sem, *]) rfl ⟨rfl, (unhide KW).drew⟩
theorem map_nil_eq (m : Option Nat) (w : World) : (binOp .eql 31 (.map m) (.map none)).run Try.prog w = .ok (.bool m.isNone) w := by
  cases m with
  | none => kernel_rfl
  | some b => kernel_rfl
theorem MkO.made (w : World) (g : Nat) (hg : w.heap.size = g) {F : Int × Int → Int} (hF : ∀ q, F q = 0) : MkO (w.alloc (.map #[] 0)) (some g) F := by
  subst hg
  exact ⟨[], Gm.Mp.made w, fun q => hF q⟩
set_option maxRecDepth 4000 in
set_option maxHeartbeats 2000000 in
theorem mtake_yes {w wr : World} {y : Nat} {F : Int × Int → Int} (h : MkIn w y F wr) {b z n u : Int} (hi : PIn (b, z)) (hu : F (b, z) = u) (hs : IntKind.i64.wrap (z - u) = z - u) (ha : IntKind.i64.wrap (u + n) = u + n) (hb : IntKind.i64.wrap (b + u) = b + u) (h1 : 1 ≤ n) (h2 : n ≤ z - u) :
    Calls Try.prog 17 #[.pointer (some ⟨y, 0, none⟩), .agg #[.int .i64 b, .int .i64 z], .int .i64 n] wr (MkP w y (upF F (b, z) (u + n)) wr (.tuple #[.int .i64 (b + u), .bool true])) := by
  have H := hide h
  have KW := hide ((Kp.refl [] wr).alloc (.cells #[.int .i64 b, .int .i64 z] 45))
  have B0 := hide (Bk.new wr 45 [.int .i64 b, .int .i64 z])
  have hl := h.lt
  obtain ⟨m, hb0, ho, hn⟩ := h.mp
  have hS : Hid (∀ w', Kp [] (wr.alloc (.cells #[.int .i64 b, .int .i64 z] 45)) w' → w'.cell? ⟨y, 0, none⟩ = some (.map m) ∧ w'.cell? ⟨wr.heap.size, 0, none⟩ = some (.int .i64 b) ∧ w'.cell? ⟨wr.heap.size, 1, none⟩ = some (.int .i64 z) ∧ (Instr.lookup 31 (.map m) (.agg #[.int .i64 b, .int .i64 z]) false).run Try.prog w' = .ok (.int .i64 u) w') := fun w' K => by
    obtain ⟨B, K1⟩ := box_rg K
    refine ⟨(hb0.kept K1 (by simp)).cell rfl, B.cell rfl, B.cell rfl, ?_⟩
    rw [← hu]
    exact (ho.kept K1 (by simp)).look hi
  have K0 := hide (Kp.refl [] (wr.alloc (.cells #[.int .i64 b, .int .i64 z] 45)))
  have hfin : Hid (∀ w' m', Kp (y :: m.toList) wr w' → Bk w' y 33 [.map m'] → MkO w' m' (upF F (b, z) (u + n)) → (∀ b, m' = some b → m = some b ∨ wr.heap.size ≤ b) → MkIn w y (upF F (b, z) (u + n)) w' ∧ Mch w y wr w') := fun w' m' k hb' ho' hm' => by
    refine ⟨⟨h.kp.trans k (by simp) (fun i mi => .inr ?_), ⟨m', hb', ho', fun b e => ?_⟩, h.new⟩, mch_of (F := F) (F' := F) hb0 ho hn h.new k hb' hm'⟩
    · rcases List.mem_cons.1 mi with e | e
      · rw [e]; exact h.new
      · exact hn i (Option.mem_toList.1 e)
    · rcases hm' b e with q | q
      · exact hn b q
      · exact Nat.le_trans h.kp.size q
  have HB := hide (hb0.alloc (.cells #[.int .i64 b, .int .i64 z] 45))
  have HO := hide (ho.kept (((Kp.refl [] wr).alloc (.cells #[.int .i64 b, .int .i64 z] 45))) (by simp))
  have hyl := hide hl
  have hml : Hid (∀ b, m = some b → b < wr.heap.size ∧ b ≠ y) := fun b e => by
    subst e
    exact ⟨ho.lt, fun q => by subst q; exact ho.noc _ _ _ hb0⟩
  have hnil : Hid (m = none → ∀ q, F q = 0) := fun e => by subst e; exact ho
  clear h hb0 ho hn hu hl
  go_enter Try.func17, Try.ntmps17
  go_wp2_with fail
  have hw1 : (wr.alloc (.cells #[.int .i64 b, .int .i64 z] 45)).heap.size = wr.heap.size + 1 := by simp
  generalize hW : wr.alloc (.cells #[.int .i64 b, .int .i64 z] 45) = w1 at *
  go_region_held3 (fun w' => w'.cell? ⟨y, 0, none⟩ = some (.map m) ∧ w'.cell? ⟨wr.heap.size, 0, none⟩ = some (.int .i64 b) ∧ w'.cell? ⟨wr.heap.size, 1, none⟩ = some (.int .i64 z) ∧ (Instr.lookup 31 (.map m) (.agg #[.int .i64 b, .int .i64 z]) false).run Try.prog w' = .ok (.int .i64 u) w') (first | exact unhide hS _ ((unhide K0).drew) | exact unhide hS _ (((unhide K0).alloc _).drew)) (fail)
  all_goals
    have z0 := (unhide B0).cell (i := 0) rfl
    have z1 := (unhide B0).cell (i := 1) rfl
    have hd1 : decide (n < 1) = false := decide_eq_false (by omega)
    have hd2 : decide (z - u < n) = false := decide_eq_false (by omega)
    have th := (unhide HB).cell (i := 0) rfl
    have tf := (unhide HB).frozen
    clear h1 h2
    cases m with
    | none =>
      have hmm := @run_makeMap Try.prog
      have heq : ∀ w, (binOp .eql 31 (.map none) (.map none)).run Try.prog w = .ok (.bool true) w := map_nil_eq none
      have th2 := ((unhide HB).alloc (.map #[] 0)).cell (i := 0) rfl
      have tf2 := ((unhide HB).alloc (.map #[] 0)).frozen
      have hyp : y ≠ wr.heap.size := by have := unhide hyl; omega
      have B5 := (((unhide HB).alloc (.map #[] 0)).set 0 (.map (some (wr.heap.size + 1)))).kept ((Kp.refl [] _).drew) (by simp)
      have P5 := (((unhide B0).alloc (.map #[] 0)).setOther (p := ⟨y, 0, none⟩) hyp (.map (some (wr.heap.size + 1)))).kept ((Kp.refl [] _).drew) (by simp)
      have kS : Kp [y] (w1.alloc (.map #[] 0)) ((w1.alloc (.map #[] 0)).setCell ⟨y, 0, none⟩ (.map (some (wr.heap.size + 1)))).drew := ((Kp.refl [y] _).setCell (.inl (by simp)) _).drew
      have M5 := hide ((MkO.made w1 (wr.heap.size + 1) hw1 (unhide hnil rfl)).kept kS (by have := unhide hyl; simp; omega))
      have K5 : Hid (Kp (y :: (none : Option Nat).toList) wr ((w1.alloc (.map #[] 0)).setCell ⟨y, 0, none⟩ (.map (some (wr.heap.size + 1)))).drew) := ((unhide KW).alloc _).trans kS (by simp) (fun i mi => .inl (by simpa using mi))
      go_wp2_with fail
      generalize ((w1.alloc (.map #[] 0)).setCell ⟨y, 0, none⟩ (.map (some (wr.heap.size + 1)))).drew = WW at *
      have hgy : Hid (wr.heap.size + 1 ≠ y) := by have := unhide hyl; unfold Hid; omega
      have hgs : Hid (wr.heap.size + 1 ≠ wr.heap.size) := by unfold Hid; omega
      have hgS : Hid (∀ i ∈ [wr.heap.size + 1], i ∈ (y :: (none : Option Nat).toList) ∨ wr.heap.size ≤ i) := fun i mi => .inr (by rw [List.mem_singleton.1 mi]; omega)
      have hgn : Hid (∀ b, some (wr.heap.size + 1) = some b → (none : Option Nat) = some b ∨ wr.heap.size ≤ b) := fun b q => .inr (by cases q; omega)
      clear hw1 hmm
      generalize wr.heap.size + 1 = g at *
      have hB5 := hide (B5)
      have hP5 := hide (P5)
      have hne : Hid (y ∉ [g] ∧ wr.heap.size ∉ [g]) := by
        have q1 := unhide hgy
        have q2 := unhide hgs
        unfold Hid
        simp
        exact ⟨fun e => q1 e.symm, fun e => q2 e.symm⟩
      obtain ⟨W6, hup0, hM6, hK6⟩ := (unhide M5).put (w := WW.drew) hi (u + n)
      have hup : (Instr.mapUpdate 31 (.map (some g)) (.agg #[.int .i64 b, .int .i64 z]) (.int .i64 (u + n))).run Try.prog WW.drew = .ok () W6 := hup0
      have hS6 : Hid (∀ w', Kp [g] WW w' → w'.cell? ⟨y, 0, none⟩ = some (.map (some g)) ∧ w'.cell? ⟨wr.heap.size, 0, none⟩ = some (.int .i64 b) ∧ w'.cell? ⟨wr.heap.size, 1, none⟩ = some (.int .i64 z)) := fun w' kk => ⟨((unhide hB5).kept kk (unhide hne).1).cell rfl, ((unhide hP5).kept kk (unhide hne).2).cell rfl, ((unhide hP5).kept kk (unhide hne).2).cell rfl⟩
      have K7 := hide (Kp.refl [g] WW).drew
      have K6 := hide ((Kp.refl [g] WW).drew.then hK6)
      replace hM6 := hide hM6
      have cc := unhide hS6 _ (unhide K7)
      have P6 := hide ((unhide hP5).kept (unhide K6) (unhide hne).2)
      have x0 := (unhide P6).cell (i := 0) rfl
      clear hup0 hK6 z0 z1 th tf B5 P5
      go_region_held3 (fun w' => w'.cell? ⟨y, 0, none⟩ = some (.map (some g)) ∧ w'.cell? ⟨wr.heap.size, 0, none⟩ = some (.int .i64 b) ∧ w'.cell? ⟨wr.heap.size, 1, none⟩ = some (.int .i64 z)) (first | exact unhide hS6 _ (unhide K7) | exact unhide hS6 _ (unhide K6)) (fail)
      all_goals
        go_wp2
        refine bodyPost_ret (v := .tuple #[.int .i64 (b + u), .bool true]) (by simp [results, Try.results17, go_sem, *]) rfl ⟨rfl, ?_⟩
        exact unhide hfin _ _ ((unhide K5).trans (unhide K6) (fun _ q => q) (unhide hgS)) ((unhide hB5).kept (unhide K6) (unhide hne).1) (unhide hM6) (unhide hgn)
    | some bq =>
      have heq : ∀ w, (binOp .eql 31 (.map (some bq)) (.map none)).run Try.prog w = .ok (.bool false) w := map_nil_eq (some bq)
      have B5 := (unhide HB).kept ((Kp.refl [] w1).drew) (by simp)
      have P5 := (unhide B0).kept ((Kp.refl [] w1).drew) (by simp)
      have M5 := hide ((unhide HO).kept ((Kp.refl [] w1).drew) (by simp))
      have K5 : Hid (Kp (y :: (some bq).toList) wr w1.drew) := (unhide KW).drew.mono (by simp)
      go_wp2_with fail
      generalize w1.drew = WW at *
      obtain ⟨g, eg⟩ : ∃ g, bq = g := ⟨_, rfl⟩
      subst eg
      have hgy : Hid (bq ≠ y) := (unhide hml bq rfl).2
      have hgs : Hid (bq ≠ wr.heap.size) := by have := (unhide hml bq rfl).1; unfold Hid; omega
      have hgS : Hid (∀ i ∈ [bq], i ∈ (y :: (some bq).toList) ∨ wr.heap.size ≤ i) := fun i mi => .inl (by rw [List.mem_singleton.1 mi]; simp)
      have hgn : Hid (∀ b, some bq = some b → (some bq : Option Nat) = some b ∨ wr.heap.size ≤ b) := fun b q => .inl q
      have hB5 := hide (B5)
      have hP5 := hide (P5)
      have hne : Hid (y ∉ [bq] ∧ wr.heap.size ∉ [bq]) := by
        have q1 := unhide hgy
        have q2 := unhide hgs
        unfold Hid
        simp
        exact ⟨fun e => q1 e.symm, fun e => q2 e.symm⟩
      obtain ⟨W6, hup0, hM6, hK6⟩ := (unhide M5).put (w := WW.drew) hi (u + n)
      have hup : (Instr.mapUpdate 31 (.map (some bq)) (.agg #[.int .i64 b, .int .i64 z]) (.int .i64 (u + n))).run Try.prog WW.drew = .ok () W6 := hup0
      have hS6 : Hid (∀ w', Kp [bq] WW w' → w'.cell? ⟨y, 0, none⟩ = some (.map (some bq)) ∧ w'.cell? ⟨wr.heap.size, 0, none⟩ = some (.int .i64 b) ∧ w'.cell? ⟨wr.heap.size, 1, none⟩ = some (.int .i64 z)) := fun w' kk => ⟨((unhide hB5).kept kk (unhide hne).1).cell rfl, ((unhide hP5).kept kk (unhide hne).2).cell rfl, ((unhide hP5).kept kk (unhide hne).2).cell rfl⟩
      have K7 := hide (Kp.refl [bq] WW).drew
      have K6 := hide ((Kp.refl [bq] WW).drew.then hK6)
      replace hM6 := hide hM6
      have cc := unhide hS6 _ (unhide K7)
      have P6 := hide ((unhide hP5).kept (unhide K6) (unhide hne).2)
      have x0 := (unhide P6).cell (i := 0) rfl
      clear hup0 hK6 z0 z1 th tf B5 P5
      go_region_held3 (fun w' => w'.cell? ⟨y, 0, none⟩ = some (.map (some bq)) ∧ w'.cell? ⟨wr.heap.size, 0, none⟩ = some (.int .i64 b) ∧ w'.cell? ⟨wr.heap.size, 1, none⟩ = some (.int .i64 z)) (first | exact unhide hS6 _ (unhide K7) | exact unhide hS6 _ (unhide K6)) (fail)
      all_goals
        go_wp2
        refine bodyPost_ret (v := .tuple #[.int .i64 (b + u), .bool true]) (by simp [results, Try.results17, go_sem, *]) rfl ⟨rfl, ?_⟩
        exact unhide hfin _ _ ((unhide K5).trans (unhide K6) (fun _ q => q) (unhide hgS)) ((unhide hB5).kept (unhide K6) (unhide hne).1) (unhide hM6) (unhide hgn)
end Go.Proofs.Ythjhpcbhkcmghaa
