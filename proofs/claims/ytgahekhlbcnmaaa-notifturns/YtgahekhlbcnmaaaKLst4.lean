/- The program's list: Drop. -/
import Derived.Test.YtgahekhlbcnmaaaKLst3
namespace Go.Proofs.Ytgahekhlbcnmaaa
open Go.RowKit
set_option linter.unusedVariables false
set_option linter.unusedSimpArgs false
theorem eq_id (q1 q2 f1 f2 : Int) (w : World) : (binOp .eql 27 (.agg #[.int .i64 q1, .int .i64 q2]) (.agg #[.int .i64 f1, .int .i64 f2])).run Try.prog w = .ok (.bool (decide ((q1, q2) = (f1, f2)))) w := by
  by_cases e1 : q1 = f1
  · by_cases e2 : q2 = f2
    · subst e1 e2
      simp [go_sem]
    · simp [go_sem, e1, e2]
  · simp [go_sem, e1]
theorem neq_id (q1 q2 f1 f2 : Int) (w : World) : (binOp .neq 27 (.agg #[.int .i64 q1, .int .i64 q2]) (.agg #[.int .i64 f1, .int .i64 f2])).run Try.prog w = .ok (.bool (!decide ((q1, q2) = (f1, f2)))) w := by
  by_cases e1 : q1 = f1
  · by_cases e2 : q2 = f2
    · subst e1 e2
      simp [go_sem]
    · simp [go_sem, e1, e2]
  · simp [go_sem, e1]
/-- 'delete' at one that is there. -/
theorem mp_gone {w : World} {b : Nat} {L : List (Int × Int)} {p n : Int × Int → Int × Int} (h : Gm.Mp idK w b (ents L p n)) {q1 q2 : Int} (hq : (q1, q2) ∈ L) :
    ∃ w', (∀ ty, (Builtin.delete_ #[25, 27] ty #[.map (some b), .agg #[.int .i64 q1, .int .i64 q2]]).run Try.prog w = .ok (.tuple #[]) w') ∧ Gm.Mp idK w' b (ents (lDel L (q1, q2)) p n) ∧ Kp [b] w w' := by
  obtain ⟨w', h1, h2, h3⟩ := Gm.Mp.del h Try.underlying25 (ents_mem hq) 0
  rw [ents_without] at h2
  exact ⟨w', fun ty => h1, h2, h3⟩
set_option maxRecDepth 4000 in
set_option maxHeartbeats 1000000 in
theorem pdrop_no {w : World} {y o : Nat} {U : TypeId} {pre post : List Value} {m : Option Nat} {f : Int × Int} {L : List (Int × Int)} (h : PL w y o U pre post m f L) {q1 q2 : Int} (hi : IdIn (q1, q2)) (hq : (q1, q2) ∉ L) :
    Calls Try.prog 23 #[.pointer (some ⟨y, o, none⟩), .agg #[.int .i64 q1, .int .i64 q2]] w fun e w' => e = .returned (.bool false) ∧ Kp [] w w' := by
  obtain ⟨x1, x2, x3, x4, hl⟩ := h.look hi
  rw [lHas_no hq] at hl
  have hS : Hid (∀ w', Kp [] (w.alloc (.cells #[.int .i64 q1, .int .i64 q2] 27)) w' → w'.cell? ⟨y, o, none⟩ = some (.map m) ∧ w'.cell? ⟨w.heap.size, 0, none⟩ = some (.int .i64 q1) ∧ w'.cell? ⟨w.heap.size, 1, none⟩ = some (.int .i64 q2) ∧ (Instr.lookup 25 (.map m) (.agg #[.int .i64 q1, .int .i64 q2]) true).run Try.prog w' = .ok (.tuple #[.agg #[.int .i64 x1, .int .i64 x2, .int .i64 x3, .int .i64 x4], .bool false]) w') := fun w' K => by
    obtain ⟨B, K1⟩ := box_id (q := (q1, q2)) K
    exact ⟨(h.grew K1).head.cell0 rfl, B.cell rfl, B.cell rfl, hl w' K1⟩
  have KW := hide ((Kp.refl [] w).alloc (.cells #[.int .i64 q1, .int .i64 q2] 27))
  clear h hl hq
  go_enter Try.func23, Try.ntmps23
  go_wp2_with fail
  have hw1 : (w.alloc (.cells #[.int .i64 q1, .int .i64 q2] 27)).heap.size = w.heap.size + 1 := by simp
  generalize w.alloc (.cells #[.int .i64 q1, .int .i64 q2] 27) = w1 at *
  have K0 := hide (Kp.refl [] w1)
  go_region_held3 (fun w' => w'.cell? ⟨y, o, none⟩ = some (.map m) ∧ w'.cell? ⟨w.heap.size, 0, none⟩ = some (.int .i64 q1) ∧ w'.cell? ⟨w.heap.size, 1, none⟩ = some (.int .i64 q2) ∧ (Instr.lookup 25 (.map m) (.agg #[.int .i64 q1, .int .i64 q2]) true).run Try.prog w' = .ok (.tuple #[.agg #[.int .i64 x1, .int .i64 x2, .int .i64 x3, .int .i64 x4], .bool false]) w') (first | exact unhide hS _ ((unhide K0).drew) | exact unhide hS _ (((unhide K0).alloc _).drew)) (fail)
  all_goals
    go_wp2
    go_ret
    exact ⟨rfl, (((unhide KW).alloc _).drew)⟩
set_option maxRecDepth 4000 in
set_option maxHeartbeats 2000000 in
theorem pdrop_yes {w : World} {y o : Nat} {U : TypeId} {pre post : List Value} {m : Option Nat} {f1 f2 : Int} {L : List (Int × Int)} (h : PL w y o U pre post m (f1, f2) L) {q1 q2 : Int} (hq : (q1, q2) ∈ L) :
    Calls Try.prog 23 #[.pointer (some ⟨y, o, none⟩), .agg #[.int .i64 q1, .int .i64 q2]] w (PLP w y o U pre post m (lDel L (q1, q2)) (.bool true)) := by
  obtain ⟨b, rfl⟩ : ∃ b, m = some b := by
    cases m with
    | none => have e : L = [] := h.mo; rw [e] at hq; cases hq
    | some b => exact ⟨b, rfl⟩
  have hyb := hide (h.ne b rfl)
  have hbl := hide (h.lt b rfl)
  have hyl := hide h.head.lt
  have hok := hide h.ok
  have hnd := hide h.nd
  have hsm := hide h.small
  obtain ⟨p, n, hm0, hr0⟩ := h.mo
  obtain ⟨ha, hc, hR⟩ := rn_drop hr0 h.nd hq
  obtain ⟨⟨a1, a2⟩, eA⟩ : ∃ z, p (q1, q2) = z := ⟨_, rfl⟩
  obtain ⟨⟨c1, c2⟩, eC⟩ : ∃ z, n (q1, q2) = z := ⟨_, rfl⟩
  have hlk0 := fun w' (k : Kp [] w w') => (mp_look (hm0.kept k (by simp)) (h.ok _ hq) true).1 hq
  rw [eA] at ha
  rw [eC] at hc
  rw [eA, eC] at hR
  simp only [eA, eC] at hlk0
  have hlk : ∀ w', Kp [] w w' → (Instr.lookup 25 (.map (some b)) (.agg #[.int .i64 q1, .int .i64 q2]) true).run Try.prog w' = .ok (.tuple #[.agg #[.int .i64 a1, .int .i64 a2, .int .i64 c1, .int .i64 c2], .bool true]) w' := hlk0
  have hS : Hid (∀ w', Kp [] (w.alloc (.cells #[.int .i64 q1, .int .i64 q2] 27)) w' → w'.cell? ⟨y, o, none⟩ = some (.map (some b)) ∧ w'.cell? ⟨w.heap.size, 0, none⟩ = some (.int .i64 q1) ∧ w'.cell? ⟨w.heap.size, 1, none⟩ = some (.int .i64 q2) ∧ (Instr.lookup 25 (.map (some b)) (.agg #[.int .i64 q1, .int .i64 q2]) true).run Try.prog w' = .ok (.tuple #[.agg #[.int .i64 a1, .int .i64 a2, .int .i64 c1, .int .i64 c2], .bool true]) w') := fun w' K => by
    obtain ⟨B, K1⟩ := box_id (q := (q1, q2)) K
    exact ⟨(h.grew K1).head.cell0 rfl, B.cell rfl, B.cell rfl, hlk w' K1⟩
  have KW := hide ((Kp.refl [] w).alloc (.cells #[.int .i64 q1, .int .i64 q2] 27))
  have B0 := hide (Bk.new w 27 [.int .i64 q1, .int .i64 q2])
  have Y0 := hide (h.head.kept (unhide KW) (by simp))
  have M0 := hide (hm0.kept (unhide KW) (by simp))
  replace ha := hide ha
  replace hc := hide hc
  replace hR := hide hR
  replace hq := hide hq
  clear h hlk hlk0 hm0 hr0 eA eC
  go_enter Try.func23, Try.ntmps23
  go_wp2_with fail
  have hw1 : (w.alloc (.cells #[.int .i64 q1, .int .i64 q2] 27)).heap.size = w.heap.size + 1 := by simp
  generalize w.alloc (.cells #[.int .i64 q1, .int .i64 q2] 27) = w1 at *
  have K0 := hide (Kp.refl [] w1)
  go_region_held3 (fun w' => w'.cell? ⟨y, o, none⟩ = some (.map (some b)) ∧ w'.cell? ⟨w.heap.size, 0, none⟩ = some (.int .i64 q1) ∧ w'.cell? ⟨w.heap.size, 1, none⟩ = some (.int .i64 q2) ∧ (Instr.lookup 25 (.map (some b)) (.agg #[.int .i64 q1, .int .i64 q2]) true).run Try.prog w' = .ok (.tuple #[.agg #[.int .i64 a1, .int .i64 a2, .int .i64 c1, .int .i64 c2], .bool true]) w') (first | exact unhide hS _ ((unhide K0).drew) | exact unhide hS _ (((unhide K0).alloc _).drew)) (fail)
  all_goals
    have BP := hide (Gr.bk_drew (Gr.bk_next w1 64 [.int .i64 a1, .int .i64 a2, .int .i64 c1, .int .i64 c2] hw1))
    have K1 := ((Kp.refl [] w1).alloc (.cells #[.int .i64 a1, .int .i64 a2, .int .i64 c1, .int .i64 c2] 64)).drew
    have B1 := hide ((unhide B0).kept K1 (by simp))
    have Y1 := hide ((unhide Y0).kept K1 (by simp))
    have M1 := hide ((unhide M0).kept K1 (by simp))
    have K2 := hide ((unhide KW).then K1)
    clear hS K0 K1 KW B0 Y0 M0
    have e0 := (unhide BP).cell (i := 0) rfl
    have e1 := (unhide BP).cell (i := 1) rfl
    have e2 := (unhide BP).cell (i := 2) rfl
    have e3 := (unhide BP).cell (i := 3) rfl
    generalize (w1.alloc (.cells #[.int .i64 a1, .int .i64 a2, .int .i64 c1, .int .i64 c2] 64)).drew = w2 at *
    go_wp2_with fail
    refine (pjoin (unhide Y1) (Ne.symm (unhide hyb)) (unhide M1) (unhide ha) (unhide hok _ (unhide hc)) (.inl (unhide hc))).mono ?_
    rintro e W3 ⟨rfl, hM3, K3⟩
    rw [joinL_in (unhide hc)] at hM3
    have M3 := hide hM3
    have hn1 : b ≠ w.heap.size + 1 := by have := unhide hbl; omega
    have P3 := hide ((unhide BP).kept K3 (by simp; omega))
    have B3 := hide ((unhide B1).kept K3 (by have := unhide hbl; simp; omega))
    have Y3 := hide ((unhide Y1).kept K3 (by have := unhide hyb; simp; omega))
    have KW : Hid (Kp [b] w W3) := (unhide K2).trans K3 (by simp) (by simp)
    clear hM3 K3 hn1 e0 e1 e2 e3 BP B1 Y1 M1 K2
    go_upto_region 5 with fail
    obtain ⟨v, hv⟩ : ∃ v : Bool, decide ((q1, q2) = (f1, f2)) = v := ⟨_, rfl⟩
    have heq := fun w' => eq_id q1 q2 f1 f2 w'
    rw [hv] at heq
    have K0 := hide (Kp.refl [] W3).drew
    have hS : Hid (∀ w', Kp [] W3 w' → w'.cell? ⟨y, o + 1, none⟩ = some (.int .i64 f1) ∧ w'.cell? ⟨y, o + 2, none⟩ = some (.int .i64 f2) ∧ w'.cell? ⟨w.heap.size, 0, none⟩ = some (.int .i64 q1) ∧ w'.cell? ⟨w.heap.size, 1, none⟩ = some (.int .i64 q2)) := fun w' k => ⟨((unhide Y3).kept k (by simp)).cell (i := 1) rfl, ((unhide Y3).kept k (by simp)).cell (i := 2) rfl, ((unhide B3).kept k (by simp)).cell rfl, ((unhide B3).kept k (by simp)).cell rfl⟩
    replace hv := hide hv
    go_region_held3 (fun w' => w'.cell? ⟨y, o + 1, none⟩ = some (.int .i64 f1) ∧ w'.cell? ⟨y, o + 2, none⟩ = some (.int .i64 f2) ∧ w'.cell? ⟨w.heap.size, 0, none⟩ = some (.int .i64 q1) ∧ w'.cell? ⟨w.heap.size, 1, none⟩ = some (.int .i64 q2)) (first | exact unhide hS _ (unhide K0)) (fail)
    have K5 := (Kp.refl [] W3).drew
    have P5 := hide ((unhide P3).kept K5 (by simp))
    have B5 := hide ((unhide B3).kept K5 (by simp))
    have Y5 := hide ((unhide Y3).kept K5 (by simp))
    have M5 := hide ((unhide M3).kept K5 (by simp))
    have KW5 := hide ((unhide KW).drew)
    clear K5 K0 hS P3 B3 Y3 M3 KW heq
    generalize W3.drew = W5 at *
    cases v with
    | true =>
      have hqf : (q1, q2) = (f1, f2) := of_decide_eq_true (unhide hv)
      rw [if_pos hqf] at hR
      have e2 := (unhide P5).cell (i := 2) rfl
      have e3 := (unhide P5).cell (i := 3) rfl
      have y0 := (unhide Y5).cell (i := 1) rfl
      have y1 := (unhide Y5).cell (i := 2) rfl
      have yf := (unhide Y5).frozen
      have k6 := ((Kp.refl [y] W5).setCell (p := ⟨y, o + 1, none⟩) (.inl (by simp)) (.int .i64 c1)).setCell (p := ⟨y, o + 2, none⟩) (.inl (by simp)) (.int .i64 c2)
      have Y4 := hide (((unhide Y5).set 1 (.int .i64 c1) (by simp)).set 2 (.int .i64 c2) (by simp))
      have B4 := hide ((unhide B5).kept k6 (by have := unhide hyl; simp; omega))
      have M4 := hide ((unhide M5).kept k6 (by have := unhide hyb; simp; omega))
      have KW4 : Hid (Kp [y, b] w _) := (unhide KW5).trans k6 (by simp) (by simp)
      clear k6 B5 M5 Y5 KW5 P5
      go_wp2_with fail
      clear e2 e3 y0 y1 yf
      generalize (W5.setCell ⟨y, o + 1, none⟩ (.int .i64 c1)).setCell ⟨y, o + 2, none⟩ (.int .i64 c2) = W4 at *
      have hS7 : Hid (∀ w', Kp [b] W4 w' → w'.cell? ⟨y, o, none⟩ = some (.map (some b)) ∧ w'.cell? ⟨w.heap.size, 0, none⟩ = some (.int .i64 q1) ∧ w'.cell? ⟨w.heap.size, 1, none⟩ = some (.int .i64 q2)) := fun w' k => by
        have hB := (unhide B4).kept k (by have := unhide hbl; simp; omega)
        exact ⟨((unhide Y4).kept k (by have := unhide hyb; simp; omega)).cell0 rfl, hB.cell rfl, hB.cell rfl⟩
      obtain ⟨W6, hdel, hM6, hK6⟩ := mp_gone (w := W4.drew) ((unhide M4).drewN 1) (unhide hq)
      have K7 := hide (Kp.refl [b] W4).drew
      have K8 := hide ((Kp.refl [b] W4).drew.then hK6)
      replace hM6 := hide hM6
      clear hK6
      have cc := unhide hS7 _ (unhide K7)
      go_wp2_with fail
      go_region_held3 (fun w' => w'.cell? ⟨y, o, none⟩ = some (.map (some b)) ∧ w'.cell? ⟨w.heap.size, 0, none⟩ = some (.int .i64 q1) ∧ w'.cell? ⟨w.heap.size, 1, none⟩ = some (.int .i64 q2)) (first | exact unhide hS7 _ (unhide K7) | exact unhide hS7 _ (unhide K8)) (fail)
      all_goals
        go_wp2
        go_ret
        refine ⟨rfl, some b, (c1, c2), ⟨(unhide Y4).kept (unhide K8) (by have := unhide hyb; simp; omega), ⟨_, _, unhide hM6, unhide hR⟩, lDel_nd (unhide hnd) _, fun q hq' => unhide hok q (lDel_in.1 hq').1, Nat.le_trans (lDel_len _ _) (unhide hsm)⟩, ?_, fun b' e => .inl e⟩
        exact (unhide KW4).trans (unhide K8) (by simp) (by simp)
    | false =>
      have hqf : (q1, q2) ≠ (f1, f2) := of_decide_eq_false (unhide hv)
      rw [if_neg hqf] at hR
      have Y4 := Y5
      have B4 := B5
      have M4 := M5
      have KW4 : Hid (Kp [y, b] w W5) := (unhide KW5).mono (by simp)
      clear B5 M5 Y5 KW5 P5
      generalize W5 = W4 at *
      have hS7 : Hid (∀ w', Kp [b] W4 w' → w'.cell? ⟨y, o, none⟩ = some (.map (some b)) ∧ w'.cell? ⟨w.heap.size, 0, none⟩ = some (.int .i64 q1) ∧ w'.cell? ⟨w.heap.size, 1, none⟩ = some (.int .i64 q2)) := fun w' k => by
        have hB := (unhide B4).kept k (by have := unhide hbl; simp; omega)
        exact ⟨((unhide Y4).kept k (by have := unhide hyb; simp; omega)).cell0 rfl, hB.cell rfl, hB.cell rfl⟩
      obtain ⟨W6, hdel, hM6, hK6⟩ := mp_gone (w := W4.drew) ((unhide M4).drewN 1) (unhide hq)
      have K7 := hide (Kp.refl [b] W4).drew
      have K8 := hide ((Kp.refl [b] W4).drew.then hK6)
      replace hM6 := hide hM6
      clear hK6
      have cc := unhide hS7 _ (unhide K7)
      go_wp2_with fail
      go_region_held3 (fun w' => w'.cell? ⟨y, o, none⟩ = some (.map (some b)) ∧ w'.cell? ⟨w.heap.size, 0, none⟩ = some (.int .i64 q1) ∧ w'.cell? ⟨w.heap.size, 1, none⟩ = some (.int .i64 q2)) (first | exact unhide hS7 _ (unhide K7) | exact unhide hS7 _ (unhide K8)) (fail)
      all_goals
        go_wp2
        go_ret
        refine ⟨rfl, some b, (f1, f2), ⟨(unhide Y4).kept (unhide K8) (by have := unhide hyb; simp; omega), ⟨_, _, unhide hM6, unhide hR⟩, lDel_nd (unhide hnd) _, fun q hq' => unhide hok q (lDel_in.1 hq').1, Nat.le_trans (lDel_len _ _) (unhide hsm)⟩, ?_, fun b' e => .inl e⟩
        exact (unhide KW4).trans (unhide K8) (by simp) (by simp)
end Go.Proofs.Ytgahekhlbcnmaaa
