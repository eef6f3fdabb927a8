/- The program's list: Push. -/
import Derived.Test.YtgahekhlbcnmaaaKLst2
namespace Go.Proofs.Ytgahekhlbcnmaaa
open Go.RowKit
set_option linter.unusedVariables false
set_option linter.unusedSimpArgs false
theorem nd_snoc {L : List (Int × Int)} {q : Int × Int} (h : L.Nodup) (hq : q ∉ L) : (L ++ [q]).Nodup := by
  rw [List.nodup_append]
  refine ⟨h, by simp, fun u hu v hv e => hq ?_⟩
  rw [← List.mem_singleton.1 hv, ← e]
  exact hu
theorem ok_snoc {L : List (Int × Int)} {q : Int × Int} (h : ∀ x ∈ L, IdIn x) (hq : IdIn q) : ∀ x ∈ L ++ [q], IdIn x := by
  intro x hx
  rcases List.mem_append.1 hx with m | m
  · exact h x m
  · rw [List.mem_singleton.1 m]; exact hq
theorem len_snoc {L : List (Int × Int)} (q : Int × Int) (h : L.length < 65536) : (L ++ [q]).length ≤ 65536 := by
  rw [List.length_append]
  simp
  omega
/-- What a change of the list leaves. -/
def PLP (w : World) (y o : Nat) (U : TypeId) (pre post : List Value) (m : Option Nat) (L : List (Int × Int)) (v : Value) (e : Ending) (w' : World) : Prop :=
  e = .returned v ∧ ∃ m' f, PL w' y o U pre post m' f L ∧ Kp (y :: m.toList) w w' ∧ ∀ b, m' = some b → m = some b ∨ w.heap.size ≤ b
theorem PLP.same {w w' : World} {y o : Nat} {U : TypeId} {pre post : List Value} {m : Option Nat} {f : Int × Int} {L : List (Int × Int)} {v : Value} (h : PL w y o U pre post m f L) (k : Kp [] w w') : PLP w y o U pre post m L v (.returned v) w' := ⟨rfl, m, f, h.grew k, k.mono (by simp), fun b e => .inl e⟩
set_option maxRecDepth 4000 in
set_option maxHeartbeats 1000000 in
theorem ppush_no {w : World} {y o : Nat} {U : TypeId} {pre post : List Value} {m : Option Nat} {f : Int × Int} {L : List (Int × Int)} (h : PL w y o U pre post m f L) {q1 q2 : Int} (hq : (q1, q2) ∈ L) :
    Calls Try.prog 18 #[.pointer (some ⟨y, o, none⟩), .agg #[.int .i64 q1, .int .i64 q2]] w fun e w' => e = .returned (.bool false) ∧ Kp [] w w' := by
  have hi := hide (h.ok _ hq)
  have hh := hide (lHas_yes hq)
  have KW := hide ((Kp.refl [] w).alloc (.cells #[.int .i64 q1, .int .i64 q2] 27))
  have H := hide (h.grew (unhide KW))
  have c0 := (Bk.new w 27 [.int .i64 q1, .int .i64 q2]).cell (i := 0) rfl
  have c1 := (Bk.new w 27 [.int .i64 q1, .int .i64 q2]).cell (i := 1) rfl
  clear h hq
  go_enter Try.func18, Try.ntmps18
  go_wp2_with fail
  refine (phas (unhide H) (unhide hi) (unhide hh)).mono ?_
  rintro e W1 ⟨rfl, K1⟩
  have K2 := hide ((unhide KW).then K1)
  clear c0 c1 K1
  go_wp2
  go_ret
  exact ⟨rfl, unhide K2⟩
set_option maxRecDepth 4000 in
set_option maxHeartbeats 2000000 in
theorem ppush_first {w : World} {y o : Nat} {U : TypeId} {pre post : List Value} {m : Option Nat} {f : Int × Int} (h : PL w y o U pre post m f []) {q1 q2 : Int} (hi : IdIn (q1, q2)) :
    Calls Try.prog 18 #[.pointer (some ⟨y, o, none⟩), .agg #[.int .i64 q1, .int .i64 q2]] w (PLP w y o U pre post m [(q1, q2)] (.bool true)) := by
  have hyl := hide h.head.lt
  replace hi := hide hi
  have hh := hide (lHas_no (L := []) (q := (q1, q2)) (by simp))
  have KW := hide ((Kp.refl [] w).alloc (.cells #[.int .i64 q1, .int .i64 q2] 27))
  have H := hide (h.grew (unhide KW))
  have B0 := hide (Bk.new w 27 [.int .i64 q1, .int .i64 q2])
  have c0 := (unhide B0).cell (i := 0) rfl
  have c1 := (unhide B0).cell (i := 1) rfl
  clear h
  go_enter Try.func18, Try.ntmps18
  go_wp2_with fail
  refine (phas (unhide H) (unhide hi) (unhide hh)).mono ?_
  rintro e W1 ⟨rfl, K1⟩
  have K2 := hide ((unhide KW).then K1)
  have B1 := hide ((unhide B0).kept K1 (by simp))
  have H1 := hide ((unhide H).grew K1)
  clear c0 c1 K1 KW B0 H hh
  go_wp2_with fail
  refine (plen (unhide H1) rfl).mono ?_
  rintro e W2 ⟨rfl, K1⟩
  have KW := hide ((unhide K2).then K1)
  have B0 := hide ((unhide B1).kept K1 (by simp))
  have H := hide ((unhide H1).grew K1)
  clear K1 K2 B1 H1
  have hmm := @run_makeMap Try.prog
  obtain ⟨W6, hup0, hM6, hK6⟩ := Gm.Mp.put_miss (K := idK) (w := (W2.alloc (.map #[] 0)).drew) (b := W2.heap.size) (Gm.Mp.made W2) Try.underlying25 (q := (q1, q2)) (unhide hi) (by simp) (plV (q1, q2) (q1, q2))
  have hup : (Instr.mapUpdate 25 (.map (some W2.heap.size)) (.agg #[.int .i64 q1, .int .i64 q2]) (.agg #[.int .i64 q1, .int .i64 q2, .int .i64 q1, .int .i64 q2])).run Try.prog (W2.alloc (.map #[] 0)).drew = .ok () W6 := hup0
  have hyW : y < W2.heap.size := (unhide H).head.lt
  have hle : w.heap.size < W2.heap.size := (unhide B0).lt
  have hyw := unhide hyl
  have KA := hide (((Kp.refl [y, W2.heap.size] W2).alloc (.map #[] 0)).drew)
  have K6 := hide ((unhide KA).then (hK6.mono (S' := [y, W2.heap.size]) (by simp)))
  have hS : Hid (∀ w', Kp [y, W2.heap.size] W2 w' → w'.cell? ⟨w.heap.size, 0, none⟩ = some (.int .i64 q1) ∧ w'.cell? ⟨w.heap.size, 1, none⟩ = some (.int .i64 q2)) := fun w' k => by
    have b := (unhide B0).kept k (by simp; omega)
    exact ⟨b.cell rfl, b.cell rfl⟩
  have Y6 := hide ((((unhide H).head.alloc (.map #[] 0)).drewN 1).kept hK6 (by simp; omega))
  have y0 := (unhide Y6).cell0 rfl
  have y1 := (unhide Y6).cell (i := 1) rfl
  have y2 := (unhide Y6).cell (i := 2) rfl
  have yf := (unhide Y6).frozen
  have K00 := hide (Kp.refl [y, W2.heap.size] W2).drew
  have K7 := hide ((unhide K6).setCell (p := ⟨y, o, none⟩) (.inl (by simp)) (.map (some W2.heap.size)))
  have K8 := hide (((unhide K7).setCell (p := ⟨y, o + 1, none⟩) (.inl (by simp)) (.int .i64 q1)).setCell (p := ⟨y, o + 2, none⟩) (.inl (by simp)) (.int .i64 q2))
  have k3 := hide ((((Kp.refl [y] W6).setCell (p := ⟨y, o, none⟩) (.inl (by simp)) (.map (some W2.heap.size))).setCell (p := ⟨y, o + 1, none⟩) (.inl (by simp)) (.int .i64 q1)).setCell (p := ⟨y, o + 2, none⟩) (.inl (by simp)) (.int .i64 q2))
  have M8 := hide (hM6.kept (unhide k3) (by simp; omega))
  have Y8 := hide ((((unhide Y6).set0 (.map (some W2.heap.size)) (by simp)).set 1 (.int .i64 q1) (by simp)).set 2 (.int .i64 q2) (by simp))
  clear hup0 k3 hM6
  simp only [List.length_nil]
  go_wp2_with fail
  go_region_held3 (fun w' => w'.cell? ⟨w.heap.size, 0, none⟩ = some (.int .i64 q1) ∧ w'.cell? ⟨w.heap.size, 1, none⟩ = some (.int .i64 q2)) (first | exact unhide hS _ (unhide K00) | exact unhide hS _ (unhide KA) | exact unhide hS _ (unhide K6) | exact unhide hS _ (unhide K7) | exact unhide hS _ (unhide K8)) (fail)
  go_wp2
  go_ret
  refine ⟨rfl, some W2.heap.size, (q1, q2), ⟨unhide Y8, ⟨fun _ => (q1, q2), fun _ => (q1, q2), unhide M8, rn_one (q1, q2) rfl rfl⟩, by simp, ?_, by simp⟩, ?_, ?_⟩
  · intro q hq
    rw [List.mem_singleton.1 hq]
    exact unhide hi
  · exact (unhide KW).trans (unhide K8) (by simp) (by intro i hi; simp at hi; rcases hi with rfl | rfl; exact .inl (by simp); exact .inr (by omega))
  · intro b e
    cases e
    exact .inr (by omega)
set_option maxRecDepth 4000 in
set_option maxHeartbeats 2000000 in
theorem ppush_more {w : World} {y o : Nat} {U : TypeId} {pre post : List Value} {m : Option Nat} {f x : Int × Int} {T : List (Int × Int)} (h : PL w y o U pre post m f (x :: T)) {q1 q2 : Int} (hi : IdIn (q1, q2)) (hq : (q1, q2) ∉ x :: T) (hL : (x :: T).length < 65536) :
    Calls Try.prog 18 #[.pointer (some ⟨y, o, none⟩), .agg #[.int .i64 q1, .int .i64 q2]] w (PLP w y o U pre post m (x :: T ++ [(q1, q2)]) (.bool true)) := by
  obtain ⟨b, rfl⟩ : ∃ b, m = some b := by
    cases m with
    | none => have : x :: T = [] := h.mo; cases this
    | some b => exact ⟨b, rfl⟩
  have hyb := hide (h.ne b rfl)
  have hbl := hide (h.lt b rfl)
  have hyl := hide h.head.lt
  replace hi := hide hi
  have hh := hide (lHas_no hq)
  have KW := hide ((Kp.refl [] w).alloc (.cells #[.int .i64 q1, .int .i64 q2] 27))
  have H := hide (h.grew (unhide KW))
  have B0 := hide (Bk.new w 27 [.int .i64 q1, .int .i64 q2])
  have c0 := (unhide B0).cell (i := 0) rfl
  have c1 := (unhide B0).cell (i := 1) rfl
  have hlen : decide (((x :: T).length : Int) = 0) = false := decide_eq_false (by simp; omega)
  replace hlen := hide hlen
  have hok := hide h.ok
  have hnd := hide h.nd
  replace hL := hide hL
  clear h
  go_enter Try.func18, Try.ntmps18
  go_wp2_with fail
  refine (phas (unhide H) (unhide hi) (unhide hh)).mono ?_
  rintro e W1 ⟨rfl, K1⟩
  have K2 := hide ((unhide KW).then K1)
  have B1 := hide ((unhide B0).kept K1 (by simp))
  have H1 := hide ((unhide H).grew K1)
  clear c0 c1 K1 KW B0 H hh
  obtain ⟨len, hlen'⟩ : ∃ k : Int, ((x :: T).length : Int) = k := ⟨_, rfl⟩
  have hl0 : (len == 0) = false := beq_eq_false_iff_ne.2 (by have : 0 < (x :: T).length := by simp
                                                             omega)
  replace hlen' := hide hlen'
  go_wp2_with fail
  refine (plen (unhide H1) (unhide hlen')).mono ?_
  rintro e W2 ⟨rfl, K1⟩
  have KW := hide ((unhide K2).then K1)
  have B0 := hide ((unhide B1).kept K1 (by simp))
  have H := hide ((unhide H1).grew K1)
  clear K1 K2 B1 H1
  go_upto_region 6 with fail
  obtain ⟨p, n0, hm0, hr0⟩ := (unhide H).mo
  have hn : ∀ c ∈ x :: T, updF n0 (q1, q2) (0, 0) c = n0 c := fun c hc => updF_ne _ _ (fun e => hq (by rw [← e]; exact hc))
  have hm : Gm.Mp idK W2.drew b (ents (x :: T) p (updF n0 (q1, q2) (0, 0))) := by
    rw [ents_congr (fun _ _ => rfl) hn]
    exact hm0.drewN 1
  have hr : Rn p (updF n0 (q1, q2) (0, 0)) f (x :: T) := rn_congr hr0 (fun _ _ => rfl) hn
  have hnz : updF n0 (q1, q2) (0, 0) (q1, q2) = (0, 0) := updF_at _ _ _
  generalize updF n0 (q1, q2) (0, 0) = n at *
  clear hm0 hr0 hn
  obtain ⟨hpx, hR⟩ := rn_push hr (unhide hnd) hq
  obtain rfl : f = x := hr.1
  obtain ⟨f1, f2⟩ := f
  obtain ⟨⟨a1, a2⟩, ha⟩ : ∃ z, p (f1, f2) = z := ⟨_, rfl⟩
  obtain ⟨⟨n1, n2⟩, hnx⟩ : ∃ z, n (f1, f2) = z := ⟨_, rfl⟩
  have hlk0 := (mp_look hm (unhide hok _ (by simp : (f1, f2) ∈ (f1, f2) :: T)) false).1 (by simp)
  rw [ha, hnx] at hlk0
  have hlk : (Instr.lookup 25 (.map (some b)) (.agg #[.int .i64 f1, .int .i64 f2]) false).run Try.prog W2.drew = .ok (.agg #[.int .i64 a1, .int .i64 a2, .int .i64 n1, .int .i64 n2]) W2.drew := hlk0
  rw [ha] at hpx hR
  replace hR := hide hR
  replace hpx := hide hpx
  have hm' := hide hm
  have hne : Hid ((q1, q2) ≠ (a1, a2)) := fun e => hq (e ▸ unhide hpx)
  replace hnz := hide hnz
  have hY := hide (unhide H).head
  have hS : Hid (∀ w', Kp [b] W2 w' → w'.cell? ⟨y, o, none⟩ = some (.map (some b)) ∧ w'.cell? ⟨y, o + 1, none⟩ = some (.int .i64 f1) ∧ w'.cell? ⟨y, o + 2, none⟩ = some (.int .i64 f2) ∧ w'.cell? ⟨w.heap.size, 0, none⟩ = some (.int .i64 q1) ∧ w'.cell? ⟨w.heap.size, 1, none⟩ = some (.int .i64 q2)) := fun w' k => by
    have hB := (unhide B0).kept k (by have := unhide hbl; simp; omega)
    have hY := (unhide hY).kept k (by have := unhide hyb; simp; omega)
    exact ⟨hY.cell0 rfl, hY.cell (i := 1) rfl, hY.cell (i := 2) rfl, hB.cell rfl, hB.cell rfl⟩
  have K0 := hide (Kp.refl [b] W2).drew
  have hfa := Try.fieldAhead a1 a2 n1 n2
  clear hr hm hlk0 ha hnx H
  go_region_held3 (fun w' => w'.cell? ⟨y, o, none⟩ = some (.map (some b)) ∧ w'.cell? ⟨y, o + 1, none⟩ = some (.int .i64 f1) ∧ w'.cell? ⟨y, o + 2, none⟩ = some (.int .i64 f2) ∧ w'.cell? ⟨w.heap.size, 0, none⟩ = some (.int .i64 q1) ∧ w'.cell? ⟨w.heap.size, 1, none⟩ = some (.int .i64 q2)) (first | exact unhide hS _ (unhide K1) | exact unhide hS _ (unhide K0)) (first
    | (go_at_call 29; refine (pjoin ((unhide hY).drewN 1) (Ne.symm (unhide hyb)) (unhide hm') (unhide hpx) (unhide hi) (.inr ⟨unhide hne, unhide hnz⟩)).mono ?_; rintro e W3 ⟨rfl, hM3, K3⟩; have K1 := hide ((unhide K0).then K3); clear K3))
  rw [joinL_new hq] at hM3
  have M3 := hide hM3
  have Y3 := hide ((unhide hY).kept (unhide K1) (by have := unhide hyb; simp; omega))
  have B3 := hide ((unhide B0).kept (unhide K1) (by have := unhide hbl; have := (unhide B0).lt; simp; omega))
  have KW3 : Hid (Kp [b] w W3) := (unhide KW).trans (unhide K1) (by simp) (by simp)
  clear hM3 K0 K1 hS hY B0 KW hfa hm' hlk
  have hS : Hid (∀ w', Kp [b] W3 w' → w'.cell? ⟨y, o + 1, none⟩ = some (.int .i64 f1) ∧ w'.cell? ⟨y, o + 2, none⟩ = some (.int .i64 f2) ∧ w'.cell? ⟨w.heap.size, 0, none⟩ = some (.int .i64 q1) ∧ w'.cell? ⟨w.heap.size, 1, none⟩ = some (.int .i64 q2)) := fun w' k => by
    have hB := (unhide B3).kept k (by have := unhide hbl; simp; omega)
    have hY := (unhide Y3).kept k (by have := unhide hyb; simp; omega)
    exact ⟨hY.cell (i := 1) rfl, hY.cell (i := 2) rfl, hB.cell rfl, hB.cell rfl⟩
  have K0 := hide (Kp.refl [b] W3).drew
  have hq2 : Hid ((q1, q2) ∈ (f1, f2) :: T ++ [(q1, q2)]) := by unfold Hid; simp
  have hf2 : Hid ((f1, f2) ∈ (f1, f2) :: T ++ [(q1, q2)]) := by unfold Hid; simp
  have hfi := hide (unhide hok _ (by simp : (f1, f2) ∈ (f1, f2) :: T))
  go_wp2_with fail
  go_region_held3 (fun w' => w'.cell? ⟨y, o + 1, none⟩ = some (.int .i64 f1) ∧ w'.cell? ⟨y, o + 2, none⟩ = some (.int .i64 f2) ∧ w'.cell? ⟨w.heap.size, 0, none⟩ = some (.int .i64 q1) ∧ w'.cell? ⟨w.heap.size, 1, none⟩ = some (.int .i64 q2)) (first | exact unhide hS _ (unhide K1) | exact unhide hS _ (unhide K0)) (first
    | (go_at_call 29; refine (pjoin ((unhide Y3).drewN 1) (Ne.symm (unhide hyb)) ((unhide M3).drewN 1) (unhide hq2) (unhide hfi) (.inl (unhide hf2))).mono ?_; rintro e W4 ⟨rfl, hM4, K4⟩; have K1 := hide ((unhide K0).then K4); clear K4))
  rw [joinL_in (unhide hf2)] at hM4
  replace hM4 := hide hM4
  go_wp2
  go_ret
  refine ⟨rfl, some b, (f1, f2), ⟨(unhide Y3).kept (unhide K1) (by have := unhide hyb; simp; omega), ⟨_, _, unhide hM4, unhide hR⟩, nd_snoc (unhide hnd) hq, ok_snoc (unhide hok) (unhide hi), len_snoc (q1, q2) (unhide hL)⟩, ((unhide KW3).then (unhide K1)).mono (by simp), fun b' e => .inl e⟩
theorem ppush {w : World} {y o : Nat} {U : TypeId} {pre post : List Value} {m : Option Nat} {f : Int × Int} {L : List (Int × Int)} (h : PL w y o U pre post m f L) {q1 q2 : Int} (hi : IdIn (q1, q2)) (hq : (q1, q2) ∉ L) (hL : L.length < 65536) :
    Calls Try.prog 18 #[.pointer (some ⟨y, o, none⟩), .agg #[.int .i64 q1, .int .i64 q2]] w (PLP w y o U pre post m (L ++ [(q1, q2)]) (.bool true)) := by
  cases L with
  | nil => exact ppush_first h hi
  | cons x T => exact ppush_more h hi hq hL
end Go.Proofs.Ytgahekhlbcnmaaa
