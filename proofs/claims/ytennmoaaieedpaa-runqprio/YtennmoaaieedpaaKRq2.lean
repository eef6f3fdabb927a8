/- The program's queue: what a change of one row leaves; Prio, Add. -/
import Derived.Test.YtennmoaaieedpaaKRq1
namespace Go.Proofs.Ytennmoaaieedpaa
open Go.RowKit
set_option linter.unusedVariables false
/-- The blocks of these rows. -/
def blks (vs : List Value) : List Nat := vs.filterMap Value.ownBlock
theorem blks_mem {vs : List Value} {g : Nat} : g ∈ blks vs ↔ ∃ v ∈ vs, v.ownBlock = some g := by unfold blks; rw [List.mem_filterMap]
/-- What a change of the queue at q leaves. -/
structure QT (q : Nat) (w w' : World) (vs vs' : List Value) : Prop where
  kp : Kp (q :: blks vs) w w'
  bl : ∀ g ∈ blks vs', g ∈ blks vs ∨ w.heap.size ≤ g
theorem QT.of {q : Nat} {w w' : World} {vs : List Value} (k : Kp [] w w') : QT q w w' vs vs := ⟨k.mono (by simp), fun g h => .inl h⟩
theorem QT.trans {q : Nat} {a b c : World} {vs vs' vs'' : List Value} (h : QT q a b vs vs') (k : QT q b c vs' vs'') : QT q a c vs vs'' := by
  have hs := h.kp.size
  refine ⟨h.kp.trans k.kp (fun i m => m) (fun i m => ?_), fun g m => ?_⟩
  · rcases List.mem_cons.1 m with e | m
    · exact .inl (by rw [e]; simp)
    · rcases h.bl i m with e | e
      · exact .inl (List.mem_cons_of_mem _ e)
      · exact .inr e
  · rcases k.bl g m with e | e
    · exact h.bl g e
    · exact .inr (by omega)
def upd (F : Nat → List Int) (p : Nat) (M : List Int) : Nat → List Int := fun i => if i = p then M else F i
theorem QR.noq {base : Nat} {w : World} {q : Nat} {vs : List Value} {F : Nat → List Int} (h : QR base w q vs F) {c : Array Value} : w.heap[q]? ≠ some (.cells c 3 (0, 0)) := by
  intro e
  have := h.head
  unfold Bk at this
  rw [this] at e
  simp at e
theorem QR.row_ne {base : Nat} {w : World} {q : Nat} {vs : List Value} {F : Nat → List Int} (h : QR base w q vs F) {g : Nat} (hg : g ∈ blks vs) : g ≠ q ∧ base ≤ g ∧ g < w.heap.size ∧ ∃ c, w.heap[g]? = some (.cells c 3 (0, 0)) := by
  obtain ⟨v, hv, e⟩ := blks_mem.1 hg
  obtain ⟨i, hi⟩ := List.mem_iff_getElem?.1 hv
  have hr := h.own i v hi
  obtain ⟨h1, c, h2⟩ := hr.block e
  refine ⟨fun e' => ?_, h1, (Array.getElem?_eq_some_iff.1 h2).1, c, h2⟩
  subst e'
  exact h.noq h2
/-- One row turned: grown or written in its own place, the queue's cell behind it. -/
theorem QR.turn {base : Nat} {w w1 : World} {q : Nat} {vs : List Value} {F : Nat → List Int} (h : QR base w q vs F) {p : Nat} {v v' : Value} {M : List Int} (hv : vs[p]? = some v) (k : Kp v.ownBlock.toList w w1) (hr : Gr.Rw intE base w1 v' M)
    (ho : v'.ownBlock = v.ownBlock ∨ ∀ g, v'.ownBlock = some g → w.heap.size ≤ g) (hM : M.length ≤ 65536) :
    Bk w1 q 27 vs ∧ QR base (w1.setCell ⟨q, p, none⟩ v') q (vs.set p v') (upd F p M) ∧ QT q w (w1.setCell ⟨q, p, none⟩ v') vs (vs.set p v') := by
  have hp : p < vs.length := (List.getElem?_eq_some_iff.1 hv).1
  have hmem : ∀ g, v.ownBlock = some g → g ∈ blks vs := fun g e => blks_mem.2 ⟨v, List.mem_of_getElem? hv, e⟩
  have hq : Bk w1 q 27 vs := h.head.kept k (fun m => (h.row_ne (hmem q (Option.mem_toList.1 m))).1 rfl)
  have hqn : ∀ g c, w1.heap[g]? = some (.cells c 3 (0, 0)) → g ≠ q := by
    intro g c e e'
    subst e'
    unfold Bk at hq
    rw [hq] at e
    simp at e
  have ks : Kp [q] w1 (w1.setCell ⟨q, p, none⟩ v') := (Kp.refl [q] w1).setCell (.inl (by simp)) _
  have hr' : Gr.Rw intE base (w1.setCell ⟨q, p, none⟩ v') v' M := hr.kept ks (fun g e m => by
    obtain ⟨_, c, hc⟩ := hr.block e
    exact hqn g c hc (List.mem_singleton.1 m))
  have hbl : ∀ g ∈ blks (vs.set p v'), g ∈ blks vs ∨ w.heap.size ≤ g := by
    intro g m
    obtain ⟨u, hu, e⟩ := blks_mem.1 m
    rcases List.mem_or_eq_of_mem_set hu with q1 | q1
    · exact .inl (blks_mem.2 ⟨u, q1, e⟩)
    · subst q1
      rcases ho with q2 | q2
      · rw [q2] at e; exact .inl (hmem g e)
      · exact .inr (q2 g e)
  refine ⟨hq, ⟨hq.set p v', by rw [List.length_set]; exact h.len, fun i u hu => ?_, fun i j u u' g hi hj e e' => ?_, h.new, fun i hi => ?_⟩, ⟨?_, hbl⟩⟩
  · rw [List.getElem?_set] at hu
    unfold upd
    by_cases e : p = i
    · subst e
      rw [if_pos rfl, if_pos hp] at hu
      cases hu
      rw [if_pos rfl]
      exact hr'
    · rw [if_neg e] at hu
      rw [if_neg (fun q => e q.symm)]
      have h2 := h.own i u hu
      refine (h2.kept k (fun g hg m => ?_)).kept ks (fun g hg m => ?_)
      · exact e (h.apart p i v u g hv hu (Option.mem_toList.1 m) hg)
      · exact (h.row_ne (blks_mem.2 ⟨u, List.mem_of_getElem? hu, hg⟩)).1 (List.mem_singleton.1 m)
  · rw [List.getElem?_set] at hi hj
    have old : ∀ (k : Nat) (u : Value), vs[k]? = some u → ∀ g, u.ownBlock = some g → g < w.heap.size := fun k u hu g hg => (h.row_ne (blks_mem.2 ⟨u, List.mem_of_getElem? hu, hg⟩)).2.2.1
    by_cases e1 : p = i
    · by_cases e2 : p = j
      · omega
      · rw [if_pos e1, if_pos (e1 ▸ hp)] at hi
        rw [if_neg e2] at hj
        cases hi
        rcases ho with q2 | q2
        · rw [q2] at e
          exact e1 ▸ h.apart p j v u' g hv hj e e'
        · have := q2 g e
          have := old j u' hj g e'
          omega
    · rw [if_neg e1] at hi
      by_cases e2 : p = j
      · rw [if_pos e2, if_pos (e2 ▸ hp)] at hj
        cases hj
        rcases ho with q2 | q2
        · rw [q2] at e'
          exact e2 ▸ h.apart i p u v g hi hv e e'
        · have := q2 g e'
          have := old i u hi g e
          omega
      · rw [if_neg e2] at hj
        exact h.apart i j u u' g hi hj e e'
  · unfold upd
    split
    · exact hM
    · exact h.small i hi
  · refine k.trans ks (fun i m => List.mem_cons_of_mem _ (hmem i (Option.mem_toList.1 m))) (fun i m => .inl (by rw [List.mem_singleton.1 m]; simp))
/-- The rows of a queue told as a list. -/
def rowsOf (L : List (Int × Int)) : Nat → List Int := fun i => qRow L (i : Int)
theorem QR.rows {base : Nat} {w : World} {q : Nat} {vs : List Value} {F G : Nat → List Int} (h : QR base w q vs F) (e : ∀ i, i < 8 → F i = G i) : QR base w q vs G := by
  refine ⟨h.head, h.len, fun i v hv => ?_, h.apart, h.new, fun i hi => by rw [← e i hi]; exact h.small i hi⟩
  rw [← e i (by have := (List.getElem?_eq_some_iff.1 hv).1; rw [h.len] at this; exact this)]
  exact h.own i v hv
/-- What a change leaves, told by the list. -/
def QC (base q : Nat) (vs : List Value) (L' : List (Int × Int)) (w : World) (v : Value) (e : Ending) (w' : World) : Prop := e = .returned v ∧ ∃ vs', QR base w' q vs' (rowsOf L') ∧ QT q w w' vs vs'
theorem QC.same {base q : Nat} {vs : List Value} {L : List (Int × Int)} {w w' : World} {v : Value} (h : QR base w q vs (rowsOf L)) (K : Kp [] w w') : QC base q vs L w v (.returned v) w' := ⟨rfl, vs, h.grew K, .of K⟩
theorem pfind_no {base : Nat} {w : World} {q : Nat} {vs : List Value} {L : List (Int × Int)} (h : QR base w q vs (rowsOf L)) {t : Int} (ht : qPr L t = none) :
    Calls Try.prog 24 #[.pointer (some ⟨q, 0, none⟩), .int .i64 t] w fun e w' => e = .returned (.tuple #[.int .i64 0, .int .i64 0, .bool false]) ∧ Kp [] w w' :=
  find_no h (fun i _ hm => qAt_none (qPr_none ht) _ (qRow_mem.1 hm))
theorem pfind_yes {base : Nat} {w : World} {q : Nat} {vs : List Value} {L : List (Int × Int)} (h : QR base w q vs (rowsOf L)) (hq : QOk L) {t p : Int} (ht : qPr L t = some p) :
    ∃ n k : Nat, p = (n : Int) ∧ n < 8 ∧ (qRow L p)[k]? = some t ∧ Calls Try.prog 24 #[.pointer (some ⟨q, 0, none⟩), .int .i64 t] w fun e w' => e = .returned (.tuple #[.int .i64 p, .int .i64 k, .bool true]) ∧ Kp [] w w' := by
  obtain ⟨i, _, hi⟩ := qPr_some ht
  have hm := List.mem_of_getElem? hi
  have hb := hq.pr _ hm
  obtain ⟨n, rfl⟩ : ∃ n : Nat, p = (n : Int) := ⟨p.toNat, by simp at hb; omega⟩
  obtain ⟨k, hk⟩ := List.mem_iff_getElem?.1 (qRow_mem.2 hm)
  refine ⟨n, k, rfl, by simp at hb; omega, hk, find_yes h (by simp at hb; omega) (fun j hj hmj => ?_) (qRow_nd hq _) hk⟩
  have := q_one hq.nd (qRow_mem.1 hmj) hm
  omega
set_option maxHeartbeats 400000 in
theorem pprio_to {base : Nat} {w : World} {q : Nat} {vs : List Value} {L : List (Int × Int)} (h : QR base w q vs (rowsOf L)) (hq : QOk L) {t p : Int} {is : Bool} (hp : (qPr L t).getD 0 = p) (hi : (qPr L t).isSome = is) :
    Calls Try.prog 16 #[.pointer (some ⟨q, 0, none⟩), .int .i64 t] w fun e w' => e = .returned (.tuple #[.int .i64 p, .bool is]) ∧ Kp [] w w' := by
  subst hp hi
  cases e : qPr L t with
  | none =>
    have HF := hide (pfind_no h e)
    clear h e
    simp only [Option.getD_none, Option.isSome_none]
    go_enter Try.func16, Try.ntmps16
    go_wp2_with fail
    refine (unhide HF).mono ?_
    rintro e W1 ⟨rfl, K1⟩
    replace K1 := hide K1
    go_wp2
    exact bodyPost_ret (v := .tuple #[.int .i64 0, .bool false]) (by simp [results, Try.results16, go_sem, *]) rfl ⟨rfl, unhide K1⟩
  | some p =>
    obtain ⟨n, k, _, _, _, HF⟩ := pfind_yes h hq e
    replace HF := hide HF
    clear h e
    simp only [Option.getD_some, Option.isSome_some]
    go_enter Try.func16, Try.ntmps16
    go_wp2_with fail
    refine (unhide HF).mono ?_
    rintro e W1 ⟨rfl, K1⟩
    replace K1 := hide K1
    go_wp2
    exact bodyPost_ret (v := .tuple #[.int .i64 p, .bool true]) (by simp [results, Try.results16, go_sem, *]) rfl ⟨rfl, unhide K1⟩
set_option maxHeartbeats 400000 in
theorem pcan_calls (n : Int) (w : World) :
    Calls Try.prog 21 #[.int .i64 n] w fun e w' => e = .returned (.bool (prioOk n)) ∧ Kp [] w w' := by
  obtain ⟨v1, h1⟩ : ∃ v, decide (0 ≤ n) = v := ⟨_, rfl⟩
  have HE := hide (show (v1 && decide (n < 8)) = prioOk n from by rw [← h1]; refine Bool.eq_iff_iff.2 ?_; rw [prioOk_iff]; simp [prioP])
  cases v1 <;>
  · go_enter Try.func21, Try.ntmps21
    go_wp2
    go_ret
    exact ⟨ret_bool (unhide HE), Kp.refl _ _⟩
theorem pcan_to {n : Int} {v : Bool} (w : World) (h : prioOk n = v) :
    Calls Try.prog 21 #[.int .i64 n] w fun e w' => e = .returned (.bool v) ∧ Kp [] w w' := by subst h; exact pcan_calls n w
theorem qPr_isSome (L : List (Int × Int)) (t : Int) : (qPr L t).isSome = (qAt L t).isSome := by
  cases e : qAt L t with
  | none => rw [qPr_at e]; rfl
  | some i =>
    obtain ⟨p, hp⟩ := qAt_some e
    unfold qPr
    simp [e, hp]
set_option maxHeartbeats 400000 in
theorem padd_there {base : Nat} {w : World} {q : Nat} {vs : List Value} {L : List (Int × Int)} (h : QR base w q vs (rowsOf L)) (hq : QOk L) {t : Int} (p : Int) (ht : (qPr L t).isSome = true) :
    Calls Try.prog 8 #[.pointer (some ⟨q, 0, none⟩), .int .i64 t, .int .i64 p] w fun e w' => e = .returned (.bool false) ∧ Kp [] w w' := by
  have HF := hide (pprio_to h hq rfl ht)
  obtain ⟨z, hz⟩ : ∃ z, (qPr L t).getD 0 = z := ⟨_, rfl⟩
  rw [hz] at HF
  clear h hz ht
  go_enter Try.func8, Try.ntmps8
  go_wp2_with fail
  refine (unhide HF).mono ?_
  rintro e W1 ⟨rfl, K1⟩
  replace K1 := hide K1
  go_wp2
  go_ret
  exact ⟨rfl, unhide K1⟩
set_option maxHeartbeats 400000 in
theorem padd_bad {base : Nat} {w : World} {q : Nat} {vs : List Value} {L : List (Int × Int)} (h : QR base w q vs (rowsOf L)) (hq : QOk L) {t p : Int} (ht : (qPr L t).isSome = false) (hp : prioOk p = false) :
    Calls Try.prog 8 #[.pointer (some ⟨q, 0, none⟩), .int .i64 t, .int .i64 p] w fun e w' => e = .returned (.bool false) ∧ Kp [] w w' := by
  have HF := hide (pprio_to h hq rfl ht)
  obtain ⟨z, hz⟩ : ∃ z, (qPr L t).getD 0 = z := ⟨_, rfl⟩
  rw [hz] at HF
  replace hp := hide hp
  clear h hz ht
  go_enter Try.func8, Try.ntmps8
  go_wp2_with fail
  refine (unhide HF).mono ?_
  rintro e W1 ⟨rfl, K1⟩
  replace K1 := hide K1
  go_wp2_with fail
  refine (pcan_to _ (unhide hp)).mono ?_
  rintro e W2 ⟨rfl, K2⟩
  replace K2 := hide K2
  go_wp2
  go_ret
  exact ⟨rfl, (unhide K1).then (unhide K2)⟩
theorem rows_add {L : List (Int × Int)} {t : Int} {n : Nat} (i : Nat) : upd (rowsOf L) n (rowsOf L n ++ [t]) i = rowsOf (L ++ [(t, (n : Int))]) i := by
  unfold upd rowsOf
  rw [qRow_add]
  by_cases h : i = n
  · subst h; rw [if_pos rfl, if_pos rfl]
  · rw [if_neg h, if_neg (by omega)]
set_option maxRecDepth 4000 in
set_option maxHeartbeats 2000000 in
theorem padd_yes {base : Nat} {w : World} {q : Nat} {vs : List Value} {L : List (Int × Int)} (h : QR base w q vs (rowsOf L)) (hq : QOk L) {t : Int} {n : Nat} (hn : n < 8) (ht : (qPr L t).isSome = false) (hL : L.length < 65536) :
    Calls Try.prog 8 #[.pointer (some ⟨q, 0, none⟩), .int .i64 t, .int .i64 (n : Int)] w (QC base q vs (L ++ [(t, (n : Int))]) w (.bool true)) := by
  have HF := hide (pprio_to h hq rfl ht)
  have hp := hide ((prioOk_iff (n : Int)).2 (show prioP (n : Int) from ⟨by omega, by omega⟩))
  obtain ⟨z, hz⟩ : ∃ z, (qPr L t).getD 0 = z := ⟨_, rfl⟩
  rw [hz] at HF
  have H := hide h
  have hlen : Hid ((rowsOf L n).length ≤ 65535) := by have := qRow_len L (n : Int); unfold Hid rowsOf; omega
  clear h hz ht
  go_enter Try.func8, Try.ntmps8
  go_wp2_with fail
  refine (unhide HF).mono ?_
  rintro e W1 ⟨rfl, K1⟩
  replace K1 := hide K1
  go_wp2_with fail
  refine (pcan_to _ (unhide hp)).mono ?_
  rintro e W2 ⟨rfl, K2⟩
  replace K2 := hide ((unhide K1).then K2)
  have R2 := hide ((unhide H).grew (unhide K2))
  obtain ⟨v, hv, hrow, c0⟩ := (unhide R2).at hn
  obtain ⟨a, cap, rfl⟩ := hrow.form
  have f0 := (unhide R2).head.frozen n
  have K3 := (Kp.refl [] W2).alloc (.cells #[.int .i64 t] 3)
  have R3 := (unhide R2).grew K3.drew
  have R3' := (unhide R2).grew K3
  have d0 := R3.head.cell hv
  have g0 := R3.head.frozen n
  have hrow3 := hide (hrow.grew K3.drew)
  have x3 : Hid (Bk (W2.alloc (.cells #[.int .i64 t] 3)).drew W2.heap.size 3 [.int .i64 t]) := (Bk.new W2 3 [.int .i64 t]).kept ((Kp.refl [] _).drew) (by simp)
  have b1 : (n : Int) < 8 := by omega
  have b2 : ((n : Int)).toNat = n := Int.toNat_natCast n
  have b3 : decide ((n : Int) < 0) = false := decide_eq_false (by omega)
  have lM : Hid ((rowsOf L n).length + ([t] : List Int).length ≤ 1048576) := by have := unhide hlen; unfold Hid; simp; omega
  have bs : Hid (base ≤ (W2.alloc (.cells #[.int .i64 t] 3)).drew.heap.size) := by
    have h1 := (unhide R2).new; have h2 := (unhide R2).head.lt; unfold Hid; show base ≤ (W2.alloc _).heap.size; simp; omega
  have RR := hide R3
  replace hv := hide hv
  clear R3 R3' hrow K1 HF hp H
  go_wp2_with fail
  go_region_law ((refine Gr.step_app (E := intE) Try.underlying24 Try.infoIntG rfl (by decide) (by decide) (by rfl) _ _ (by rfl) base (.slice a (rowsOf L n).length cap) (.slice (some ⟨W2.heap.size, 0, none⟩) 1 1) (rowsOf L n) [t] (by rfl) (by rfl) (unhide hrow3) (Gr.src_one (unhide x3) rfl) (unhide lM) (unhide bs) ?_; intro v' W4 hr hg hnn; have hT := hide ((unhide RR).turn (unhide hv) (Gr.kp_gb hg) hr (hnn.imp id (fun e g e' => by rw [e] at e'; cases e'; exact Nat.le_refl _)) (by have := unhide hlen; simp; omega)); have f4 := (unhide hT).1.frozen n; have c4 := (unhide hT).1.cell (unhide hv); obtain ⟨a', cap', rfl⟩ := hr.form; clear hr hg hnn))
  all_goals
    go_wp2
    go_ret
    obtain ⟨_, q1, q2⟩ := unhide hT
    have el : (rowsOf L n ++ [t]).length = (rowsOf L n).length + 1 := by simp
    rw [el] at q1 q2
    exact ⟨rfl, _, q1.rows (fun i _ => rows_add i), (QT.of ((unhide K2).then K3.drew)).trans q2⟩
end Go.Proofs.Ytennmoaaieedpaa
