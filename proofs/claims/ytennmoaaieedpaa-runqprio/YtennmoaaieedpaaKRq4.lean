/- The program's queue: Set, Ready, Pick. -/
import Derived.Test.YtennmoaaieedpaaKRq3
import Derived.Laws.CopyRow
namespace Go.Proofs.Ytennmoaaieedpaa
open Go.RowKit
set_option linter.unusedVariables false
theorem prem {base : Nat} {w : World} {q : Nat} {vs : List Value} {L L' : List (Int × Int)} (h : QR base w q vs (rowsOf L)) (hq : QOk L) {t : Int} {is : Bool} (h1 : qDel L t = L') (h2 : (qAt L t).isSome = is) :
    Calls Try.prog 10 #[.pointer (some ⟨q, 0, none⟩), .int .i64 t] w (QC base q vs L' w (.bool is)) := by
  subst h1 h2
  rw [← qPr_isSome]
  cases e : qPr L t with
  | none => rw [qDel_none (qPr_none e)]; exact (prem_no h e).mono fun e w' ⟨q, K⟩ => by subst q; exact QC.same h K
  | some p => exact prem_yes h hq e
theorem padd {base : Nat} {w : World} {q : Nat} {vs : List Value} {L L' : List (Int × Int)} (h : QR base w q vs (rowsOf L)) (hq : QOk L) {t p : Int} {is : Bool} (hL : L.length < 65536) (h1 : (qAdd L t p).getD L = L') (h2 : (qAdd L t p).isSome = is) :
    Calls Try.prog 8 #[.pointer (some ⟨q, 0, none⟩), .int .i64 t, .int .i64 p] w (QC base q vs L' w (.bool is)) := by
  subst h1 h2
  unfold qAdd
  have hs := qPr_isSome L t
  cases e : qAt L t with
  | some i =>
    rw [e] at hs
    simp only [reduceCtorEq, false_and, if_false, Option.getD_none, Option.isSome_none]
    exact (padd_there h hq p hs).mono fun e w' ⟨q, K⟩ => by subst q; exact QC.same h K
  | none =>
    rw [e] at hs
    cases hp : prioOk p with
    | false =>
      simp only [Bool.false_eq_true, and_false, if_false, Option.getD_none, Option.isSome_none]
      exact (padd_bad h hq hs hp).mono fun e w' ⟨q, K⟩ => by subst q; exact QC.same h K
    | true =>
      simp only [and_self, if_true, Option.getD_some, Option.isSome_some]
      have hb := (prioOk_iff p).1 hp
      obtain ⟨n, rfl⟩ : ∃ n : Nat, p = (n : Int) := ⟨p.toNat, by unfold prioP at hb; omega⟩
      exact padd_yes h hq (by unfold prioP at hb; omega) hs hL
theorem QC.pre {base q : Nat} {w w1 : World} {vs : List Value} {L : List (Int × Int)} {v : Value} {e : Ending} {w' : World} (K : Kp [] w w1) (h : QC base q vs L w1 v e w') : QC base q vs L w v e w' := by
  obtain ⟨e1, vs', h1, h2⟩ := h
  exact ⟨e1, vs', h1, (QT.of K).trans h2⟩
set_option maxHeartbeats 1000000 in
theorem pset {base : Nat} {w : World} {q : Nat} {vs : List Value} {L L' : List (Int × Int)} (h : QR base w q vs (rowsOf L)) (hq : QOk L) {t p : Int} {is : Bool} (h1 : (qSet L t p).getD L = L') (h2 : (qSet L t p).isSome = is) (hs : L.length ≤ 65536) :
    Calls Try.prog 12 #[.pointer (some ⟨q, 0, none⟩), .int .i64 t, .int .i64 p] w (QC base q vs L' w (.bool is)) := by
  subst h1 h2
  have H := hide h
  cases e : qPr L t with
  | none =>
    have e1 : qSet L t p = none := by unfold qSet; rw [e]
    rw [e1]
    have he := hide (show (qPr L t).getD 0 = 0 by rw [e]; rfl)
    have hi := hide (show (qPr L t).isSome = false by rw [e]; rfl)
    clear h e e1
    go_enter Try.func12, Try.ntmps12
    go_wp2_with fail
    refine (pprio_to (unhide H) hq (unhide he) (unhide hi)).mono ?_
    rintro e W0 ⟨rfl, K0⟩
    replace K0 := hide K0
    go_wp2
    go_ret
    exact QC.same (unhide H) (unhide K0)
  | some z =>
    have he := hide (show (qPr L t).getD 0 = z by rw [e]; rfl)
    have hi := hide (show (qPr L t).isSome = true by rw [e]; rfl)
    obtain ⟨i, hai, hLi⟩ := qPr_some e
    have hless := hide (qDel_less (List.mem_of_getElem? hLi))
    cases hp : prioOk p with
    | false =>
      have e1 : qSet L t p = none := by unfold qSet; rw [e]; exact if_neg ((prioOk_not p).1 hp)
      rw [e1]
      replace hp := hide hp
      clear h e e1 hai hLi
      go_enter Try.func12, Try.ntmps12
      go_wp2_with fail
      refine (pprio_to (unhide H) hq (unhide he) (unhide hi)).mono ?_
      rintro e W0 ⟨rfl, K0⟩
      replace K0 := hide K0
      go_wp2_with fail
      refine (pcan_to _ (unhide hp)).mono ?_
      rintro e W1 ⟨rfl, K1⟩
      replace K1 := hide K1
      go_wp2
      go_ret
      exact QC.same (unhide H) ((unhide K0).then (unhide K1))
    | true =>
      by_cases hqp : z = p
      · have e1 : qSet L t p = some L := by unfold qSet; rw [e]; exact (if_pos ((prioOk_iff p).1 hp)).trans (if_pos hqp)
        rw [e1]
        subst hqp
        replace hp := hide hp
        clear h e e1 hai hLi
        go_enter Try.func12, Try.ntmps12
        go_wp2_with fail
        refine (pprio_to (unhide H) hq (unhide he) (unhide hi)).mono ?_
        rintro e W0 ⟨rfl, K0⟩
        replace K0 := hide K0
        go_wp2_with fail
        refine (pcan_to _ (unhide hp)).mono ?_
        rintro e W1 ⟨rfl, K1⟩
        replace K1 := hide K1
        go_wp2
        go_ret
        exact QC.same (unhide H) ((unhide K0).then (unhide K1))
      · have e1 : qSet L t p = some (qDel L t ++ [(t, p)]) := by unfold qSet; rw [e]; exact (if_pos ((prioOk_iff p).1 hp)).trans (if_neg hqp)
        rw [e1]
        have hqp' : (z == p) = false := beq_eq_false_iff_ne.2 hqp
        have hat := hide (show (qAt L t).isSome = true by rw [hai]; rfl)
        have hadd := hide (show qAdd (qDel L t) t p = some (qDel L t ++ [(t, p)]) from if_pos ⟨qDel_gone L t, hp⟩)
        replace hp := hide hp
        clear h e e1 hai hLi hqp
        go_enter Try.func12, Try.ntmps12
        go_wp2_with fail
        refine (pprio_to (unhide H) hq (unhide he) (unhide hi)).mono ?_
        rintro e W0 ⟨rfl, K0⟩
        replace K0 := hide K0
        go_wp2_with fail
        refine (pcan_to _ (unhide hp)).mono ?_
        rintro e W1 ⟨rfl, K1⟩
        replace K1 := hide ((unhide K0).then K1)
        go_wp2_with fail
        refine (prem ((unhide H).grew (unhide K1)) hq rfl (unhide hat)).mono ?_
        rintro e W2 ⟨rfl, vs2, R2, T2⟩
        replace R2 := hide R2
        replace T2 := hide ((QT.of (unhide K1)).trans T2)
        go_wp2_with fail
        refine (padd (is := true) (L' := qDel L t ++ [(t, p)]) (unhide R2) (hq.del t) (by have := unhide hless; omega) (by rw [unhide hadd]; exact Option.getD_some) (by rw [unhide hadd]; exact Option.isSome_some)).mono ?_
        rintro e W3 ⟨rfl, vs3, R3, T3⟩
        replace R3 := hide R3
        replace T3 := hide ((unhide T2).trans T3)
        go_wp2
        go_ret
        exact ⟨rfl, vs3, unhide R3, unhide T3⟩
theorem qMost_is {L : List (Int × Int)} (hq : QOk L) {p : Nat} (hp : p < 8) (h1 : 0 < (rowsOf L p).length) (h2 : ∀ j, p < j → j < 8 → rowsOf L j = []) : qMost L = (p : Int) := by
  obtain ⟨t, ht⟩ := List.exists_mem_of_length_pos h1
  have hm := qRow_mem.1 ht
  have h3 := (qMax_ge (-1) L).2 _ hm
  have h4 := qMost_in hq (List.ne_nil_of_mem hm)
  simp only at h3
  rcases qMax_mem (-1) L with e | ⟨x, hx, e⟩
  · omega
  · unfold qMost at h4 ⊢
    by_cases hlt : (p : Int) < qMax (-1) L
    · exfalso
      have := h2 (qMax (-1) L).toNat (by omega) (by omega)
      have hmx : x.1 ∈ rowsOf L (qMax (-1) L).toNat := by
        unfold rowsOf
        rw [Int.toNat_of_nonneg h4.1, ← e]
        exact qRow_mem.2 hx
      rw [this] at hmx
      cases hmx
    · omega
theorem qReady_none {L : List (Int × Int)} (hq : QOk L) (h2 : ∀ j, j < 8 → rowsOf L j = []) : qReady L = [] := by
  refine (qMost_nil hq).2 ?_
  cases L with
  | nil => rfl
  | cons x L =>
    exfalso
    have hb := hq.pr x (by simp)
    have := h2 x.2.toNat (by omega)
    have hmx : x.1 ∈ rowsOf (x :: L) x.2.toNat := by
      unfold rowsOf
      rw [Int.toNat_of_nonneg hb.1]
      exact qRow_mem.2 (by simp)
    rw [this] at hmx
    cases hmx
set_option maxHeartbeats 400000 in
theorem pready {base : Nat} {w : World} {q : Nat} {vs : List Value} {L : List (Int × Int)} {zs : List Int} (h : QR base w q vs (rowsOf L)) (hq : QOk L) (hz : qReady L = zs) :
    Calls Try.prog 19 #[.pointer (some ⟨q, 0, none⟩)] w (ListI w zs) := by
  subst hz
  have H := hide h
  have HG := hide (greatest_calls h)
  clear h
  go_enter Try.func19, Try.ntmps19
  go_wp2_with fail
  refine (unhide HG).mono ?_
  rintro e W1 ⟨K1, ⟨p, v, hp, hv, rfl, h1, h2⟩ | ⟨rfl, h2⟩⟩
  · have hr := ((unhide H).own p v hv).grew K1
    have e1 : qReady L = rowsOf L p := by unfold qReady; rw [qMost_is hq hp h1 h2]; rfl
    have hsm := (unhide H).small p hp
    obtain ⟨M, hM⟩ : ∃ M, rowsOf L p = M := ⟨_, rfl⟩
    rw [hM] at hr hsm h1 e1
    replace e1 := hide e1
    rcases hr.addr with ⟨_, e⟩ | ⟨g, cap, rfl, _⟩
    · rw [e] at h1; simp at h1
    have hcl := hide (AnyG.slices_Clone_int Try.shClone g 0 M.length cap M W1 (Nat.le_refl _) (by omega) (fun j hj => by
      have := hr.cell (i := j) (j := 0) (x := M[j]) (List.getElem?_eq_getElem hj) rfl
      rw [Nat.mul_one, Nat.add_zero] at this
      rw [Nat.zero_add, this]
      simp [List.getD_eq_getElem?_getD, List.getElem?_eq_getElem hj]))
    replace K1 := hide K1
    clear hr hv h2 hM
    go_wp2_with fail
    refine (unhide hcl).mono ?_
    rintro e W2 ⟨v', rfl, hown, _, hB⟩
    rw [List.take_length] at hown
    have hR : Hid (Gr.Rw intE w.heap.size W2 v' M) := by
      refine Gr.Rw.mono (base := W1.heap.size) ?_ (unhide K1).size
      unfold Gr.Rw
      rw [rows_int]
      exact hown
    have K2 := hide ((unhide K1).then (Kp.ofBelow hB []))
    clear hown hB hcl
    go_wp2
    go_ret
    exact ⟨v', rfl, by rw [unhide e1]; exact unhide hR, unhide K2⟩
  · have e1 := hide (qReady_none hq h2)
    have hcl := hide (AnyG.slices_Clone_int_nil Try.shClone 0 0 W1)
    replace K1 := hide K1
    clear h2
    go_wp2_with fail
    refine (unhide hcl).mono ?_
    rintro e W2 ⟨rfl, hW⟩
    subst hW
    go_wp2
    go_ret
    exact ⟨_, rfl, by rw [unhide e1]; exact Gr.Rw.nil _ _, unhide K1⟩
/-- A row turned in its own place, the queue's cell as it was. -/
theorem QR.turn0 {base : Nat} {w w1 : World} {q : Nat} {vs : List Value} {F : Nat → List Int} (h : QR base w q vs F) {p : Nat} {v : Value} {M : List Int} (hv : vs[p]? = some v) (k : Kp v.ownBlock.toList w w1) (hr : Gr.Rw intE base w1 v M) (hM : M.length ≤ 65536) :
    QR base w1 q vs (upd F p M) ∧ QT q w w1 vs vs := by
  have hmem : ∀ g, v.ownBlock = some g → g ∈ blks vs := fun g e => blks_mem.2 ⟨v, List.mem_of_getElem? hv, e⟩
  have hq : Bk w1 q 27 vs := h.head.kept k (fun m => (h.row_ne (hmem q (Option.mem_toList.1 m))).1 rfl)
  refine ⟨⟨hq, h.len, fun i u hu => ?_, h.apart, h.new, fun i hi => ?_⟩, ⟨k.mono (fun i m => List.mem_cons_of_mem _ (hmem i (Option.mem_toList.1 m))), fun g m => .inl m⟩⟩
  · unfold upd
    by_cases e : i = p
    · subst e
      rw [hv] at hu
      cases hu
      rw [if_pos rfl]
      exact hr
    · rw [if_neg e]
      exact (h.own i u hu).kept k (fun g hg m => e (h.apart i p u v g hu hv hg (Option.mem_toList.1 m)))
  · unfold upd
    split
    · exact hM
    · exact h.small i hi
theorem Try.isizeInt : (Try.prog.info? 3).map (·.size) = some 1 := by kernel_rfl
/-- copy, as one step of a region that draws: the very world. -/
theorem step_copyG {ops : Array Oper} {o : Oper} {a : Act} {w : World} {K : Act → World → Prop} {Q : Exit → Act → World → Prop} {X : Prop} (hgd : o.guard = none) (d s : Operand)
    (ho : o.op = .call { callee := .builtin .copy, args := #[d, s], argTypes := #[24, 24] })
    (g off dLen dCap : Nat) (ad : Addr) (sLen sCap : Nat) (hd : a.eval d = .slice (some ⟨g, off, none⟩) dLen dCap) (hs : a.eval s = .slice (some ad) sLen sCap)
    (cur : Array Value) (hg : w.heap[g]? = some (.cells cur 3 (0, 0))) (cs : List Value) (hn : cs.length = Nat.min sLen dLen) (hsrc : ∀ j v, cs[j]? = some v → w.cell? (ad.add j) = some v) (hfit : off + cs.length ≤ cur.size) (h1 : ∀ v ∈ cs, v.oneCell' = true)
    (h : K (a.put o.dst (goInt cs.length)) (w.setRow g (cur.toList.take off ++ cs ++ cur.toList.drop (off + cs.length)).toArray)) :
    if Region.wanted o (yielded ops a.tmps) = true then Oper.wp Try.prog o a w K Q else X := by
  have hw : Region.wanted o (yielded ops a.tmps) = true := by simp [Region.wanted, hgd]
  rw [if_pos hw]
  have hrun := run_copy_row (P := Try.prog) w 24 24 o.type 3 g off dLen dCap ad sLen sCap cur 3 cs Try.underlying24 Try.isizeInt hg hn hsrc hfit h1
  unfold Oper.wp
  simp only [execOp, ho, resolve, invoke, builtin, Sem.run_bind, Sem.run_pure, Result.andThen_ok, List.map_toArray, List.map_cons, List.map_nil, hd, hs, hrun]
  exact h
theorem rot_list {C : List Value} {M : List Int} {k : Nat} {t : Int} (hC : C.take M.length = M.map (Value.int .i64)) (hl : M.length ≤ C.length) (hk : k < M.length) :
    (((C.take k ++ (M.drop (k + 1)).map (Value.int .i64) ++ C.drop (k + ((M.drop (k + 1)).map (Value.int .i64)).length)).set (M.length - 1) (.int .i64 t)).take M.length = (M.eraseIdx k ++ [t]).map (Value.int .i64)) ∧
    ((C.take k ++ (M.drop (k + 1)).map (Value.int .i64) ++ C.drop (k + ((M.drop (k + 1)).map (Value.int .i64)).length)).set (M.length - 1) (.int .i64 t)).length = C.length := by
  have e1 : ((M.drop (k + 1)).map (Value.int .i64)).length = M.length - (k + 1) := by simp
  have e2 : k + (M.length - (k + 1)) = M.length - 1 := by omega
  have eA : C.take k ++ (M.drop (k + 1)).map (Value.int .i64) = (M.eraseIdx k).map (Value.int .i64) := by
    rw [List.eraseIdx_eq_take_drop_succ, List.map_append]
    congr 1
    have : C.take k = (C.take M.length).take k := by rw [List.take_take, Nat.min_eq_left (by omega)]
    rw [this, hC, List.map_take]
  rw [e1, e2, eA]
  have eL : ((M.eraseIdx k).map (Value.int .i64)).length = M.length - 1 := by rw [List.length_map, List.length_eraseIdx, if_pos hk]
  obtain ⟨b, B, hB⟩ : ∃ b B, C.drop (M.length - 1) = b :: B := ⟨_, _, List.drop_eq_getElem_cons (show M.length - 1 < C.length by omega)⟩
  have hBl : B.length = C.length - M.length := by
    have := congrArg List.length hB
    rw [List.length_drop, List.length_cons] at this
    omega
  rw [hB, List.set_append_right _ _ (by omega), eL, Nat.sub_self, List.set_cons_zero]
  constructor
  · rw [List.take_append, eL, List.take_of_length_le (by omega), show M.length - (M.length - 1) = 1 by omega, List.take_succ_cons, List.take_zero, List.map_append]
    rfl
  · rw [List.length_append, eL, List.length_cons, hBl]
    omega
end Go.Proofs.Ytennmoaaieedpaa
