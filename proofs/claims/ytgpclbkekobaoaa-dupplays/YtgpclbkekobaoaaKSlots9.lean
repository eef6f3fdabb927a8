/- The program's table: Move. -/
import Derived.Test.YtgpclbkekobaoaaKSlots6
namespace Go.Proofs.Ytgpclbkekobaoaa
open Go.RowKit
set_option linter.unusedVariables false
theorem two_box (w : World) (n s n' s' : Int) : Bk ((w.alloc (.cells #[.int .i64 n, .int .i64 s] 35)).alloc (.cells #[.int .i64 n', .int .i64 s'] 35)) w.heap.size 35 [.int .i64 n, .int .i64 s] ∧ Bk ((w.alloc (.cells #[.int .i64 n, .int .i64 s] 35)).alloc (.cells #[.int .i64 n', .int .i64 s'] 35)) (w.heap.size + 1) 35 [.int .i64 n', .int .i64 s'] ∧ Kp [] w ((w.alloc (.cells #[.int .i64 n, .int .i64 s] 35)).alloc (.cells #[.int .i64 n', .int .i64 s'] 35)) ∧ ((w.alloc (.cells #[.int .i64 n, .int .i64 s] 35)).alloc (.cells #[.int .i64 n', .int .i64 s'] 35)).heap.size = w.heap.size + 2 :=
  ⟨(Bk.new w _ [.int .i64 n, .int .i64 s]).alloc _, Bk.next (p := w.heap.size + 1) _ _ [.int .i64 n', .int .i64 s'] (by simp), ((Kp.refl [] w).alloc _).alloc _, by simp⟩
theorem move_map {L : List Sl} (hn : (L.map ppl).Nodup) {n s n' s' : Int} {i : Nat} {x : Sl} (ha : atL L n s = some i) (hx : L[i]? = some x) (hself : ¬ (x.u = n ∧ x.v = s)) :
    (without (n, s) ((L.map (reF n s n' s')).map slKV) ++ [((n', s'), holdV x)]).Perm ((moveL L n s n' s' i x).map slKV) := by
  rw [without_map (reF_key n s n' s')]
  unfold moveL
  obtain ⟨y, hy, e1, e2⟩ := atL_some ha
  rw [hx] at hy
  cases hy
  have hp : ppl x = (n, s) := by unfold ppl; rw [e1, e2]
  rw [← hp, ← erase_key hn hx]
  have h1 := ((ins_perm (L.eraseIdx i) { x with n := n', s := s' }).map (reF n s n' s')).map slKV
  refine List.Perm.trans ?_ h1.symm
  rw [List.map_append, List.map_append]
  have e3 : reF n s n' s' { x with n := n', s := s' } = { x with n := n', s := s' } := by unfold reF; exact if_neg hself
  rw [List.map_cons, e3]
  exact List.Perm.refl _
theorem move_rises {L : List Sl} (h : Rises (L.map ppl)) {n s n' s' : Int} {i : Nat} {x : Sl} (hn' : atL L n' s' = none) : Rises ((moveL L n s n' s' i x).map ppl) := by
  unfold moveL
  have e : ((insL (L.eraseIdx i) { x with n := n', s := s' }).map (reF n s n' s')).map ppl = (insL (L.eraseIdx i) { x with n := n', s := s' }).map ppl := by rw [List.map_map]; exact List.map_congr_left fun y _ => reF_key n s n' s' y
  rw [e]
  refine ins_rises ?_ ?_
  · unfold Rises at *
    exact List.Pairwise.sublist ((List.eraseIdx_sublist L i).map _) h
  · exact at_none_iff.2 fun y hy => at_none_iff.1 hn' y ((List.eraseIdx_sublist L i).subset hy)
theorem move_len {L : List Sl} {n s n' s' : Int} {i : Nat} {x : Sl} (hx : L[i]? = some x) : (moveL L n s n' s' i x).length = L.length := by
  unfold moveL
  have hi := (List.getElem?_eq_some_iff.1 hx).1
  rw [List.length_map, ins_len, List.length_eraseIdx]
  rw [if_pos hi]
  omega
theorem move_ok {L : List Sl} (h : ∀ x ∈ L, placeOk x.n x.s = true) {n s n' s' : Int} {i : Nat} {x : Sl} (hp : placeOk n' s' = true) : ∀ y ∈ moveL L n s n' s' i x, placeOk y.n y.s = true := by
  intro y hy
  unfold moveL at hy
  obtain ⟨y0, hy0, rfl⟩ := List.mem_map.1 hy
  have e := reF_key n s n' s' y0
  have e1 : (reF n s n' s' y0).n = y0.n := congrArg Prod.fst e
  have e2 : (reF n s n' s' y0).s = y0.s := congrArg Prod.snd e
  rw [e1, e2]
  rcases List.mem_append.1 ((ins_perm _ _).mem_iff.1 hy0) with q | q
  · exact h y0 ((List.eraseIdx_sublist L i).subset q)
  · simp at q
    rw [q]
    exact hp
set_option maxHeartbeats 1000000 in
theorem move_no {w : World} {t : Nat} {m : Option Nat} {L : List Sl} (h : PT w t m L) {n s n' s' : Int} (hi : PIn (n, s)) (hi' : PIn (n', s')) (hn : atL L n s = none ∨ placeOk n' s' = false ∨ atL L n' s' ≠ none) :
    Calls Try.prog 42 #[.pointer (some ⟨t, 0, none⟩), .agg #[.int .i64 n, .int .i64 s], .agg #[.int .i64 n', .int .i64 s']] w fun e w' => e = .returned (.bool false) ∧ Kp [] w w' := by
  obtain ⟨k, o, z, bb, r, xu, xv, hV⟩ := hv_form (lookS L n s)
  obtain ⟨is, hIs⟩ : ∃ is, (lookS L n s).isSome = is := ⟨_, rfl⟩
  have hf : Hid (is = true → freeB L n' s' = false) := fun e => by
    rw [← hIs, look_iff] at e
    rw [← Bool.not_eq_true, free_iff]
    rintro ⟨q1, q2⟩
    rcases hn with q | q | q
    · exact e q
    · rw [q] at q1; cases q1
    · exact q q2
  obtain ⟨b0, b1, k0, z0⟩ := two_box w n s n' s'
  have hS : Hid (∀ w', Kp [] ((w.alloc (.cells #[.int .i64 n, .int .i64 s] 35)).alloc (.cells #[.int .i64 n', .int .i64 s'] 35)) w' → (fun w' => w'.cell? ⟨t, 0, none⟩ = some (.map m) ∧ w'.cell? ⟨w.heap.size, 0, none⟩ = some (.int .i64 n) ∧ w'.cell? ⟨w.heap.size, 1, none⟩ = some (.int .i64 s) ∧ (Instr.lookup 25 (.map m) (.agg #[.int .i64 n, .int .i64 s]) true).run Try.prog w' = .ok (.tuple #[.agg #[.int .i64 k, .int .i64 o, .int .i64 z, .int .i64 bb, .int .i64 r, .int .i64 xu, .int .i64 xv], .bool is]) w') w') := fun w' K => by
    have P1 := h.grew (k0.then K)
    refine ⟨P1.head.cell rfl, (b0.kept K (by simp)).cell rfl, (b0.kept K (by simp)).cell rfl, ?_⟩
    rw [← hV, ← hIs]
    exact P1.look hi true
  have K0 := hide (Kp.refl [] ((w.alloc (.cells #[.int .i64 n, .int .i64 s] 35)).alloc (.cells #[.int .i64 n', .int .i64 s'] 35)))
  have KW := hide k0
  have H := hide h
  have B1 := hide b1
  clear h hV hIs b0 b1 k0 hn
  go_enter Try.func42, Try.ntmps42
  go_wp2_with fail
  generalize (w.alloc (.cells #[.int .i64 n, .int .i64 s] 35)).alloc (.cells #[.int .i64 n', .int .i64 s'] 35) = w1 at *
  go_region_held3 (fun w' => w'.cell? ⟨t, 0, none⟩ = some (.map m) ∧ w'.cell? ⟨w.heap.size, 0, none⟩ = some (.int .i64 n) ∧ w'.cell? ⟨w.heap.size, 1, none⟩ = some (.int .i64 s) ∧ (Instr.lookup 25 (.map m) (.agg #[.int .i64 n, .int .i64 s]) true).run Try.prog w' = .ok (.tuple #[.agg #[.int .i64 k, .int .i64 o, .int .i64 z, .int .i64 bb, .int .i64 r, .int .i64 xu, .int .i64 xv], .bool is]) w') (first | exact unhide hS _ ((unhide K0).drew) | exact unhide hS _ (((unhide K0).alloc _).drew)) (fail)
  all_goals
    have K2 := hide (((unhide KW).alloc (.cells #[.int .i64 k, .int .i64 o, .int .i64 z, .int .i64 bb, .int .i64 r, .int .i64 xu, .int .i64 xv] 70)).drew)
    have n0 := ((unhide B1).alloc (.cells #[.int .i64 k, .int .i64 o, .int .i64 z, .int .i64 bb, .int .i64 r, .int .i64 xu, .int .i64 xv] 70)).cell (i := 0) rfl
    have n1 := ((unhide B1).alloc (.cells #[.int .i64 k, .int .i64 o, .int .i64 z, .int .i64 bb, .int .i64 r, .int .i64 xu, .int .i64 xv] 70)).cell (i := 1) rfl
    cases is
    · go_wp2
      go_ret
      exact ⟨rfl, unhide K2⟩
    · have hf' := hide (unhide hf rfl)
      go_wp2_with fail
      refine (free_to ((unhide H).grew (unhide K2)) hi' (unhide hf')).mono ?_
      rintro e W3 ⟨rfl, K3⟩
      have K4 := hide ((unhide K2).then K3)
      clear K3
      go_wp2
      go_ret
      exact ⟨rfl, unhide K4⟩
set_option maxRecDepth 4000 in
set_option maxHeartbeats 2000000 in
theorem move_yes {w : World} {t : Nat} {m : Option Nat} {L : List Sl} (h : PT w t m L) {n s n' s' : Int} {i : Nat} {x : Sl} (ha : atL L n s = some i) (hx : L[i]? = some x) (hp : placeOk n' s' = true) (hn' : atL L n' s' = none) (hself : ¬ (x.u = n ∧ x.v = s)) :
    Calls Try.prog 42 #[.pointer (some ⟨t, 0, none⟩), .agg #[.int .i64 n, .int .i64 s], .agg #[.int .i64 n', .int .i64 s']] w (PDropP w t m (moveL L n s n' s' i x)) := by
  have hmem := List.mem_of_getElem? hx
  have hmm := move_map (n' := n') (s' := s') (rises_nd h.rises') ha hx hself
  have hml := move_len (n := n) (s := s) (n' := n') (s' := s') hx
  obtain ⟨y, hy, e1, e2⟩ := atL_some ha
  rw [hx] at hy
  cases hy
  have hok := h.ok x hmem
  rw [e1, e2] at hok
  have hi := pin_ok hok
  obtain ⟨b, rfl⟩ : ∃ b, m = some b := by
    cases m with
    | none => have e : L = [] := h.mo; subst e; cases hmem
    | some b => exact ⟨b, rfl⟩
  obtain ⟨k, o, z, bb, r, xu, xv, hV⟩ : ∃ k o z bb r xu xv : Int, x = ⟨n, s, xu, xv, k, o, z, bb, r⟩ := by
    obtain ⟨a0, a1, a2, a3, a4, a5, a6, a7, a8⟩ := x
    subst e1 e2
    exact ⟨_, _, _, _, _, _, _, rfl⟩
  obtain ⟨b0, b1, k0, z0⟩ := two_box w n s n' s'
  have hS : Hid (∀ w', Kp [] ((w.alloc (.cells #[.int .i64 n, .int .i64 s] 35)).alloc (.cells #[.int .i64 n', .int .i64 s'] 35)) w' → (fun w' => w'.cell? ⟨t, 0, none⟩ = some (.map (some b)) ∧ w'.cell? ⟨w.heap.size, 0, none⟩ = some (.int .i64 n) ∧ w'.cell? ⟨w.heap.size, 1, none⟩ = some (.int .i64 s) ∧ (Instr.lookup 25 (.map (some b)) (.agg #[.int .i64 n, .int .i64 s]) true).run Try.prog w' = .ok (.tuple #[.agg #[.int .i64 k, .int .i64 o, .int .i64 z, .int .i64 bb, .int .i64 r, .int .i64 xu, .int .i64 xv], .bool true]) w') w') := fun w' K => by
    have P1 := h.grew (k0.then K)
    have := P1.yes ha hx true
    rw [hV] at this
    exact ⟨P1.head.cell rfl, (b0.kept K (by simp)).cell rfl, (b0.kept K (by simp)).cell rfl, this⟩
  have hfr := hide (free_iff.2 ⟨hp, hn'⟩)
  have hi' := pin_ok hp
  have hN := hide (ok_notN hok)
  have hfin : Hid (∀ w', Bk w' t 27 [.map (some b)] → Mp w' b (without (n, s) ((L.map (reF n s n' s')).map slKV) ++ [((n', s'), holdV x)]) → PT w' t (some b) (moveL L n s n' s' i x)) := fun w' q1 q2 =>
    ⟨q1, q2.perm hmm, move_rises h.rises' hn', by rw [hml]; exact h.small, move_ok h.ok hp⟩
  have hmemR : Hid (((n, s), holdV (reF n s n' s' x)) ∈ (L.map (reF n s n' s')).map slKV) := List.mem_map.2 ⟨reF n s n' s' x, List.mem_map.2 ⟨x, hmem, rfl⟩, by
    have := reF_key n s n' s' x
    unfold slKV
    have e3 : ((reF n s n' s' x).n, (reF n s n' s' x).s) = ppl x := this
    rw [e3]
    unfold ppl
    rw [e1, e2]⟩
  have hmiss : Hid (∀ p ∈ without (n, s) ((L.map (reF n s n' s')).map slKV), p.1 ≠ (n', s')) := by
    intro p hp' e
    obtain ⟨y0, hy0, rfl⟩ := List.mem_map.1 ((without_sub _ _).subset hp')
    obtain ⟨y1, hy1, rfl⟩ := List.mem_map.1 hy0
    have e3 : ppl (reF n s n' s' y1) = ppl y1 := reF_key n s n' s' y1
    have e4 : ppl (reF n s n' s' y1) = (n', s') := e
    rw [e3] at e4
    exact at_none_iff.1 hn' y1 hy1 ⟨congrArg Prod.fst e4, congrArg Prod.snd e4⟩
  have hVx : Hid (holdV x = .agg #[.int .i64 k, .int .i64 o, .int .i64 z, .int .i64 bb, .int .i64 r, .int .i64 xu, .int .i64 xv]) := by unfold Hid; rw [hV]; rfl
  have K0 := hide (Kp.refl [] ((w.alloc (.cells #[.int .i64 n, .int .i64 s] 35)).alloc (.cells #[.int .i64 n', .int .i64 s'] 35)))
  have KW := hide k0
  have B0 := hide b0
  have B1 := hide b1
  have H := hide h
  have hmt := hide (h.ne b rfl)
  have hmlt := hide (h.lt b rfl)
  clear h hV e1 e2 hmem hx ha hok hmm hml b0 b1 k0 hself hn'
  go_enter Try.func42, Try.ntmps42
  go_wp2_with fail
  generalize (w.alloc (.cells #[.int .i64 n, .int .i64 s] 35)).alloc (.cells #[.int .i64 n', .int .i64 s'] 35) = w1 at *
  go_region_held3 (fun w' => w'.cell? ⟨t, 0, none⟩ = some (.map (some b)) ∧ w'.cell? ⟨w.heap.size, 0, none⟩ = some (.int .i64 n) ∧ w'.cell? ⟨w.heap.size, 1, none⟩ = some (.int .i64 s) ∧ (Instr.lookup 25 (.map (some b)) (.agg #[.int .i64 n, .int .i64 s]) true).run Try.prog w' = .ok (.tuple #[.agg #[.int .i64 k, .int .i64 o, .int .i64 z, .int .i64 bb, .int .i64 r, .int .i64 xu, .int .i64 xv], .bool true]) w') (first | exact unhide hS _ ((unhide K0).drew) | exact unhide hS _ (((unhide K0).alloc _).drew)) (fail)
  all_goals
    have K2 := hide (((unhide KW).alloc (.cells #[.int .i64 k, .int .i64 o, .int .i64 z, .int .i64 bb, .int .i64 r, .int .i64 xu, .int .i64 xv] 70)).drew)
    have C0 : Hid (Bk (w1.alloc (.cells #[.int .i64 k, .int .i64 o, .int .i64 z, .int .i64 bb, .int .i64 r, .int .i64 xu, .int .i64 xv] 70)).drew w.heap.size 35 [.int .i64 n, .int .i64 s]) := (unhide B0).alloc _
    have C1 : Hid (Bk (w1.alloc (.cells #[.int .i64 k, .int .i64 o, .int .i64 z, .int .i64 bb, .int .i64 r, .int .i64 xu, .int .i64 xv] 70)).drew (w.heap.size + 1) 35 [.int .i64 n', .int .i64 s']) := (unhide B1).alloc _
    have C2 : Hid (Bk (w1.alloc (.cells #[.int .i64 k, .int .i64 o, .int .i64 z, .int .i64 bb, .int .i64 r, .int .i64 xu, .int .i64 xv] 70)).drew (w.heap.size + 2) 70 [.int .i64 k, .int .i64 o, .int .i64 z, .int .i64 bb, .int .i64 r, .int .i64 xu, .int .i64 xv]) := Bk.next (p := w.heap.size + 2) w1 70 [.int .i64 k, .int .i64 o, .int .i64 z, .int .i64 bb, .int .i64 r, .int .i64 xu, .int .i64 xv] z0
    generalize (w1.alloc (.cells #[.int .i64 k, .int .i64 o, .int .i64 z, .int .i64 bb, .int .i64 r, .int .i64 xu, .int .i64 xv] 70)).drew = wq at *
    have n0 := (unhide C1).cell (i := 0) rfl
    have n1 := (unhide C1).cell (i := 1) rfl
    go_wp2_with fail
    refine (free_to ((unhide H).grew (unhide K2)) hi' (unhide hfr)).mono ?_
    rintro e W3 ⟨rfl, K3⟩
    have D0 := hide ((unhide C0).kept K3 (by simp))
    have D1 := hide ((unhide C1).kept K3 (by simp))
    have D2 := hide ((unhide C2).kept K3 (by simp))
    have K4 := hide ((unhide K2).then K3)
    clear K3 n0 n1 C0 C1 C2
    have n0 := (unhide D1).cell (i := 0) rfl
    have n1 := (unhide D1).cell (i := 1) rfl
    have n2 := (unhide D0).cell (i := 0) rfl
    have n3 := (unhide D0).cell (i := 1) rfl
    go_wp2_with fail
    refine (rehang_calls ((unhide H).grew (unhide K4)) (unhide hN)).mono ?_
    rintro e W4 ⟨rfl, hT4, hK4⟩
    have hnb : Hid (t ∉ [b] ∧ w.heap.size ∉ [b] ∧ w.heap.size + 1 ∉ [b] ∧ w.heap.size + 2 ∉ [b]) := by
      have q1 := unhide hmt
      have q2 := unhide hmlt
      unfold Hid
      simp
      exact ⟨fun e => q1 e.symm, by omega, by omega, by omega⟩
    have E0 := hide ((unhide D0).kept hK4 (unhide hnb).2.1)
    have E1 := hide ((unhide D1).kept hK4 (unhide hnb).2.2.1)
    have E2 := hide ((unhide D2).kept hK4 (unhide hnb).2.2.2)
    have K5 := hide ((unhide K4).trans hK4 (T := (some b).toList) (by simp) (fun _ q => .inl q))
    obtain ⟨W6, hdl, hM6, hK6⟩ := Mp.del (w := W4.drew) hT4.mo Try.underlying25 (unhide hmemR) 0
    have hdel : ∀ ty, (Builtin.delete_ #[25, 35] ty #[.map (some b), .agg #[.int .i64 n, .int .i64 s]]).run Try.prog W4.drew = .ok (.tuple #[]) W6 := fun ty => hdl
    have hB4 := hide hT4.head
    have hS2 : Hid (∀ w', Kp [b] W4 w' → w'.cell? ⟨t, 0, none⟩ = some (.map (some b)) ∧ w'.cell? ⟨w.heap.size, 0, none⟩ = some (.int .i64 n) ∧ w'.cell? ⟨w.heap.size, 1, none⟩ = some (.int .i64 s)) := fun w' kk => ⟨((unhide hB4).kept kk (unhide hnb).1).cell rfl, ((unhide E0).kept kk (unhide hnb).2.1).cell rfl, ((unhide E0).kept kk (unhide hnb).2.1).cell rfl⟩
    have K6 := hide (Kp.refl [b] W4).drew
    have K7 := hide ((Kp.refl [b] W4).drew.then hK6)
    replace hM6 := hide hM6
    have cc := unhide hS2 _ (unhide K6)
    clear hdl hK6 hT4 hK4 n0 n1 n2 n3 D0 D1 D2
    go_wp2_with fail
    go_region_held3 (fun w' => w'.cell? ⟨t, 0, none⟩ = some (.map (some b)) ∧ w'.cell? ⟨w.heap.size, 0, none⟩ = some (.int .i64 n) ∧ w'.cell? ⟨w.heap.size, 1, none⟩ = some (.int .i64 s)) (first | exact unhide hS2 _ (unhide K6) | exact unhide hS2 _ (unhide K7)) (fail)
    all_goals
      obtain ⟨W8, hup0, hM8, hK8⟩ := Mp.put_miss (w := W6.drew) (unhide hM6) Try.underlying25 hi' (unhide hmiss) (holdV x)
      have hup : (Instr.mapUpdate 25 (.map (some b)) (.agg #[.int .i64 n', .int .i64 s']) (.agg #[.int .i64 k, .int .i64 o, .int .i64 z, .int .i64 bb, .int .i64 r, .int .i64 xu, .int .i64 xv])).run Try.prog W6.drew = .ok () W8 := by rw [unhide hVx] at hup0; exact hup0
      have hB6 := hide ((unhide hB4).kept (unhide K7) (unhide hnb).1)
      have F1 := hide ((unhide E1).kept (unhide K7) (unhide hnb).2.2.1)
      have F2 := hide ((unhide E2).kept (unhide K7) (unhide hnb).2.2.2)
      have hS3 : Hid (∀ w', Kp [b] W6 w' → (fun w' => w'.cell? ⟨t, 0, none⟩ = some (.map (some b)) ∧ w'.cell? ⟨w.heap.size + 1, 0, none⟩ = some (.int .i64 n') ∧ w'.cell? ⟨w.heap.size + 1, 1, none⟩ = some (.int .i64 s') ∧ w'.cell? ⟨w.heap.size + 2, 0, none⟩ = some (.int .i64 k) ∧ w'.cell? ⟨w.heap.size + 2, 1, none⟩ = some (.int .i64 o) ∧ w'.cell? ⟨w.heap.size + 2, 2, none⟩ = some (.int .i64 z) ∧ w'.cell? ⟨w.heap.size + 2, 3, none⟩ = some (.int .i64 bb) ∧ w'.cell? ⟨w.heap.size + 2, 4, none⟩ = some (.int .i64 r) ∧ w'.cell? ⟨w.heap.size + 2, 5, none⟩ = some (.int .i64 xu) ∧ w'.cell? ⟨w.heap.size + 2, 6, none⟩ = some (.int .i64 xv)) w') := fun w' kk => ⟨((unhide hB6).kept kk (unhide hnb).1).cell rfl, ((unhide F1).kept kk (unhide hnb).2.2.1).cell rfl, ((unhide F1).kept kk (unhide hnb).2.2.1).cell rfl, ((unhide F2).kept kk (unhide hnb).2.2.2).cell rfl, ((unhide F2).kept kk (unhide hnb).2.2.2).cell rfl, ((unhide F2).kept kk (unhide hnb).2.2.2).cell rfl, ((unhide F2).kept kk (unhide hnb).2.2.2).cell rfl, ((unhide F2).kept kk (unhide hnb).2.2.2).cell rfl, ((unhide F2).kept kk (unhide hnb).2.2.2).cell rfl, ((unhide F2).kept kk (unhide hnb).2.2.2).cell rfl⟩
      have K8 := hide (Kp.refl [b] W6).drew
      have K9 := hide ((Kp.refl [b] W6).drew.then hK8)
      replace hM8 := hide hM8
      have cd := unhide hS3 _ (unhide K8)
      clear hup0 hK8 cc hdel
      go_wp2_with fail
      go_region_held3 (fun w' => w'.cell? ⟨t, 0, none⟩ = some (.map (some b)) ∧ w'.cell? ⟨w.heap.size + 1, 0, none⟩ = some (.int .i64 n') ∧ w'.cell? ⟨w.heap.size + 1, 1, none⟩ = some (.int .i64 s') ∧ w'.cell? ⟨w.heap.size + 2, 0, none⟩ = some (.int .i64 k) ∧ w'.cell? ⟨w.heap.size + 2, 1, none⟩ = some (.int .i64 o) ∧ w'.cell? ⟨w.heap.size + 2, 2, none⟩ = some (.int .i64 z) ∧ w'.cell? ⟨w.heap.size + 2, 3, none⟩ = some (.int .i64 bb) ∧ w'.cell? ⟨w.heap.size + 2, 4, none⟩ = some (.int .i64 r) ∧ w'.cell? ⟨w.heap.size + 2, 5, none⟩ = some (.int .i64 xu) ∧ w'.cell? ⟨w.heap.size + 2, 6, none⟩ = some (.int .i64 xv)) (first | exact unhide hS3 _ (unhide K8) | exact unhide hS3 _ (unhide K9)) (fail)
      all_goals
        go_wp2
        go_ret
        exact ⟨rfl, unhide hfin _ ((unhide hB6).kept (unhide K9) (unhide hnb).1) (unhide hM8), ((unhide K5).then (unhide K7)).then (unhide K9)⟩
end Go.Proofs.Ytgpclbkekobaoaa
