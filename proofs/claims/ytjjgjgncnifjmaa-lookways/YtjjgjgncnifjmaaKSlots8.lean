/- The program's table: Drop. -/
import Derived.Test.YtjjgjgncnifjmaaKSlots7
namespace Go.Proofs.Ytjjgjgncnifjmaa
open Go.RowKit
set_option linter.unusedVariables false
theorem erase_key {L : List Sl} (hn : (L.map ppl).Nodup) {i : Nat} {x : Sl} (hx : L[i]? = some x) : L.eraseIdx i = L.filter fun y => !(ppl y == ppl x) := by
  induction L generalizing i with
  | nil => simp at hx
  | cons a L ih =>
    rw [List.map_cons, List.nodup_cons] at hn
    cases i with
    | zero =>
      simp at hx
      subst hx
      rw [List.eraseIdx_cons_zero, List.filter_cons_of_neg (by simp)]
      symm
      rw [List.filter_eq_self]
      intro y hy
      have : ppl y ≠ ppl a := fun e => hn.1 (List.mem_map.2 ⟨y, hy, e⟩)
      simpa using this
    | succ i =>
      simp at hx
      have hne : ppl a ≠ ppl x := fun e => hn.1 (List.mem_map.2 ⟨x, List.mem_of_getElem? hx, e.symm⟩)
      rw [List.eraseIdx_cons_succ, List.filter_cons_of_pos (by simpa using hne), ih hn.2 hx]
theorem without_map {L : List Sl} {f : Sl → Sl} (hf : ∀ x, ppl (f x) = ppl x) (q : Int × Int) : without q ((L.map f).map slKV) = ((L.filter fun y => !(ppl y == q)).map f).map slKV := by
  unfold without
  rw [List.filter_map, List.filter_map]
  congr 2
  refine List.filter_congr fun y _ => ?_
  show (!((slKV (f y)).1 == q)) = _
  have : (slKV (f y)).1 = ppl y := hf y
  rw [this]
theorem drop_map {L : List Sl} (hn : (L.map ppl).Nodup) {n s : Int} {i : Nat} {x : Sl} (ha : atL L n s = some i) (hx : L[i]? = some x) : without (n, s) ((L.map (reF n s x.u x.v)).map slKV) = (dropL L n s i x).map slKV := by
  rw [without_map (reF_key n s x.u x.v)]
  unfold dropL
  rw [erase_key hn hx]
  obtain ⟨y, hy, e1, e2⟩ := atL_some ha
  rw [hx] at hy
  cases hy
  have : ppl x = (n, s) := by unfold ppl; rw [e1, e2]
  rw [this]
theorem drop_rises {L : List Sl} (h : Rises (L.map ppl)) (n s : Int) (i : Nat) (x : Sl) : Rises ((dropL L n s i x).map ppl) := by
  unfold dropL
  have : ((L.eraseIdx i).map (reF n s x.u x.v)).map ppl = (L.eraseIdx i).map ppl := by rw [List.map_map]; exact List.map_congr_left fun y _ => reF_key n s x.u x.v y
  rw [this]
  unfold Rises at *
  exact List.Pairwise.sublist ((List.eraseIdx_sublist L i).map _) h
theorem drop_len (L : List Sl) (n s : Int) (i : Nat) (x : Sl) : (dropL L n s i x).length ≤ L.length := by
  unfold dropL
  rw [List.length_map]
  exact (List.eraseIdx_sublist L i).length_le
theorem drop_ok {L : List Sl} (h : ∀ x ∈ L, placeOk x.n x.s = true) (n s : Int) (i : Nat) (x : Sl) : ∀ y ∈ dropL L n s i x, placeOk y.n y.s = true := by
  intro y hy
  unfold dropL at hy
  obtain ⟨y0, hy0, rfl⟩ := List.mem_map.1 hy
  have e := reF_key n s x.u x.v y0
  have e1 : (reF n s x.u x.v y0).n = y0.n := congrArg Prod.fst e
  have e2 : (reF n s x.u x.v y0).s = y0.s := congrArg Prod.snd e
  rw [e1, e2]
  exact h y0 ((List.eraseIdx_sublist L i).subset hy0)
theorem ok_notN {n s : Int} (h : placeOk n s = true) : isN n s = false := by
  rw [placeOk_iff] at h
  unfold placeP at h
  unfold isN
  have : n ≠ 0 := by omega
  simp [this]
set_option maxHeartbeats 1000000 in
theorem drop_no {w : World} {t : Nat} {m : Option Nat} {L : List Sl} (h : PT w t m L) {n s : Int} (hi : PIn (n, s)) (hn : atL L n s = none) :
    Calls Try.prog 18 #[.pointer (some ⟨t, 0, none⟩), .agg #[.int .i64 n, .int .i64 s]] w fun e w' => e = .returned (.bool false) ∧ Kp [] w w' := by
  have hS : Hid (∀ w', Kp [] (w.alloc (.cells #[.int .i64 n, .int .i64 s] 40)) w' → w'.cell? ⟨t, 0, none⟩ = some (.map m) ∧ w'.cell? ⟨w.heap.size, 0, none⟩ = some (.int .i64 n) ∧ w'.cell? ⟨w.heap.size, 1, none⟩ = some (.int .i64 s) ∧ (Instr.lookup 48 (.map m) (.agg #[.int .i64 n, .int .i64 s]) true).run Try.prog w' = .ok (.tuple #[.agg #[.int .i64 0, .int .i64 0, .int .i64 0, .int .i64 0, .int .i64 0, .int .i64 0, .int .i64 0], .bool false]) w') := fun w' K => by
    obtain ⟨B, K1⟩ := kp_box K
    have P1 := h.grew K1
    exact ⟨P1.head.cell rfl, B.cell rfl, B.cell rfl, P1.no hi hn true⟩
  have K0 := hide (Kp.refl [] (w.alloc (.cells #[.int .i64 n, .int .i64 s] 40)))
  have KW := hide ((Kp.refl [] w).alloc (.cells #[.int .i64 n, .int .i64 s] 40))
  clear h
  go_enter Try.func18, Try.ntmps18
  go_wp2_with fail
  have hw1 : (w.alloc (.cells #[.int .i64 n, .int .i64 s] 40)).heap.size = w.heap.size + 1 := by simp
  generalize w.alloc (.cells #[.int .i64 n, .int .i64 s] 40) = w1 at *
  go_region_held3 (fun w' => w'.cell? ⟨t, 0, none⟩ = some (.map m) ∧ w'.cell? ⟨w.heap.size, 0, none⟩ = some (.int .i64 n) ∧ w'.cell? ⟨w.heap.size, 1, none⟩ = some (.int .i64 s) ∧ (Instr.lookup 48 (.map m) (.agg #[.int .i64 n, .int .i64 s]) true).run Try.prog w' = .ok (.tuple #[.agg #[.int .i64 0, .int .i64 0, .int .i64 0, .int .i64 0, .int .i64 0, .int .i64 0, .int .i64 0], .bool false]) w') (first | exact unhide hS _ ((unhide K0).drew) | exact unhide hS _ (((unhide K0).alloc _).drew)) (fail)
  all_goals
    go_wp2
    go_ret
    exact ⟨rfl, ((unhide KW).alloc _).drew⟩
def PDropP (w : World) (t : Nat) (m : Option Nat) (L : List Sl) (e : Ending) (w' : World) : Prop := e = .returned (.bool true) ∧ PT w' t m L ∧ Kp m.toList w w'
set_option maxRecDepth 4000 in
set_option maxHeartbeats 2000000 in
theorem drop_yes {w : World} {t : Nat} {m : Option Nat} {L : List Sl} (h : PT w t m L) {n s : Int} {i : Nat} {x : Sl} (ha : atL L n s = some i) (hx : L[i]? = some x) :
    Calls Try.prog 18 #[.pointer (some ⟨t, 0, none⟩), .agg #[.int .i64 n, .int .i64 s]] w (PDropP w t m (dropL L n s i x)) := by
  have hmem := List.mem_of_getElem? hx
  obtain ⟨y, hy, e1, e2⟩ := atL_some ha
  rw [hx] at hy
  cases hy
  have hok := h.ok x hmem
  rw [e1, e2] at hok
  have hi := pin_ok hok
  obtain ⟨b, rfl⟩ : ∃ b, m = some b := by
    cases m with
    | none => have e : L = [] := h.mo; subst e; cases hmem
    | some b => exact ⟨b, rfl⟩
  obtain ⟨k, o, z, bb, r, xu, xv, hV⟩ : ∃ k o z bb r xu xv : Int, x = ⟨n, s, xu, xv, k, o, z, bb, r⟩ := by
    obtain ⟨a0, a1, a2, a3, a4, a5, a6, a7, a8⟩ := x
    subst e1 e2
    exact ⟨_, _, _, _, _, _, _, rfl⟩
  have hS : Hid (∀ w', Kp [] (w.alloc (.cells #[.int .i64 n, .int .i64 s] 40)) w' → w'.cell? ⟨t, 0, none⟩ = some (.map (some b)) ∧ w'.cell? ⟨w.heap.size, 0, none⟩ = some (.int .i64 n) ∧ w'.cell? ⟨w.heap.size, 1, none⟩ = some (.int .i64 s) ∧ (Instr.lookup 48 (.map (some b)) (.agg #[.int .i64 n, .int .i64 s]) true).run Try.prog w' = .ok (.tuple #[.agg #[.int .i64 k, .int .i64 o, .int .i64 z, .int .i64 bb, .int .i64 r, .int .i64 xu, .int .i64 xv], .bool true]) w') := fun w' K => by
    obtain ⟨B, K1⟩ := kp_box K
    have P1 := h.grew K1
    have := P1.yes ha hx true
    rw [hV] at this
    exact ⟨P1.head.cell rfl, B.cell rfl, B.cell rfl, this⟩
  have hN := hide (ok_notN hok)
  have hdm := drop_map (rises_nd h.rises') ha hx
  have hfin : Hid (∀ w', Bk w' t 50 [.map (some b)] → Mp w' b (without (n, s) ((L.map (reF n s xu xv)).map slKV)) → PT w' t (some b) (dropL L n s i x)) := fun w' q1 q2 => by
    have exu : x.u = xu := by rw [hV]
    have exv : x.v = xv := by rw [hV]
    rw [exu, exv] at hdm
    rw [hdm] at q2
    exact ⟨q1, q2, drop_rises h.rises' n s i x, Nat.le_trans (drop_len L n s i x) h.small, drop_ok h.ok n s i x⟩
  have hmemR : Hid (((n, s), holdV (reF n s xu xv x)) ∈ (L.map (reF n s xu xv)).map slKV) := List.mem_map.2 ⟨reF n s xu xv x, List.mem_map.2 ⟨x, hmem, rfl⟩, by
    have := reF_key n s xu xv x
    unfold slKV
    have e3 : ((reF n s xu xv x).n, (reF n s xu xv x).s) = ppl x := this
    rw [e3]
    unfold ppl
    rw [e1, e2]⟩
  have K0 := hide (Kp.refl [] (w.alloc (.cells #[.int .i64 n, .int .i64 s] 40)))
  have KW := hide ((Kp.refl [] w).alloc (.cells #[.int .i64 n, .int .i64 s] 40))
  have NB := hide (Bk.new w 40 [.int .i64 n, .int .i64 s])
  have H := hide h
  have hmt := hide (h.ne b rfl)
  have hmlt := hide (h.lt b rfl)
  have hw1 : (w.alloc (.cells #[.int .i64 n, .int .i64 s] 40)).heap.size = w.heap.size + 1 := by simp
  have n0 : ∀ oo, ((w.alloc (.cells #[.int .i64 n, .int .i64 s] 40)).alloc oo).cell? ⟨w.heap.size, 0, none⟩ = some (.int .i64 n) := fun oo => ((unhide NB).alloc oo).cell rfl
  have n1 : ∀ oo, ((w.alloc (.cells #[.int .i64 n, .int .i64 s] 40)).alloc oo).cell? ⟨w.heap.size, 1, none⟩ = some (.int .i64 s) := fun oo => ((unhide NB).alloc oo).cell rfl
  clear h hV e1 e2 hmem hx ha hok hdm
  go_enter Try.func18, Try.ntmps18
  go_wp2_with fail
  generalize w.alloc (.cells #[.int .i64 n, .int .i64 s] 40) = w1 at *
  go_region_held3 (fun w' => w'.cell? ⟨t, 0, none⟩ = some (.map (some b)) ∧ w'.cell? ⟨w.heap.size, 0, none⟩ = some (.int .i64 n) ∧ w'.cell? ⟨w.heap.size, 1, none⟩ = some (.int .i64 s) ∧ (Instr.lookup 48 (.map (some b)) (.agg #[.int .i64 n, .int .i64 s]) true).run Try.prog w' = .ok (.tuple #[.agg #[.int .i64 k, .int .i64 o, .int .i64 z, .int .i64 bb, .int .i64 r, .int .i64 xu, .int .i64 xv], .bool true]) w') (first | exact unhide hS _ ((unhide K0).drew) | exact unhide hS _ (((unhide K0).alloc _).drew)) (fail)
  all_goals
    have K2 := hide (((unhide KW).alloc (.cells #[.int .i64 k, .int .i64 o, .int .i64 z, .int .i64 bb, .int .i64 r, .int .i64 xu, .int .i64 xv] 68)).drew)
    have N2 := hide ((unhide NB).alloc (.cells #[.int .i64 k, .int .i64 o, .int .i64 z, .int .i64 bb, .int .i64 r, .int .i64 xu, .int .i64 xv] 68))
    go_wp2_with fail
    refine (rehang_calls ((unhide H).grew (unhide K2)) (unhide hN)).mono ?_
    rintro e W3 ⟨rfl, hT3, hK3⟩
    have N3 := hide ((unhide N2).kept (w := (w1.alloc (.cells #[.int .i64 k, .int .i64 o, .int .i64 z, .int .i64 bb, .int .i64 r, .int .i64 xu, .int .i64 xv] 68)).drew) hK3 (by have := unhide hmlt; simp; omega))
    have K4 := hide ((unhide K2).trans hK3 (T := (some b).toList) (by simp) (fun _ q => .inl q))
    obtain ⟨W6, hdl, hM6, hK6⟩ := Mp.del (w := W3.drew) hT3.mo Try.underlying48 (unhide hmemR) 0
    have hdel : ∀ ty, (Builtin.delete_ #[48, 40] ty #[.map (some b), .agg #[.int .i64 n, .int .i64 s]]).run Try.prog W3.drew = .ok (.tuple #[]) W6 := fun ty => hdl
    have hB3 := hide hT3.head
    have hnb : Hid (t ∉ [b] ∧ w.heap.size ∉ [b]) := by
      have q1 := unhide hmt
      have q2 := unhide hmlt
      unfold Hid
      simp
      exact ⟨fun e => q1 e.symm, by omega⟩
    have hS2 : Hid (∀ w', Kp [b] W3 w' → w'.cell? ⟨t, 0, none⟩ = some (.map (some b)) ∧ w'.cell? ⟨w.heap.size, 0, none⟩ = some (.int .i64 n) ∧ w'.cell? ⟨w.heap.size, 1, none⟩ = some (.int .i64 s)) := fun w' kk => ⟨((unhide hB3).kept kk (unhide hnb).1).cell rfl, ((unhide N3).kept kk (unhide hnb).2).cell rfl, ((unhide N3).kept kk (unhide hnb).2).cell rfl⟩
    have K5 := hide (Kp.refl [b] W3).drew
    have K6 := hide ((Kp.refl [b] W3).drew.then hK6)
    replace hM6 := hide hM6
    have cc := unhide hS2 _ (unhide K5)
    clear hdl hK6 hT3 hK3 n0 n1
    go_wp2_with fail
    go_region_held3 (fun w' => w'.cell? ⟨t, 0, none⟩ = some (.map (some b)) ∧ w'.cell? ⟨w.heap.size, 0, none⟩ = some (.int .i64 n) ∧ w'.cell? ⟨w.heap.size, 1, none⟩ = some (.int .i64 s)) (first | exact unhide hS2 _ (unhide K5) | exact unhide hS2 _ (unhide K6)) (fail)
    all_goals
      go_wp2
      go_ret
      exact ⟨rfl, unhide hfin _ ((unhide hB3).kept (unhide K6) (unhide hnb).1) (unhide hM6), (unhide K4).then (unhide K6)⟩
end Go.Proofs.Ytjjgjgncnifjmaa
