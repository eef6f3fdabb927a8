/- The program's queue: Pick. -/
import Derived.Test.YtennmoaaieedpaaKRq4
namespace Go.Proofs.Ytennmoaaieedpaa
open Go.RowKit
set_option linter.unusedVariables false
set_option maxHeartbeats 400000 in
theorem ppick_no {base : Nat} {w : World} {q : Nat} {vs : List Value} {L : List (Int × Int)} (h : QR base w q vs (rowsOf L)) (hq : QOk L) (hn : qReady L = []) (i : Int) :
    Calls Try.prog 14 #[.pointer (some ⟨q, 0, none⟩), .int .i64 i] w fun e w' => e = .returned (.tuple #[.int .i64 0, .bool false]) ∧ Kp [] w w' := by
  have HG := hide (greatest_calls h)
  have hL := (qMost_nil hq).1 hn
  subst hL
  clear h
  go_enter Try.func14, Try.ntmps14
  go_wp2_with fail
  refine (unhide HG).mono ?_
  rintro e W1 ⟨K1, ⟨p, v, hp, hv, rfl, h1, h2⟩ | ⟨rfl, h2⟩⟩
  · exact absurd h1 (by simp [rowsOf, qRow])
  · replace K1 := hide K1
    clear h2
    go_wp2
    exact bodyPost_ret (v := .tuple #[.int .i64 0, .bool false]) (by simp [results, Try.results14, go_sem, *]) rfl ⟨rfl, unhide K1⟩
theorem rows_turn {L : List (Int × Int)} (hq : QOk L) {t : Int} {n : Nat} (hm : (t, (n : Int)) ∈ L) (hn : qMost L = (n : Int)) (i : Nat) : upd (rowsOf L) n (((rowsOf L n).filter fun x => x != t) ++ [t]) i = rowsOf (qTurn L t) i := by
  unfold upd rowsOf qTurn
  rw [qRow_add, hn, qRow_del]
  by_cases h : i = n
  · subst h; rw [if_pos rfl, if_pos rfl]
  · rw [if_neg h, if_neg (by omega), qRow_other hq hm (by omega)]
set_option maxRecDepth 4000 in
set_option maxHeartbeats 4000000 in
theorem ppick_yes {base : Nat} {w : World} {q : Nat} {vs : List Value} {L : List (Int × Int)} (h : QR base w q vs (rowsOf L)) (hq : QOk L) {i t : Int} (ht : (qReady L)[qPlace L i]? = some t) :
    Calls Try.prog 14 #[.pointer (some ⟨q, 0, none⟩), .int .i64 i] w (QC base q vs (qTurn L t) w (.tuple #[.int .i64 t, .bool true])) := by
  have hne : qReady L ≠ [] := by intro e; rw [e] at ht; simp at ht
  have hpl := qPlace_is hne i
  have hmem : (t, qMost L) ∈ L := qRow_mem.1 (List.mem_of_getElem? ht)
  have HG := hide (greatest_calls h)
  obtain ⟨k, hk⟩ : ∃ k, qPlace L i = k := ⟨_, rfl⟩
  rw [hk] at ht hpl
  have H := hide h
  clear h hk
  go_enter Try.func14, Try.ntmps14
  go_wp2_with fail
  refine (unhide HG).mono ?_
  rintro e W1 ⟨K1, ⟨p, v, hp, hv, rfl, h1, h2⟩ | ⟨rfl, h2⟩⟩
  rotate_left
  · exact absurd (qReady_none hq h2) hne
  have hmo := qMost_is hq hp h1 h2
  have e1 : qReady L = rowsOf L p := by unfold qReady; rw [hmo]; rfl
  rw [e1] at ht hpl
  have hf := hide (show (rowsOf L p).eraseIdx k = (rowsOf L p).filter fun x => x != t from filt_erase (qRow_nd hq (p : Int)) ht)
  rw [hmo] at hmem
  have R1 := (unhide H).grew K1
  have hr := R1.own p v hv
  have hsm := R1.small p hp
  obtain ⟨M, hM⟩ : ∃ M, rowsOf L p = M := ⟨_, rfl⟩
  have hfin : Hid (∀ j, upd (rowsOf L) p (M.eraseIdx k ++ [t]) j = rowsOf (qTurn L t) j) := by
    intro j
    rw [← hM, unhide hf]
    exact rows_turn hq hmem hmo j
  rw [hM] at hr ht hpl h1 hsm
  have hkl : k < M.length := (List.getElem?_eq_some_iff.1 ht).1
  rcases hr.2 with ⟨_, hz⟩ | ⟨g, cap, cur, e, hb, hg, m1, m2, m3, m4⟩
  · omega
  subst e
  rw [Nat.mul_one, rows_int] at m4
  rw [Nat.mul_one] at m3
  have ck := hr.cell (j := 0) ht rfl
  rw [Nat.mul_one, Nat.add_zero] at ck
  have hrot := hide (rot_list (t := t) m4 (by have h0 : cur.toList.length = cur.size := Array.length_toList; omega) hkl)
  have hsrc : Hid (∀ j v, ((M.drop (k + 1)).map (Value.int .i64))[j]? = some v → W1.cell? ⟨g, k + 1 + j, none⟩ = some v) := by
    intro j v hj
    rw [List.getElem?_map, List.getElem?_drop, Option.map_eq_some_iff] at hj
    obtain ⟨x, hx, rfl⟩ := hj
    have := hr.cell (j := 0) hx rfl
    rwa [Nat.mul_one, Nat.add_zero] at this
  have mcap : cap ≤ 9223372036854775807 := by unfold maxLen at m2; omega
  obtain ⟨nn, hnn⟩ : ∃ nn, M.length = nn := ⟨_, rfl⟩
  have hnn' := hide hnn
  rw [hnn] at hr h1 hsm hkl m1 m4 hpl hrot ⊢
  have R1' := hide R1
  replace hr := hide hr
  replace hg := hide hg
  replace hv := hide hv
  replace K1 := hide K1
  have b0 : ((nn : Int) == 0) = false := beq_eq_false_iff_ne.2 (by omega)
  have b1 : decide ((k : Int) < 0) = false := decide_eq_false (by omega)
  have b2 : (k : Int) < (nn : Int) := by omega
  have b3 : ((k : Int)).toNat = k := Int.toNat_natCast k
  have b4 : ¬ ((nn : Int) = 0) := by omega
  have b5 : (0 : Int) ≤ (k : Int) + 1 := by omega
  have b5w : IntKind.i64.wrap ((k : Int) + 1) = (k : Int) + 1 := by rw [IntKind.wrap_i64]; omega
  have b6 : ¬ (cap = k) := by omega
  have b7 : (k : Int) ≤ (cap : Int) := by omega
  have b8 : (k : Int) ≤ (nn : Int) := by omega
  have b9 : (k : Int) + 1 ≤ (nn : Int) := by omega
  have b10 : (nn : Int) ≤ (cap : Int) := by omega
  have b11 : ((k : Int) + 1).toNat = k + 1 := by omega
  have hsz := hide m3
  clear R1 h1 h2 hmo e1 hM hnn HG H hne hf ht m3 m4
  have hmod := hpl.symm
  clear hpl
  go_wp2_with fail
  have hcl : Hid (((M.drop (k + 1)).map (Value.int .i64)).length = Nat.min (nn - (k + 1)) (nn - k)) := by
    have := unhide hnn'
    unfold Hid
    rw [List.length_map, List.length_drop, this]
    exact (Nat.min_eq_left (by omega)).symm
  have hone : Hid (∀ v ∈ (M.drop (k + 1)).map (Value.int .i64), v.oneCell' = true) := by
    intro v hv
    obtain ⟨x, _, rfl⟩ := List.mem_map.1 hv
    rfl
  have hfit : Hid (k + ((M.drop (k + 1)).map (Value.int .i64)).length ≤ cur.size) := by
    have := unhide hnn'
    have := unhide hsz
    unfold Hid
    rw [List.length_map, List.length_drop]
    omega
  obtain ⟨W3, hW3⟩ : ∃ W3, W1.drew.setRow g (cur.toList.take k ++ (M.drop (k + 1)).map (Value.int .i64) ++ cur.toList.drop (k + ((M.drop (k + 1)).map (Value.int .i64)).length)).toArray = W3 := ⟨_, rfl⟩
  have hW := hide hW3
  have B3 : Bk W3 g 3 (cur.toList.take k ++ (M.drop (k + 1)).map (Value.int .i64) ++ cur.toList.drop (k + ((M.drop (k + 1)).map (Value.int .i64)).length)) := by
    rw [← hW3]
    exact Bk.setRow (vs := cur.toList) (show Bk W1.drew g 3 cur.toList from unhide hg) _
  have K3 : Hid (Kp [g] W1 W3) := by
    rw [← hW3]
    exact ((Kp.refl [g] W1).drew).setRow (.inl (by simp)) _
  have f3 := B3.frozen
  have l3 : nn - 1 < (cur.toList.take k ++ (M.drop (k + 1)).map (Value.int .i64) ++ cur.toList.drop (k + ((M.drop (k + 1)).map (Value.int .i64)).length)).length := by
    have h := (unhide hrot).2
    rw [List.length_set] at h
    have h0 : cur.toList.length = cur.size := Array.length_toList
    have := unhide hsz
    omega
  obtain ⟨mm, hmm⟩ : ∃ mm, nn - 1 = mm := ⟨_, rfl⟩
  rw [hmm] at l3 hrot
  have c3 := B3.cell (List.getElem?_eq_getElem l3)
  generalize ((cur.toList.take k ++ (M.drop (k + 1)).map (Value.int .i64) ++ cur.toList.drop (k + ((M.drop (k + 1)).map (Value.int .i64)).length))[mm]) = old at c3
  have b13 : (nn : Int) - 1 = (mm : Int) := by omega
  have b14 : ((mm : Int)).toNat = mm := Int.toNat_natCast mm
  have b15 : (mm : Int) < (nn : Int) := by omega
  have b16 : decide ((mm : Int) < 0) = false := decide_eq_false (by omega)
  have hlen : (M.eraseIdx k ++ [t]).length = nn := by
    have := unhide hnn'
    rw [List.length_append, List.length_eraseIdx, if_pos (by omega)]
    simp
    omega
  have hrow4 : Gr.Rw intE base (W3.setCell ⟨g, mm, none⟩ (.int .i64 t)) (.slice (some ⟨g, 0, none⟩) nn cap) (M.eraseIdx k ++ [t]) := by
    obtain ⟨h1, h2⟩ := unhide hrot
    have h0 : cur.toList.length = cur.size := Array.length_toList
    refine ⟨by rw [Gr.rows_len], .inr ⟨g, cap, _, by rw [hlen], hb, B3.set mm _, by omega, m2, ?_, ?_⟩⟩
    · rw [List.size_toArray, h2, h0, unhide hsz, Nat.mul_one]
    · rw [Nat.mul_one, rows_int, hlen]
      exact h1
  have hfinal : Hid (QR base (W3.setCell ⟨g, mm, none⟩ (.int .i64 t)) q vs (rowsOf (qTurn L t)) ∧ QT q w (W3.setCell ⟨g, mm, none⟩ (.int .i64 t)) vs vs) := by
    have hv' := unhide hv
    rw [unhide hnn'] at hv'
    obtain ⟨h1, h2⟩ := (unhide R1').turn0 hv' (w1 := W3.setCell ⟨g, mm, none⟩ (.int .i64 t)) ((unhide K3).then ((Kp.refl [g] W3).setCell (.inl (by simp)) _)) hrow4 (by omega)
    exact ⟨h1.rows (fun j _ => unhide hfin j), (QT.of (unhide K1)).trans h2⟩
  clear hrow4 hlen
  replace B3 := hide B3
  clear hW3 l3
  by_cases hck : cap = k + 1
  · have hnk : nn = k + 1 := by omega
    subst hck
    replace hcl : Hid (∀ d, ((M.drop (k + 1)).map (Value.int .i64)).length = Nat.min 0 d) := by
      intro d
      rw [unhide hcl, show nn - (k + 1) = 0 by omega]
      exact (Nat.zero_min _).trans (Nat.zero_min d).symm
    replace hnk := hide hnk
    have hsrc2 : Hid (∀ j v, ((M.drop (k + 1)).map (Value.int .i64))[j]? = some v → W1.drew.cell? ((⟨g, 0, none⟩ : Addr).add j) = some v) := by
      intro j v hj
      have h1 := (List.getElem?_eq_some_iff.1 hj).1
      rw [unhide hcl 0] at h1
      exact absurd h1 (Nat.not_lt_zero _)
    go_region_law ((refine step_copyG (by rfl) _ _ (by rfl) g k _ _ ⟨g, 0, none⟩ 0 _ (by rfl) (by rfl) cur (unhide hg) ((M.drop (k + 1)).map (Value.int .i64)) (unhide hcl _) (unhide hsrc2) (unhide hfit) (unhide hone) ?_; rw [unhide hW]))
    all_goals
      go_wp2
      exact bodyPost_ret (v := .tuple #[.int .i64 t, .bool true]) (by simp [results, Try.results14, go_sem, *]) rfl ⟨rfl, vs, (unhide hfinal).1, (unhide hfinal).2⟩
  · have hsrc2 : Hid (∀ j v, ((M.drop (k + 1)).map (Value.int .i64))[j]? = some v → W1.drew.cell? ((⟨g, k + 1, none⟩ : Addr).add j) = some v) := by
      intro j v hj
      rw [Addr.add_mid]
      exact unhide hsrc j v hj
    go_region_law ((refine step_copyG (by rfl) _ _ (by rfl) g k (nn - k) _ ⟨g, k + 1, none⟩ (nn - (k + 1)) _ (by rfl) (by rfl) cur (unhide hg) ((M.drop (k + 1)).map (Value.int .i64)) (unhide hcl) (unhide hsrc2) (unhide hfit) (unhide hone) ?_; rw [unhide hW]))
    all_goals
      go_wp2
      exact bodyPost_ret (v := .tuple #[.int .i64 t, .bool true]) (by simp [results, Try.results14, go_sem, *]) rfl ⟨rfl, vs, (unhide hfinal).1, (unhide hfinal).2⟩
theorem ppick {base : Nat} {w : World} {q : Nat} {vs : List Value} {L L' : List (Int × Int)} (h : QR base w q vs (rowsOf L)) (hq : QOk L) {i t : Int} {is : Bool} (h1 : qPicked L (qPick L i) = L') (h2 : (qPick L i).getD 0 = t) (h3 : (qPick L i).isSome = is) :
    Calls Try.prog 14 #[.pointer (some ⟨q, 0, none⟩), .int .i64 i] w (QC base q vs L' w (.tuple #[.int .i64 t, .bool is])) := by
  subst h1 h2 h3
  cases e : qPick L i with
  | none => exact (ppick_no h hq (qPick_none e) i).mono fun e w' ⟨q, K⟩ => by subst q; exact QC.same h K
  | some t => exact ppick_yes h hq e
end Go.Proofs.Ytennmoaaieedpaa
