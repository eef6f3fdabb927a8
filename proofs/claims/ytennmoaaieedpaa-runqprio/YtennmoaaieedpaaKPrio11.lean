/- The walk of RunqPrio. -/
import Derived.Test.YtennmoaaieedpaaKPrioM
import Derived.Test.YtennmoaaieedpaaKQIn
import Derived.Test.YtennmoaaieedpaaKRef
import Derived.Test.YtennmoaaieedpaaKArgs
namespace Go.Proofs.Ytennmoaaieedpaa
open Go.RowKit
set_option linter.unusedVariables false
set_option linter.unusedSimpArgs false
/-- A row of integers as cells. -/
def ivL (q : Nat → Int) (n : Nat) : List Value := (List.range n).map fun j : Nat => Value.int .i64 (q j)
theorem ivL_get (q : Nat → Int) {n j : Nat} (h : j < n) : (ivL q n)[j]? = some (.int .i64 (q j)) := by
  unfold ivL
  rw [List.getElem?_map, List.getElem?_range h]
  rfl
theorem ivL_congr {q q' : Nat → Int} {n : Nat} (h : ∀ j, j < n → q j = q' j) : ivL q n = ivL q' n := by
  unfold ivL
  exact List.map_congr_left fun j hj => by rw [h j (List.mem_range.1 hj)]
theorem ivL_len (q : Nat → Int) (n : Nat) : (ivL q n).length = n := by unfold ivL; simp
theorem ivL_set (q : Nat → Int) {n k : Nat} (h : k < n) (v : Int) : (ivL q n).set k (.int .i64 v) = ivL (setP q k v) n := by
  apply List.ext_getElem?
  intro j
  rw [List.getElem?_set]
  by_cases e : k = j
  · subst e
    rw [if_pos rfl, if_pos (by rw [ivL_len]; exact h), ivL_get _ h]
    unfold setP
    rw [if_pos rfl]
  · rw [if_neg e]
    by_cases hj : j < n
    · rw [ivL_get _ hj, ivL_get _ hj]
      unfold setP
      rw [if_neg (fun q => e q.symm)]
    · rw [List.getElem?_eq_none (by rw [ivL_len]; omega), List.getElem?_eq_none (by rw [ivL_len]; omega)]
theorem make_ints (c : Int) (n : Nat) (h : c = (n : Int)) (hn : n ≤ 100000) : ∃ C : Array Value, C.toList = ivL (fun _ => 0) n ∧ ∀ w : World,
    Sem.run Try.prog (Instr.makeSlice 24 (.int .i64 c) (.int .i64 c)) w = .ok (.slice (some ⟨w.heap.size, 0, none⟩) n n) (w.alloc (.cells C 3)) := by
  subst h
  refine ⟨_, ?_, run_make_row' (P := Try.prog) 24 3 (.int .i64 0) 8 Try.underlying24 Try.infoIntG rfl .i64 .i64 n (by omega) (by omega)⟩
  rw [toList_madeCells_one]
  apply List.ext_getElem?
  intro j
  by_cases hj : j < n
  · rw [ivL_get _ hj, List.getElem?_replicate, if_pos hj]
  · rw [List.getElem?_eq_none (by simp; omega), List.getElem?_eq_none (by rw [ivL_len]; omega)]
theorem QIn.of2 {w W : World} {C : Array Value} (k : Kp [] w W) : QIn [W.heap.size + 1] w W.heap.size [] ((W.alloc (.cells #[.slice none 0 0, .slice none 0 0, .slice none 0 0, .slice none 0 0, .slice none 0 0, .slice none 0 0, .slice none 0 0, .slice none 0 0] 27)).alloc (.cells C 3)) := by
  refine ⟨(k.alloc _).alloc _, .nil, by simp, ⟨_, ((QR.start w.heap.size W k.size).rows (fun i _ => rfl)).grew ((Kp.refl [] _).alloc _), fun g m => ?_⟩, fun n m => by rw [List.mem_singleton.1 m]; simp⟩
  obtain ⟨v, hv, e⟩ := blks_mem.1 m
  have : v = .slice none 0 0 := by simpa using hv
  rw [this] at e
  cases e
theorem ints_at {w w' : World} {a : Option Addr} {zs : List Int} (h : Ints .i64 w a zs) (k : Kp [] w w') {j : Nat} (hj : j < zs.length) : ∃ b off, a = some ⟨b, off, none⟩ ∧ w'.cell? ⟨b, off + j, none⟩ = some (.int .i64 (zs.getD j 0)) := by
  obtain ⟨_, _, hz | ⟨b, off, rfl, hc⟩⟩ := h
  · omega
  · exact ⟨b, off, rfl, k.cell (hc j hj)⟩
set_option maxHeartbeats 400000 in
theorem qprc_long (a0 : Option Addr) (len cap : Nat) (k z : Int) (w : World) (hl : len < 1 ∨ 20 < len) :
    Calls Try.prog 5 #[.slice a0 len cap, .int .i64 k, .int .i64 z] w fun e w' => e = .returned (.bool true) ∧ Below w.heap.size w w' := by
  by_cases h : len < 1
  · have h2 : (len : Int) < 1 := by omega
    clear hl h
    go_enter Try.func5, Try.ntmps5
    go_wp2_with fail
    refine (first_calls _).mono ?_
    rintro e W0 ⟨rfl, K0⟩
    go_wp2
    go_ret
    exact ⟨rfl, K0.below (Nat.le_refl _) (by simp)⟩
  · have h1 : decide ((len : Int) < 1) = false := decide_eq_false (by omega)
    have h2 : (20 : Int) < (len : Int) := by omega
    clear hl h
    go_enter Try.func5, Try.ntmps5
    go_wp2_with fail
    refine (first_calls _).mono ?_
    rintro e W0 ⟨rfl, K0⟩
    go_wp2
    go_ret
    exact ⟨rfl, K0.below (Nat.le_refl _) (by simp)⟩
set_option maxRecDepth 10000 in
set_option maxHeartbeats 20000000 in
theorem qprc_in (a0 : Option Addr) (len cap : Nat) (zs : List Int) (k0 z0 : Int) (w : World) (hl : 1 ≤ len) (hl2 : len ≤ 20) (hz : zs.length = len) (hI : Ints .i64 w a0 zs) :
    Calls Try.prog 5 #[.slice a0 len cap, .int .i64 k0, .int .i64 z0] w fun e w' => e = .returned (.bool true) ∧ Below w.heap.size w w' := by
  have h1 : decide ((len : Int) < 1) = false := decide_eq_false (by omega)
  have h2 : decide ((20 : Int) < (len : Int)) = false := decide_eq_false (by omega)
  have HI := hide hI
  replace hz := hide hz
  clear hI
  go_enter Try.func5, Try.ntmps5
  go_wp2_with fail
  refine (first_calls _).mono ?_
  rintro e W0 ⟨rfl, K0⟩
  replace K0 := hide K0
  obtain ⟨C, hC, hmk⟩ := make_ints (len : Int) len rfl (by omega)
  have X0 := hide (QIn.of2 (C := C) (unhide K0))
  have B0 : Hid (Bk ((W0.alloc (.cells #[.slice none 0 0, .slice none 0 0, .slice none 0 0, .slice none 0 0, .slice none 0 0, .slice none 0 0, .slice none 0 0, .slice none 0 0] 27)).alloc (.cells C 3)) (W0.heap.size + 1) 3 (ivL (fun _ => 0) len)) := by
    unfold Hid
    rw [← hC]
    have := Bk.newA (W0.alloc (.cells #[.slice none 0 0, .slice none 0 0, .slice none 0 0, .slice none 0 0, .slice none 0 0, .slice none 0 0, .slice none 0 0, .slice none 0 0] 27)) 3 C
    rwa [World.size_alloc] at this
  have hnew : Hid (w.heap.size ≤ W0.heap.size) := (unhide K0).size
  go_wp2_with fail
  generalize (W0.alloc (.cells #[.slice none 0 0, .slice none 0 0, .slice none 0 0, .slice none 0 0, .slice none 0 0, .slice none 0 0, .slice none 0 0, .slice none 0 0] 27)).alloc (.cells C 3) = V1 at *
  generalize W0.heap.size = t at *
  clear K0 hmk hC
  obtain ⟨p, hp⟩ : ∃ p : Nat → Int, ∀ j, p j = zs.getD j 0 % 8 := ⟨_, fun _ => rfl⟩
  have hpb : Hid (∀ j, 0 ≤ p j ∧ p j < 8) := fun j => by rw [hp]; omega
  replace hp := hide hp
  go_loopg [10] len (fun m i wr => ∃ (j : Nat) (q : Nat → Int), j ≤ len ∧ m = len - j ∧ i = .int .i64 j ∧ (∀ i, i < j → q i = p i) ∧ QIn [t + 1] w t (prQ p j) wr ∧ Bk wr (t + 1) 3 (ivL q len))
  case atStart => exact ⟨0, fun _ => 0, Nat.zero_le _, rfl, rfl, fun i hi => by omega, unhide X0, unhide B0⟩
  case round =>
    obtain ⟨j, q, hj, rfl, rfl, hq, hX, hB⟩ := hrel
    clear X0 B0
    by_cases hlt : j < len
    · have b1 : (j : Int) < (len : Int) := by omega
      have b2 : ((j : Int)).toNat = j := Int.toNat_natCast j
      obtain ⟨bb, off, rfl, cz⟩ := ints_at (unhide HI) hX.kp (j := j) (by rw [unhide hz]; exact hlt)
      have hpj := hide ((unhide hp j).symm)
      have hadd := hide (prQ_add (unhide hpb j))
      have hlen : Hid ((prQ p j).length < 65536) := by unfold Hid; rw [prQ_len]; omega
      have cq := hB.cell (ivL_get q hlt)
      have fq := hB.frozen j
      have X1 := hide (hX.beside (w' := wr.setCell ⟨t + 1, j, none⟩ (.int .i64 (p j))) ((Kp.refl [t + 1] wr).setCell (.inl (by simp)) _) hB (by omega) (.inr (by simp)) (by have := unhide hnew; omega))
      have B1 : Hid (Bk (wr.setCell ⟨t + 1, j, none⟩ (.int .i64 (p j))) (t + 1) 3 (ivL (setP q j (p j)) len)) := by
        unfold Hid
        rw [← ivL_set q hlt]
        exact hB.set j _
      have hq' : Hid (∀ i, i < j + 1 → setP q j (p j) i = p i) := by
        intro i hi
        unfold setP
        by_cases e : i = j
        · subst e; rw [if_pos rfl]
        · rw [if_neg e]; exact hq i (by omega)
      obtain ⟨x, hx⟩ : ∃ x, p j = x := ⟨_, rfl⟩
      rw [hx] at hpj hadd X1 B1 hq'
      clear hX hB hq hx
      go_wp2_with fail
      refine (number_to _ _ _ _ (by decide) (by decide) (unhide hpj)).mono ?_
      rintro e W1 ⟨rfl, hW⟩
      subst hW
      go_wp2_with fail
      generalize World.setCell _ _ _ = V2 at *
      refine (qadd_in (L' := prQ p (j + 1)) (is := true) (unhide X1) (unhide hlen) (by rw [unhide hadd]; exact Option.getD_some) (by rw [unhide hadd]; exact Option.isSome_some)).mono ?_
      rintro e W3 ⟨rfl, X3, S3⟩
      have B3 := hide (S3.bk (unhide B1) (by omega) (.inr (by simp)))
      replace X3 := hide X3
      clear S3
      go_wp2
      go_roundg (len - (j + 1))
      case measure => omega
      case rel => exact ⟨j + 1, _, by omega, rfl, by go_num, unhide hq', unhide X3, unhide B3⟩
    · have b1 : decide ((j : Int) < (len : Int)) = false := decide_eq_false (by omega)
      have ej : j = len := by omega
      rw [ej] at hX hq
      rw [ivL_congr hq] at hB
      clear hq ej
      obtain ⟨k, hk⟩ : ∃ k : Nat, k0 % (len : Int) = (k : Int) := ⟨(k0 % (len : Int)).toNat, by have := Int.emod_nonneg k0 (show (len : Int) ≠ 0 by omega); omega⟩
      have hkl : k < len := by have := Int.emod_lt_of_pos k0 (show (0 : Int) < (len : Int) by omega); omega
      obtain ⟨z, hzz⟩ : ∃ z, z0 % 8 = z := ⟨_, rfl⟩
      have hzb : 0 ≤ z ∧ z < 8 := by omega
      have hd : Hid ((0 : Int) < (len : Int) ∧ (len : Int) ≤ 4294967296) := by unfold Hid; omega
      replace hk := hide hk
      replace hzz := hide hzz
      have X1 := hide hX
      have B1 := hide hB
      have c1 := hB.cell (ivL_get p hkl)
      obtain ⟨was, hwas⟩ : ∃ was, p k = was := ⟨_, rfl⟩
      rw [hwas] at c1
      have b2 : ((k : Int)).toNat = k := Int.toNat_natCast k
      have b3 : (k : Int) < (len : Int) := by omega
      have hset := hide (aftQ_set (p := p) hkl hzb)
      clear hX hB
      go_wp2_with fail
      refine (number_to _ _ _ _ (unhide hd).1 (unhide hd).2 (unhide hk)).mono ?_
      rintro e W1 ⟨rfl, hW⟩
      subst hW
      go_wp2_with fail
      refine (number_to _ _ _ _ (by decide) (by decide) (unhide hzz)).mono ?_
      rintro e W1 ⟨rfl, hW⟩
      subst hW
      go_wp2_with fail
      refine (qset_in (L' := aftQ p len k z) (is := true) (unhide X1) (by rw [unhide hset]; exact Option.getD_some) (by rw [unhide hset]; exact Option.isSome_some)).mono ?_
      rintro e W3 ⟨rfl, X3, S3⟩
      have B3 := S3.bk (unhide B1) (by omega) (.inr (by simp))
      have c3 := B3.cell (ivL_get p hkl)
      have f3 := B3.frozen k
      have X4 := hide (X3.beside (w' := W3.setCell ⟨t + 1, k, none⟩ (.int .i64 z)) ((Kp.refl [t + 1] W3).setCell (.inl (by simp)) _) B3 (by omega) (.inr (by simp)) (by have := unhide hnew; omega))
      have B4 : Hid (Bk (W3.setCell ⟨t + 1, k, none⟩ (.int .i64 z)) (t + 1) 3 (ivL (setP p k z) len)) := by
        unfold Hid
        rw [← ivL_set p hkl]
        exact B3.set k _
      clear X3 S3 X1 B1 c1 B3
      go_wp2_with fail
      generalize World.setCell _ _ _ = V2 at *
      clear c3 f3
      have hr0 : Hid (∀ j, 0 ≤ setP p k z j) := fun j => by unfold setP; split; exact hzb.1; exact (unhide hpb j).1
      have hend := hide (endP_is (p := p) hkl (z := z) (fun j _ => unhide hr0 j))
      obtain ⟨r, hr⟩ : ∃ r, setP p k z = r := ⟨_, rfl⟩
      have hendd : Hid (endP p len k z = wantP r (mxP r len) k (p k == z) len ++ if z = mxP r len ∧ p k ≠ z then [10 + (k : Int)] else []) := by rw [← hr]; rfl
      rw [hr] at B4
      rw [hwas] at hendd
      replace hend := hide ((unhide hend).trans (unhide hendd))
      have hmem : Hid (qPr (aftQ p len k z) (10 + (k : Int)) = some z) := by
        have hm : (10 + (k : Int), z) ∈ aftQ p len k z := (aftQ_mem hkl).2 ⟨k, hkl, by unfold setP; rw [if_pos rfl]⟩
        unfold Hid
        cases e : qPr (aftQ p len k z) (10 + (k : Int)) with
        | none => exact (qAt_none (qPr_none e) _ hm).elim
        | some y =>
          obtain ⟨_, _, hi⟩ := qPr_some e
          rw [q_one (unhide X4).ok.nd (List.mem_of_getElem? hi) hm]
      obtain ⟨L, hL⟩ : ∃ L, aftQ p len k z = L := ⟨_, rfl⟩
      rw [hL] at hend hmem X4
      clear hr0 hset hL hendd hr hwas
      go_loopg [13, 14] len (fun m v i wr => ∃ j : Nat, j ≤ len ∧ m = len - j ∧ i = .int .i64 j ∧ v = .int .i64 (mxP r j) ∧ V2 = wr)
      case atStart => exact ⟨0, Nat.zero_le _, rfl, rfl, rfl, rfl⟩
      case round =>
        obtain ⟨j1, hj1, rfl, rfl, rfl, rfl⟩ := hrel
        by_cases hlt1 : j1 < len
        · have d1 : (j1 : Int) < (len : Int) := by omega
          have d2 : ((j1 : Int)).toNat = j1 := Int.toNat_natCast j1
          have c4 := (unhide B4).cell (ivL_get r hlt1)
          have hM : Hid (mxP r (j1 + 1) = max (mxP r j1) (r j1)) := rfl
          obtain ⟨m0, hm0⟩ : ∃ m0, mxP r j1 = m0 := ⟨_, rfl⟩
          obtain ⟨x, hx⟩ : ∃ x, r j1 = x := ⟨_, rfl⟩
          rw [hm0, hx] at hM
          rw [hx] at c4
          rw [hm0]
          clear hm0 hx
          go_wp2
          all_goals
            go_roundg (len - (j1 + 1))
            case measure => omega
            case rel => exact ⟨j1 + 1, by omega, rfl, by go_num, by rw [unhide hM], rfl⟩
        · have d1 : decide ((j1 : Int) < (len : Int)) = false := decide_eq_false (by omega)
          have ej : j1 = len := by omega
          subst ej
          obtain ⟨m, hm⟩ : ∃ m, mxP r j1 = m := ⟨_, rfl⟩
          rw [hm] at hend ⊢
          clear hm
          go_wp2_with fail
          go_loopg [15, 16] j1 (fun mm v i wx => ∃ j : Nat, j ≤ j1 ∧ mm = j1 - j ∧ i = .int .i64 j ∧ Gr.Rw intE V2.heap.size wx v (wantP r m k (was == z) j) ∧ Kp [] V2 wx)
          case atStart => exact ⟨0, Nat.zero_le _, rfl, rfl, Gr.Rw.nil _ _, Kp.refl _ _⟩
          case round =>
            obtain ⟨j2, hj2, rfl, rfl, hP, hK⟩ := hrel
            have Xr := (unhide X4).grew hK
            have Br := (unhide B4).kept hK (by simp)
            by_cases hlt2 : j2 < j1
            · have d3 : (j2 : Int) < (j1 : Int) := by omega
              have d4 : ((j2 : Int)).toNat = j2 := Int.toNat_natCast j2
              have c5 := Br.cell (ivL_get r hlt2)
              have hlen : Hid ((wantP r m k (was == z) j2).length ≤ 20) := by have := wantP_len r m k (was == z) j2; unfold Hid; omega
              obtain ⟨x, hx⟩ : ∃ x, r j2 = x := ⟨_, rfl⟩
              rw [hx] at c5
              obtain ⟨q1, e1⟩ : ∃ q1, (x == m) = q1 := ⟨_, rfl⟩
              obtain ⟨q2, e2⟩ : ∃ q2, (j2 == k) = q2 := ⟨_, rfl⟩
              obtain ⟨q3, e3⟩ : ∃ q3, (was == z) = q3 := ⟨_, rfl⟩
              have e2' : ((j2 : Int) == (k : Int)) = q2 := by rw [← e2, Bool.eq_iff_iff]; simp only [beq_iff_eq]; omega
              have e4 : (x != m) = !q1 := by rw [← e1]; rfl
              have e5 : (j2 != k) = !q2 := by rw [← e2]; rfl
              have e5' : ((j2 : Int) != (k : Int)) = !q2 := by rw [← e2']; rfl
              have hgo : Hid ((r j2 == m && (j2 != k || (was == z))) = (q1 && (!q2 || q3))) := by unfold Hid; rw [hx, e1, e5, e3]
              replace hP := hide hP
              replace hK := hide hK
              clear Xr Br hx
              obtain ⟨qq, hqq⟩ : ∃ qq, (q1 && (!q2 || q3)) = qq := ⟨_, rfl⟩
              cases qq with
              | false =>
                have hmore := hide (wantP_no ((unhide hgo).trans hqq))
                cases q1 <;> cases q2 <;> cases q3 <;> first
                  | (exfalso; revert hqq; decide)
                  | (go_wp2
                     go_roundg (j1 - (j2 + 1))
                     case measure => omega
                     case rel => exact ⟨j2 + 1, by omega, rfl, by go_num, by rw [unhide hmore]; exact unhide hP, unhide hK⟩)
              | true =>
                have hmore := hide (wantP_yes ((unhide hgo).trans hqq))
                cases q1 <;> cases q2 <;> cases q3 <;> first
                  | (exfalso; revert hqq; decide)
                  | (go_wp2_with (first
                      | (at_builtin; refine Gr.list_app (E := intE) Try.underlying24 Try.infoIntG rfl (by decide) (by decide) rfl _ _ rfl V2.heap.size _ _ (wantP r m k (was == z) j2) [10 + (j2 : Int)] rfl rfl ((unhide hP).grew ((Kp.refl [] _).alloc _)) (Gr.src_one (Bk.new _ 3 [.int .i64 (10 + (j2 : Int))]) rfl) (by have := unhide hlen; simp; omega) (by have := (unhide hK).size; simp; omega) ?_)
                      | go_in)
                     intro v' w1 hown' hgrow hnil
                     have hP1 : Hid (Gr.Rw intE V2.heap.size w1 v' (wantP r m k (was == z) (j2 + 1))) := by
                       unfold Hid
                       rw [unhide hmore, e3]
                       exact hown'
                     have hK2 := hide (Gr.kp_grown ((unhide hK).alloc _) hgrow (fun k hk => ((unhide hP).lt hk).1))
                     clear hP hK hmore hown' hgrow hnil
                     go_wp2
                     go_roundg (j1 - (j2 + 1))
                     case measure => omega
                     case rel => exact ⟨j2 + 1, by omega, rfl, by go_num, unhide hP1, unhide hK2⟩)
            · have d3 : decide ((j2 : Int) < (j1 : Int)) = false := decide_eq_false (by omega)
              have ej : j2 = j1 := by omega
              subst ej
              obtain ⟨M, hM⟩ : ∃ M, wantP r m k (was == z) j2 = M := ⟨_, rfl⟩
              have hMl : M.length ≤ 20 := by rw [← hM]; have := wantP_len r m k (was == z) j2; omega
              rw [hM] at hP hend
              obtain ⟨av, cv, ev⟩ := hP.form
              subst ev
              replace hMl := hide hMl
              replace hP := hide hP
              replace hK := hide hK
              replace Xr := hide Xr
              clear hM Br
              obtain ⟨q1, e1⟩ : ∃ q1, (z == m) = q1 := ⟨_, rfl⟩
              obtain ⟨q3, e3⟩ : ∃ q3, (was == z) = q3 := ⟨_, rfl⟩
              have e3' : (was != z) = !q3 := by rw [← e3]; rfl
              by_cases hfin : z = m ∧ was ≠ z
              · rw [if_pos hfin] at hend
                obtain rfl : q1 = true := by rw [← e1]; simp [hfin.1]
                obtain rfl : q3 = false := by rw [← e3]; exact beq_eq_false_iff_ne.2 hfin.2
                replace hfin := hide hfin
                go_wp2_with (first
                  | (at_builtin; refine Gr.list_app (E := intE) Try.underlying24 Try.infoIntG rfl (by decide) (by decide) rfl _ _ rfl V2.heap.size _ _ M [10 + (k : Int)] rfl rfl ((unhide hP).grew ((Kp.refl [] _).alloc _)) (Gr.src_one (Bk.new _ 3 [.int .i64 (10 + (k : Int))]) rfl) (by have := unhide hMl; simp; omega) (by have := (unhide hK).size; simp; omega) ?_)
                  | go_in)
                intro v' w1 hown' hgrow hnil
                have hrd : Hid (qReady L = M ++ [10 + (k : Int)]) := unhide hend
                have hrl : Hid ((M ++ [10 + (k : Int)]).length ≤ 21) := by have := unhide hMl; unfold Hid; simp; omega
                have Vf := hide (IV.of hown' (by have := unhide hMl; simp; omega))
                have Xf := hide ((unhide X4).grew (Gr.kp_grown ((unhide hK).alloc _) hgrow (fun k hk => ((unhide hP).lt hk).1)))
                obtain ⟨M2, hM2⟩ : ∃ M2, M ++ [10 + (k : Int)] = M2 := ⟨_, rfl⟩
                rw [hM2] at hrd hrl Vf
                clear hP hK hown' hgrow hnil hend hM2 Xr
                go_wp2_with fail
                refine (qprio_in (p := z) (is := true) (unhide Xf) (by rw [unhide hmem]; exact Option.getD_some) (by rw [unhide hmem]; exact Option.isSome_some)).mono ?_
                rintro e Y1 ⟨rfl, KY⟩
                have Y1X := hide ((unhide Xf).grew KY)
                have Y1V := hide ((unhide Vf).kept KY)
                clear KY Xf Vf
                go_wp2_with fail
                refine (qready_in (unhide Y1X) (unhide hrd)).mono ?_
                rintro e Y2 ⟨v2, rfl, RY, KY⟩
                have Y2V := hide (IV.of RY (by have := unhide hrl; omega))
                have Y2W := hide ((unhide Y1V).kept KY)
                have Y2K := hide ((unhide Y1X).kp.then KY)
                clear KY RY Y1X Y1V
                go_wp2_with fail
                refine (sameint_calls (unhide Y2V) (unhide Y2W)).mono ?_
                rintro e Y3 ⟨rfl, KY⟩
                have Y3K := hide ((unhide Y2K).then KY)
                clear KY Y2V Y2W Y2K
                go_wp2
                go_ret
                exact ⟨rfl, (unhide Y3K).below (Nat.le_refl _) (by simp)⟩
              · rw [if_neg hfin, List.append_nil] at hend
                have hrd : Hid (qReady L = M) := unhide hend
                have hrl : Hid (M.length ≤ 21) := by have := unhide hMl; unfold Hid; omega
                have Vf := hide (IV.of (unhide hP) (by have := unhide hMl; omega))
                have Xf := Xr
                have hq : ¬ (q1 = true ∧ q3 = false) := by rw [← e1, ← e3]; simpa using hfin
                replace hfin := hide hfin
                clear hP hK hend Xr
                cases q1 <;> cases q3 <;> first
                  | exact absurd ⟨rfl, rfl⟩ hq
                  | (clear hq
                     go_wp2_with fail
                     refine (qprio_in (p := z) (is := true) (unhide Xf) (by rw [unhide hmem]; exact Option.getD_some) (by rw [unhide hmem]; exact Option.isSome_some)).mono ?_
                     rintro e Y1 ⟨rfl, KY⟩
                     have Y1X := hide ((unhide Xf).grew KY)
                     have Y1V := hide ((unhide Vf).kept KY)
                     clear KY Xf Vf
                     go_wp2_with fail
                     refine (qready_in (unhide Y1X) (unhide hrd)).mono ?_
                     rintro e Y2 ⟨v2, rfl, RY, KY⟩
                     have Y2V := hide (IV.of RY (by have := unhide hrl; omega))
                     have Y2W := hide ((unhide Y1V).kept KY)
                     have Y2K := hide ((unhide Y1X).kp.then KY)
                     clear KY RY Y1X Y1V
                     go_wp2_with fail
                     refine (sameint_calls (unhide Y2V) (unhide Y2W)).mono ?_
                     rintro e Y3 ⟨rfl, KY⟩
                     have Y3K := hide ((unhide Y2K).then KY)
                     clear KY Y2V Y2W Y2K
                     go_wp2
                     go_ret
                     exact ⟨rfl, (unhide Y3K).below (Nat.le_refl _) (by simp)⟩)
theorem qprc_walk (a0 : Option Addr) (len cap : Nat) (zs : List Int) (k0 z0 : Int) (w : World) (hz : zs.length = len) (hI : Ints .i64 w a0 zs) (_ : (Lit.int .i64 k0).wf = true) (_ : (Lit.int .i64 z0).wf = true) :
    Calls Try.prog 5 #[.slice a0 len cap, .int .i64 k0, .int .i64 z0] w fun e w' => e = .returned (.bool true) ∧ Below w.heap.size w w' := by
  by_cases h : len < 1 ∨ 20 < len
  · exact qprc_long a0 len cap k0 z0 w h
  · exact qprc_in a0 len cap zs k0 z0 w (by omega) (by omega) hz hI
end Go.Proofs.Ytennmoaaieedpaa
