/- The walk of ListHas. -/
import Derived.Test.YtldeonlonoiliaaKHasM12
import Derived.Test.YtldeonlonoiliaaKRef
import Derived.Deep.DeepCutAuto
import Derived.Deep.CutBlock
import Derived.Deep.RegionHeld3
namespace Go.Proofs.Ytldeonlonoiliaa
open Go.RowKit
set_option linter.unusedVariables false
set_option linter.unusedSimpArgs false
set_option maxHeartbeats 400000 in
theorem lhas_long (a0 : Option Addr) (len cap : Nat) (w : World) (hl : 40 < len) :
    Calls Try.prog 5 #[.slice a0 len cap] w fun e w' => e = .returned (.bool true) ∧ Below w.heap.size w w' := by
  have h2 : (40 : Int) < (len : Int) := by omega
  clear hl
  go_enter Try.func5, Try.ntmps5
  go_wp2_with fail
  refine (first_calls _).mono ?_
  rintro e W0 ⟨rfl, K0⟩
  go_wp2
  go_ret
  exact ⟨rfl, K0.below (Nat.le_refl _) (by simp)⟩
set_option maxRecDepth 10000 in
set_option maxHeartbeats 40000000 in
theorem lhas_in (a0 : Option Addr) (len cap : Nat) (zs : List Int) (w : World) (hl : len ≤ 40) (hz : zs.length = len) (hI : Ints .i64 w a0 zs) :
    Calls Try.prog 5 #[.slice a0 len cap] w fun e w' => e = .returned (.bool true) ∧ Below w.heap.size w w' := by
  have h2 : decide ((40 : Int) < (len : Int)) = false := decide_eq_false (by omega)
  have HI := hide hI
  replace hz := hide hz
  clear hI
  go_enter Try.func5, Try.ntmps5
  go_wp2_with fail
  refine (first_calls _).mono ?_
  rintro e W0 ⟨rfl, K0⟩
  obtain ⟨t, et⟩ : ∃ t, W0.heap.size = t := ⟨_, rfl⟩
  have X0 := hide (Hs.start K0 et)
  clear K0
  go_wp2_with fail
  generalize W0.alloc (.cells #[.map none, .int .i64 0, .int .i64 0] 28) = W1 at *
  go_loopg [5, 6] len (fun m v i wr => ∃ (j : Nat) (W : List Int), j ≤ len ∧ m = len - j ∧ i = .int .i64 j ∧ Hs w t W v wr ∧ W.length ≤ j)
  case atStart => exact ⟨0, [], Nat.zero_le _, by omega, rfl, unhide X0, Nat.le_refl _⟩
  case round =>
    obtain ⟨j, W, hj, rfl, rfl, hX, hWl⟩ := hrel
    clear X0
    by_cases hlt : j < len
    · have b1 : (j : Int) < (len : Int) := by omega
      have b2 : ((j : Int)).toNat = j := Int.toNat_natCast j
      obtain ⟨bb, off, rfl, cz⟩ := ints_h (unhide HI) hX.l.kp (j := j) (by rw [unhide hz]; exact hlt)
      obtain ⟨z, hzz⟩ : ∃ z, zs.getD j 0 = z := ⟨_, rfl⟩
      rw [hzz] at cz
      obtain ⟨n, hn⟩ : ∃ n, z % 6 = n := ⟨_, rfl⟩
      have hi : Hid (IdIn (n, 7)) := idIn_of (by omega) (by omega)
      replace hn := hide hn
      obtain ⟨wa, wc0, rfl⟩ := hX.r.form
      have hcz := hide cz
      replace hX := hide hX
      have hW40 : W.length ≤ 40 := by omega
      replace hWl := hide hWl
      clear hzz
      go_wp2_with fail
      refine (number_to _ _ _ _ (by decide) (by decide) (unhide hn)).mono ?_
      rintro e W3 ⟨rfl, hW⟩
      have X3 : Hid (Hs w t W (.slice wa W.length wc0) W3) := by rw [hW]; exact unhide hX
      have cz3 : W3.cell? ⟨bb, off + j, none⟩ = some (.int .i64 z) := by rw [hW]; exact unhide hcz
      clear hW hX cz hcz
      have K4 := (Kp.refl [] W3).alloc (.cells #[.int .i64 n, .int .i64 7] 26)
      have X4 := hide ((unhide X3).grew K4)
      have cz4 := hide (K4.cell cz3)
      have I4 := hide (Bk.new W3 26 [.int .i64 n, .int .i64 7])
      clear K4 X3 cz3
      go_wp2_with fail
      generalize W3.alloc (.cells #[.int .i64 n, .int .i64 7] 26) = W4 at *
      generalize W3.heap.size = A at *
      go_loopg [9, 10] W.length (fun m av k wx => ∃ l : Nat, l ≤ W.length ∧ m = W.length - l ∧ k = .int .i64 l ∧ wx = W4 ∧ ((av = .int .i64 (-1) ∧ ∀ i, i < l → W[i]? ≠ some n) ∨ ∃ i : Nat, av = .int .i64 (i : Int) ∧ W[i]? = some n))
      case atStart => exact ⟨0, Nat.zero_le _, by omega, rfl, rfl, .inl ⟨rfl, fun i hi => by omega⟩⟩
      case round =>
        obtain ⟨l, hl', rfl, rfl, hW4, hat⟩ := hrel
        have X5 : Hid (Hs w t W (.slice wa W.length wc0) wr) := by rw [hW4]; exact unhide X4
        have cz5 : Hid (wr.cell? ⟨bb, off + j, none⟩ = some (.int .i64 z)) := by rw [hW4]; exact unhide cz4
        have I5 : Hid (Bk wr A 26 [.int .i64 n, .int .i64 7]) := by rw [hW4]; exact unhide I4
        by_cases hlW : l < W.length
        · have b3 : (l : Int) < (W.length : Int) := by omega
          have b4 : ((l : Int)).toNat = l := Int.toNat_natCast l
          obtain ⟨x, hx⟩ : ∃ x, W[l]? = some x := ⟨_, List.getElem?_eq_getElem hlW⟩
          obtain ⟨ga, rfl⟩ : ∃ g, wa = some ⟨g, 0, none⟩ := by
            rcases (unhide X5).r.addr with ⟨_, e⟩ | ⟨g, c, e, _⟩
            · rw [e] at hlW; simp at hlW
            · cases e; exact ⟨g, rfl⟩
          have c0 := Gr.Rw.int (unhide X5).r hx
          replace hat := hide hat
          replace hW4 := hide hW4
          by_cases hxn : x = n
          · subst hxn
            go_wp2_with fail
            go_roundg (W.length - (l + 1))
            case measure => omega
            case rel => exact ⟨l + 1, by omega, rfl, by go_num, unhide hW4, .inr ⟨l, rfl, hx⟩⟩
          · have e1 : (x == n) = false := beq_eq_false_iff_ne.2 hxn
            go_wp2_with fail
            go_roundg (W.length - (l + 1))
            case measure => omega
            case rel =>
              refine ⟨l + 1, by omega, rfl, by go_num, unhide hW4, ?_⟩
              rcases unhide hat with ⟨h1, h2⟩ | h1
              · refine .inl ⟨h1, fun i hi' => ?_⟩
                by_cases e : i = l
                · subst e; rw [hx]; exact fun q => hxn (Option.some.inj q)
                · exact h2 i (by omega)
              · exact .inr h1
        · have b3 : decide ((l : Int) < (W.length : Int)) = false := decide_eq_false (by omega)
          have el : l = W.length := by omega
          subst el
          clear X4 cz4 I4 hW4
          have hcs : Hid (∃ av : Int, u9 = .int .i64 av ∧ ((av = -1 ∧ n ∉ W) ∨ ∃ i : Nat, av = (i : Int) ∧ W[i]? = some n)) := by
            rcases hat with ⟨h1, h2⟩ | ⟨i, h1, h2⟩
            · refine ⟨-1, h1, .inl ⟨rfl, fun hm => ?_⟩⟩
              obtain ⟨i, hi', e⟩ := List.mem_iff_getElem.1 hm
              exact h2 i hi' (by rw [List.getElem?_eq_getElem hi', e])
            · exact ⟨_, h1, .inr ⟨i, rfl, h2⟩⟩
          obtain ⟨av, hav, hcs2⟩ := unhide hcs
          subst hav
          replace hcs2 := hide hcs2
          clear hat hcs
          have cz6 := unhide cz5
          go_upto_region 19 with fail
          go_cut [53] (fun v wx => ∃ b, v = .bool b ∧ wx = wr)
          case first =>
            go_wp2
            go_meet
            case rel => exact ⟨_, rfl, rfl⟩
          case rest =>
            obtain ⟨b, rfl, hw⟩ := hcut
            have X6 : Hid (Hs w t W (.slice wa W.length wc0) wc) := by rw [hw]; exact unhide X5
            have I6 : Hid (Bk wc A 26 [.int .i64 n, .int .i64 7]) := by rw [hw]; exact unhide I5
            clear hw X5 I5 cz5 cz6
            go_upto_if 53 with fail
            go_cut [5] (fun v wx => ∃ W', W'.length ≤ j + 1 ∧ Hs w t W' v wx)
            case first =>
              have i0 := (unhide I6).cell (i := 0) rfl
              have i1 := (unhide I6).cell (i := 1) rfl
              have hls : Hid ((sevs W).length < 65536) := by unfold Hid; rw [sevs_len]; omega
              have hnd := hide (unhide X6).l.nd
              cases b with
              | true =>
                rcases unhide hcs2 with ⟨rfl, hno⟩ | ⟨i, rfl, hyes⟩
                · have hq1 := hide (sevs_not hno)
                  have hq2 := hide (sevs_none hno)
                  go_wp2_with fail
                  refine (ldrop (unhide X6).l (unhide hi) (unhide hq1) (unhide hq2)).mono ?_
                  rintro e W7 ⟨rfl, x7, s7⟩
                  have X7 : Hid (Hs w t W (.slice wa W.length wc0) W7) := ⟨x7, row_kept (unhide X6).l (unhide X6).r s7⟩
                  clear x7 s7 i0 i1 X6 I6
                  go_wp2
                  go_meet
                  case rel => exact ⟨W, by have := unhide hWl; omega, unhide X7⟩
                · have hmem : n ∈ W := List.mem_of_getElem? hyes
                  have hq1 := hide (sevs_has hmem)
                  have hq2 := hide (sevs_drop (unhide hnd) hyes)
                  have b7 : (0 : Int) ≤ (i : Int) := by omega
                  have hiW : i < W.length := (List.getElem?_eq_some_iff.1 hyes).1
                  replace hiW := hide hiW
                  have hyes' := hide hyes
                  clear hyes hmem
                  go_wp2_with fail
                  refine (ldrop (unhide X6).l (unhide hi) (unhide hq1) (unhide hq2)).mono ?_
                  rintro e W7 ⟨rfl, x7, s7⟩
                  have L7 := hide x7
                  have R7 := hide (row_kept (unhide X6).l (unhide X6).r s7)
                  clear x7 s7 i0 i1 X6 I6
                  obtain ⟨ga, rfl⟩ : ∃ g, wa = some ⟨g, 0, none⟩ := by
                    rcases (unhide R7).addr with ⟨_, e⟩ | ⟨g, c, e, _⟩
                    · have := unhide hiW; rw [e] at this; simp at this
                    · cases e; exact ⟨g, rfl⟩
                  go_wp2_with fail
                  go_loopg [11, 12] W.length (fun m v k wx => ∃ l : Nat, l ≤ W.length ∧ m = W.length - l ∧ k = .int .i64 l ∧ Gr.Rw inE W7.heap.size wx v ((W.take l).eraseIdx i) ∧ Kp [] W7 wx)
                  case atStart => exact ⟨0, Nat.zero_le _, by omega, rfl, by rw [List.take_zero, List.eraseIdx_nil]; exact .nil _ _, Kp.refl _ _⟩
                  case round =>
                    obtain ⟨l, hl', rfl, rfl, hR, hK⟩ := hrel
                    by_cases hlW : l < W.length
                    · have b3 : (l : Int) < (W.length : Int) := by omega
                      have b4 : ((l : Int)).toNat = l := Int.toNat_natCast l
                      obtain ⟨x, hx⟩ : ∃ x, W[l]? = some x := ⟨_, List.getElem?_eq_getElem hlW⟩
                      have c0 := Gr.Rw.int ((unhide R7).grew hK) hx
                      by_cases hli : l = i
                      · subst hli
                        rw [← er_skip hx] at hR
                        replace hR := hide hR
                        replace hK := hide hK
                        go_wp2_with fail
                        go_roundg (W.length - (l + 1))
                        case measure => omega
                        case rel => exact ⟨l + 1, by omega, rfl, by go_num, unhide hR, unhide hK⟩
                      · have b5 : ((l : Int) == (i : Int)) = false := beq_eq_false_iff_ne.2 (by omega)
                        have hmore := hide (er_take hx hli)
                        have hlen : Hid (((W.take l).eraseIdx i).length ≤ 65536) := by
                          unfold Hid
                          have := er_len (W.take l) i
                          rw [List.length_take] at this
                          omega
                        replace hR := hide hR
                        replace hK := hide hK
                        clear hx
                        go_wp2_with (first
                          | (at_builtin; refine Gr.list_app (E := inE) Try.underlying42 Try.infoIntH rfl (by decide) (by decide) rfl _ _ rfl W7.heap.size _ _ ((W.take l).eraseIdx i) [x] rfl rfl ((unhide hR).grew ((Kp.refl [] wr).alloc _)) (Gr.src_one (Bk.new wr 3 [.int .i64 x]) rfl) ?c2 ?c3 ?_)
                          | go_in)
                        case c2 => have := unhide hlen; simp only [List.length_cons, List.length_nil]; omega
                        case c3 => have := (unhide hK).size; simp; omega
                        intro v' w1 hown' hgrow hnil
                        have hP1 : Hid (Gr.Rw inE W7.heap.size w1 v' ((W.take (l + 1)).eraseIdx i)) := by
                          unfold Hid
                          rw [unhide hmore]
                          exact hown'
                        have hK1 := hide (Gr.kp_grown ((unhide hK).alloc _) hgrow (fun k hk => ((unhide hR).lt hk).1))
                        clear hR hK hmore hown' hgrow hnil
                        go_wp2
                        go_roundg (W.length - (l + 1))
                        case measure => omega
                        case rel => exact ⟨l + 1, by omega, rfl, by go_num, unhide hP1, unhide hK1⟩
                    · have b3 : decide ((l : Int) < (W.length : Int)) = false := decide_eq_false (by omega)
                      rw [List.take_of_length_le (show W.length ≤ l by omega)] at hR
                      have X8 : Hid (Hs w t (W.eraseIdx i) u11 wr) := ⟨(unhide L7).grew hK, hR.mono (unhide L7).kp.size⟩
                      clear hR hK
                      go_wp2
                      go_meet
                      case rel => exact ⟨W.eraseIdx i, by have := unhide hWl; have := er_len W i; omega, unhide X8⟩
              | false =>
                rcases unhide hcs2 with ⟨rfl, hno⟩ | ⟨i, rfl, hyes⟩
                · have hq1 : Hid ((!lHas (sevs W) (n, 7)) = true) := by unfold Hid; rw [sevs_not hno]; rfl
                  have hq2 := hide (sevs_push hno)
                  go_wp2_with fail
                  refine (lpush (unhide X6).l (unhide hi) (unhide hls) (unhide hq1) (unhide hq2)).mono ?_
                  rintro e W7 ⟨rfl, x7, s7⟩
                  have L7 := hide x7
                  have R7 := hide (row_kept (unhide X6).l (unhide X6).r s7)
                  have hlb : Hid (W.length + [n].length ≤ 1048576) := by unfold Hid; simp; omega
                  clear x7 s7 i0 i1 X6 I6
                  go_wp2_with (first
                    | (at_builtin; refine Gr.list_app (E := inE) Try.underlying42 Try.infoIntH rfl (by decide) (by decide) rfl _ _ rfl w.heap.size _ _ W [n] rfl rfl ((unhide R7).grew ((Kp.refl [] W7).alloc _)) (Gr.src_one (Bk.new W7 3 [.int .i64 n]) rfl) (unhide hlb) ?c3 ?_)
                    | go_in)
                  case c3 => have := (unhide L7).kp.size; simp; omega
                  intro v' w1 hown' hgrow hnil
                  have X8 : Hid (Hs w t (W ++ [n]) v' w1) := ⟨((unhide L7).grew ((Kp.refl [] W7).alloc _)).app ((unhide R7).grew ((Kp.refl [] W7).alloc _)) (Nat.le_refl _) hgrow, hown'⟩
                  clear hown' hgrow hnil L7 R7
                  go_wp2
                  go_meet
                  case rel => exact ⟨W ++ [n], by have := unhide hWl; simp; omega, unhide X8⟩
                · have hmem : n ∈ W := List.mem_of_getElem? hyes
                  have hq1 : Hid ((!lHas (sevs W) (n, 7)) = false) := by unfold Hid; rw [sevs_has hmem]; rfl
                  have hq2 := hide (sevs_there hmem)
                  have b7 : decide ((i : Int) < 0) = false := decide_eq_false (by omega)
                  clear hyes hmem
                  go_wp2_with fail
                  refine (lpush (unhide X6).l (unhide hi) (unhide hls) (unhide hq1) (unhide hq2)).mono ?_
                  rintro e W7 ⟨rfl, x7, s7⟩
                  have X7 : Hid (Hs w t W (.slice wa W.length wc0) W7) := ⟨x7, row_kept (unhide X6).l (unhide X6).r s7⟩
                  clear x7 s7 i0 i1 X6 I6
                  go_wp2
                  go_meet
                  case rel => exact ⟨W, by have := unhide hWl; omega, unhide X7⟩
            case rest =>
              obtain ⟨W', hW', hX'⟩ := hcut
              obtain ⟨wb, wd, e5⟩ := hX'.r.form
              subst e5
              have X7 := hide hX'
              clear hX' hcs2 X6 I6 hWl hW40 hl'
              have hok := hide (unhide X7).l.ok
              go_wp2_with fail
              refine (lall (unhide X7).l).mono ?_
              rintro e W8 ⟨va, rfl, R8, K8⟩
              obtain ⟨aa, ac, rfl⟩ := R8.form
              have el8 := sevs_len W'
              rw [el8] at R8
              rw [el8]
              have X8 := hide ((unhide X7).grew K8)
              replace R8 := hide R8
              have hlen : Hid (((sevs W').length : Int) = (W'.length : Int)) := by unfold Hid; rw [el8]
              clear K8 X7 el8
              go_wp2_with fail
              refine (llen (unhide X8).l (unhide hlen)).mono ?_
              rintro e W9 ⟨rfl, K9⟩
              have X9 := hide ((unhide X8).grew K9)
              have R9 := hide ((unhide R8).grew K9)
              clear X8 R8 K9
              go_wp2_with fail
              go_loopg [14] W'.length (fun m k wx => ∃ l : Nat, l ≤ W'.length ∧ m = W'.length - l ∧ k = .int .i64 l ∧ Kp [] W9 wx)
              case atStart => exact ⟨0, Nat.zero_le _, by omega, rfl, Kp.refl _ _⟩
              case round =>
                obtain ⟨l, hl', rfl, rfl, hK⟩ := hrel
                by_cases hlW : l < W'.length
                · have b3 : (l : Int) < (W'.length : Int) := by omega
                  have b4 : ((l : Int)).toNat = l := Int.toNat_natCast l
                  obtain ⟨x, hx⟩ : ∃ x, W'[l]? = some x := ⟨_, List.getElem?_eq_getElem hlW⟩
                  obtain ⟨ga, rfl⟩ : ∃ g, wb = some ⟨g, 0, none⟩ := by
                    rcases (unhide X9).r.addr with ⟨_, e⟩ | ⟨g, c, e, _⟩
                    · rw [e] at hlW; simp at hlW
                    · cases e; exact ⟨g, rfl⟩
                  obtain ⟨gb, rfl⟩ : ∃ g, aa = some ⟨g, 0, none⟩ := by
                    rcases (unhide R9).addr with ⟨_, e⟩ | ⟨g, c, e, _⟩
                    · have := sevs_len W'; rw [e] at this; simp at this; omega
                    · exact ⟨g, (Value.slice.inj e).1⟩
                  have hS : Hid (∀ w', Kp [] W9 w' → w'.cell? ⟨gb, l * 2, none⟩ = some (.int .i64 x) ∧ w'.cell? ⟨gb, l * 2 + 1, none⟩ = some (.int .i64 7) ∧ w'.cell? ⟨ga, l, none⟩ = some (.int .i64 x)) := fun w' kk => by
                    have r9 := (unhide R9).grew kk
                    exact ⟨r9.cell (j := 0) (sevs_get hx) rfl, r9.cell (j := 1) (sevs_get hx) rfl, Gr.Rw.int ((unhide X9).grew kk).r hx⟩
                  have hmem : x ∈ W' := List.mem_of_getElem? hx
                  have hxi := hide (unhide hok _ (sevs_mem.2 hmem))
                  have hxh := hide (sevs_has hmem)
                  have K0 := hide hK.drew
                  clear hx hmem hK
                  go_wp2_with fail
                  go_region_held3 (fun w' => w'.cell? ⟨gb, l * 2, none⟩ = some (.int .i64 x) ∧ w'.cell? ⟨gb, l * 2 + 1, none⟩ = some (.int .i64 7) ∧ w'.cell? ⟨ga, l, none⟩ = some (.int .i64 x)) (first | with_reducible exact unhide hS _ (unhide K1) | with_reducible exact unhide hS _ (unhide K0)) (first
                    | (go_at_call 15; refine (lhas ((unhide X9).grew (unhide K0)).l (unhide hxi) (unhide hxh)).mono ?_; rintro e V1 ⟨rfl, k1⟩; have K1 := hide ((unhide K0).then k1); clear k1))
                  all_goals
                    clear hS K0
                    go_wp2
                    go_roundg (W'.length - (l + 1))
                    case measure => omega
                    case rel => exact ⟨l + 1, by omega, rfl, by go_num, unhide K1⟩
                · have b3 : decide ((l : Int) < (W'.length : Int)) = false := decide_eq_false (by omega)
                  have X10 := hide ((unhide X9).grew hK)
                  clear hK X9
                  go_wp2
                  go_roundg (len - (j + 1))
                  case measure => omega
                  case rel => exact ⟨j + 1, W', by omega, rfl, by go_num, unhide X10, by omega⟩
    · have b1 : decide ((j : Int) < (len : Int)) = false := decide_eq_false (by omega)
      replace hX := hide hX
      go_wp2
      go_ret
      exact ⟨rfl, (unhide hX).l.kp.below (Nat.le_refl _) (by simp)⟩
theorem lhas_walk (a0 : Option Addr) (len cap : Nat) (zs : List Int) (w : World) (hz : zs.length = len) (hI : Ints .i64 w a0 zs) :
    Calls Try.prog 5 #[.slice a0 len cap] w fun e w' => e = .returned (.bool true) ∧ Below w.heap.size w w' := by
  by_cases h : len ≤ 40
  · exact lhas_in a0 len cap zs w h hz hI
  · exact lhas_long a0 len cap w (by omega)
end Go.Proofs.Ytldeonlonoiliaa
