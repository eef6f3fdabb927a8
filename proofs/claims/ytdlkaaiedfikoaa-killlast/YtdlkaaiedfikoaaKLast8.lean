/- The walk of KillLast. -/
import Derived.Test.YtdlkaaiedfikoaaKLastM8
import Derived.Test.YtdlkaaiedfikoaaKInts
import Derived.Test.YtdlkaaiedfikoaaKArgs
import Derived.Test.YtdlkaaiedfikoaaKRef
import Derived.Deep.DeepCutAuto
import Derived.Deep.CutBlock
namespace Go.Proofs.Ytdlkaaiedfikoaa
open Go.RowKit
set_option linter.unusedVariables false
set_option maxHeartbeats 400000 in
theorem last_long (n : Int) (a : Option Addr) (len cap : Nat) (w : World) (hl : 20 < len) :
    Calls Try.prog 5 #[.int .i64 n, .slice a len cap] w fun e w' => e = .returned (.bool true) ∧ Below w.heap.size w w' := by
  have h2 : (20 : Int) < (len : Int) := by omega
  go_enter Try.func5, Try.ntmps5
  go_wp2_with fail
  refine (first_calls _).mono ?_
  rintro e W0 ⟨rfl, K0⟩
  go_wp2
  go_ret
  exact ⟨rfl, K0.below (Nat.le_refl _) (by simp)⟩
/-- On the way: the table, the list of what is left. -/
structure Dla (w : World) (t B : Nat) (l : List Nat) (v : Value) (wr : World) : Prop where
  tab : TabIn w t (laL l) wr
  row : IRow B wr v (laZ l)
  tlt : t < B
  hw : w.heap.size ≤ t
  sz : B ≤ wr.heap.size
theorem Dla.grew {w : World} {t B : Nat} {l : List Nat} {v : Value} {wr wy : World} (h : Dla w t B l v wr) (k : Kp [] wr wy) : Dla w t B l v wy := ⟨h.tab.grew k, own_grew h.row k, h.tlt, h.hw, Nat.le_trans h.sz k.size⟩
theorem Bk.ichold {w : World} {z : Int} : (w.alloc (.cells #[.int .i64 z] 3)).cell? ⟨w.heap.size, 0, none⟩ = some (.int .i64 z) := (Bk.new w 3 [.int .i64 z]).cell rfl
theorem kp_below {w w' : World} (h : Below w.heap.size w w') : Kp [] w w' := ⟨h.os, h.tape, h.output, h.size, fun k hk _ => h.block k hk⟩
set_option maxRecDepth 4000 in
set_option maxHeartbeats 3000000 in
theorem last_in (n : Int) (a : Option Addr) (zs : List Int) (cap : Nat) (w : World) (hl : zs.length ≤ 20) (hI : Ints .i64 w a zs) :
    Calls Try.prog 5 #[.int .i64 n, .slice a zs.length cap] w fun e w' => e = .returned (.bool true) ∧ Below w.heap.size w w' := by
  have h2 : decide ((20 : Int) < (zs.length : Int)) = false := by simp; omega
  obtain ⟨k, hk⟩ : ∃ k : Nat, n % 12 = (k : Int) := ⟨(n % 12).toNat, by omega⟩
  have hk1 : k < 12 := by omega
  obtain ⟨N, hN⟩ : ∃ N : Nat, k + 1 = N := ⟨_, rfl⟩
  have hN12 : 1 ≤ N ∧ N ≤ 12 := by omega
  have hN' : (k : Int) + 1 = (N : Int) := by omega
  have hNw : IntKind.i64.wrap ((k : Int) + 1) = (N : Int) := by rw [IntKind.wrap_i64]; omega
  have HI := hide hI
  replace hk := hide hk
  clear hI
  go_enter Try.func5, Try.ntmps5
  go_wp2_with fail
  refine (first_calls _).mono ?_
  rintro e W0 ⟨rfl, K0⟩
  replace K0 := hide K0
  go_wp2_with fail
  refine (number_to _ _ _ _ (by omega) (by omega) (unhide hk)).mono ?_
  rintro e w1 ⟨rfl, rfl⟩
  have X0 := hide (TabIn.of (T := []) (w := w) (unhide K0) rfl (Kp.refl [] (w1.alloc (.cells #[.map none] 26))))
  have hwt : Hid (w.heap.size ≤ w1.heap.size) := (unhide K0).size
  obtain ⟨t, et⟩ : ∃ t, w1.heap.size = t := ⟨_, rfl⟩
  have hB : Hid ((w1.alloc (.cells #[.map none] 26)).heap.size = t + 1) := by unfold Hid; simp [et]
  rw [et] at X0 hwt
  go_wp2_with fail
  generalize w1.alloc (.cells #[.map none] 26) = w2 at *
  clear et K0
  have D0 : Hid (Dla w t (t + 1) (List.range 0) (.slice none 0 0) w2) := ⟨unhide X0, IRow.nil _ _, by omega, unhide hwt, by have := unhide hB; omega⟩
  clear X0 hwt hB
  go_loopg [7, 8] N (fun m v iv wr => ∃ j : Nat, j ≤ N ∧ m = N - j ∧ iv = .int .i64 j ∧ Dla w t (t + 1) (List.range j) v wr)
  case atStart => exact ⟨0, Nat.zero_le _, rfl, rfl, unhide D0⟩
  case round =>
    obtain ⟨j, hj, rfl, rfl, hD⟩ := hrel
    clear D0
    by_cases hlt : j < N
    · have b1 : (j : Int) < (N : Int) := by omega
      have m8 : (j : Int) % 8 = (j : Int) % 8 := rfl
      have hP := hide (la_put j (by omega))
      have hin := hide (la_ins j)
      have h9 : Hid (PIn (9, (j : Int))) := pin8 (by omega) (by omega) (by omega) (by omega)
      have hln : Hid ((laL (List.range j)).length < 65536) := by unfold Hid; rw [laL_len, List.length_range]; omega
      have hD := hide hD
      go_wp2_with fail
      refine (tput_yes (unhide hD).tab (unhide h9) pin_zero (unhide hP) (unhide hln) (unhide hin)).mono ?_
      rintro e W2 ⟨rfl, X2, T2⟩
      have R2 : IRow (t + 1) W2 _ (laZ (List.range j)) := T2.own (unhide hD).row (unhide hD).tlt
      have S2 := hide (Nat.le_trans (unhide hD).sz T2.size)
      have X3 := hide (X2.grew ((Kp.refl [] W2).alloc (.cells #[.int .i64 (j : Int)] 3)))
      have R3 := hide (own_grew R2 ((Kp.refl [] W2).alloc (.cells #[.int .i64 (j : Int)] 3)))
      obtain ⟨lt, hw⟩ : Hid (t < t + 1) ∧ Hid (w.heap.size ≤ t) := ⟨(unhide hD).tlt, (unhide hD).hw⟩
      obtain ⟨av, cv, ev⟩ := IRow.form R2
      subst ev
      clear X2 T2 R2 hD
      go_wp2_with (first
        | (at_builtin; refine ilist_app rfl _ _ rfl (t + 1) (.slice av (laZ (List.range j)).length cv) W2.heap.size _ (laZ (List.range j)) (j : Int) rfl rfl (unhide R3) Bk.ichold ?c2 ?c3 ?_)
        | go_in)
      case c2 => rw [laZ_len, List.length_range]; omega
      case c3 => have := unhide S2; simp; omega
      intro v' W3 hO3 hg3
      have X4 := hide ((unhide X3).grown hg3 (unhide R3) (by omega))
      have S4 : Hid (t + 1 ≤ W3.heap.size) := by have := unhide S2; have := hg3.size; simp at this; unfold Hid; omega
      rw [← laZ_succ] at hO3
      have O3 := hide hO3
      clear hO3 hg3 X3 R3 S2
      go_wp2
      go_roundg (N - (j + 1))
      case measure => omega
      case rel => exact ⟨j + 1, by omega, rfl, by go_num, by rw [laL_succ] at *; exact unhide X4, unhide O3, unhide lt, unhide hw, unhide S4⟩
    · have b1 : decide ((j : Int) < (N : Int)) = false := by simp; omega
      obtain rfl : j = N := by omega
      have hD := hide hD
      go_wp2_with fail
      go_loopg [7, 9] j (fun m v iv wx => ∃ (l : List Nat) (i : Nat), m = l.length ∧ i + l.length = j ∧ l.Nodup ∧ (∀ x ∈ l, x < 12) ∧ iv = .int .i64 i ∧ Dla w t (t + 1) l v wx)
      case atStart => exact ⟨List.range j, 0, by simp, by simp, la_nodup j, fun x hx => by have := List.mem_range.1 hx; omega, rfl, unhide hD⟩
      case round =>
        obtain ⟨l, i, rfl, hil, hnd, h12, rfl, hE⟩ := hrel
        clear hD
        obtain ⟨av, cv, ev⟩ := IRow.form hE.row
        subst ev
        have hD := hide hE
        clear hE
        by_cases h0 : l.length = 0
        · have hl0 : l = [] := List.eq_nil_of_length_eq_zero h0
          subst hl0
          go_wp2_with fail
          refine (tall (unhide hD).tab).mono ?_
          rintro e W5 ⟨v5, rfl, P5, K5⟩
          obtain ⟨a5, c5, e5⟩ := P5.form
          have e5' : v5 = .slice a5 0 c5 := e5
          subst e5'
          have X5 := hide ((unhide hD).tab.grew K5)
          clear P5 K5 e5
          go_wp2
          go_ret
          exact ⟨rfl, (unhide X5).kp.below (Nat.le_refl _) (by simp)⟩
        · have hz : (laZ l).length = l.length := laZ_len l
          have hpos : (0 : Int) < ((laZ l).length : Int) := by omega
          have e1 : IntKind.i64.wrap ((i : Int) + 1) = ((i + 1 : Nat) : Int) := by rw [IntKind.wrap_i64]; omega
          obtain ⟨kb, hkb⟩ : ∃ kb, decide (i < zs.length) = kb := ⟨_, rfl⟩
          replace hkb := hide hkb
          replace hz := hide hz
          go_upto_region 19 with fail
          go_cut [50] (fun bv wx => bv = .bool kb ∧ wx = wr)
          case first =>
            by_cases hik : i < zs.length
            · have l1 : (i : Int) < (zs.length : Int) := by omega
              have ek : kb = true := by rw [← unhide hkb]; exact decide_eq_true hik
              subst ek
              go_wp2
              go_meet
              case rel => exact ⟨rfl, rfl⟩
            · have l1 : decide ((i : Int) < (zs.length : Int)) = false := by simp; omega
              have ek : kb = false := by rw [← unhide hkb]; exact decide_eq_false hik
              subst ek
              go_wp2
              go_meet
              case rel => exact ⟨rfl, rfl⟩
          case rest =>
            obtain ⟨rfl, rfl⟩ := hcut
            go_upto_if 50 with fail
            go_cut [10] (fun kv wx => ∃ k : Nat, k < l.length ∧ kv = .int .i64 k ∧ wx = wc)
            case first =>
              cases kb
              · go_wp2
                go_meet
                case rel => exact ⟨0, by omega, rfl, rfl⟩
              · have hik : i < zs.length := of_decide_eq_true (unhide hkb)
                obtain ⟨b, off, rfl, hc⟩ : ∃ b off, a = some ⟨b, off, none⟩ ∧ ∀ i, i < zs.length → w.cell? ⟨b, off + i, none⟩ = some (.int .i64 (zs.getD i 0)) := by
                  rcases (unhide HI).2.2 with hz | hz
                  · omega
                  · exact hz
                have c0 := (unhide hD).tab.kp.cell (hc i hik)
                obtain ⟨x, hx⟩ : ∃ x, zs.getD i 0 = x := ⟨_, rfl⟩
                rw [hx] at c0
                obtain ⟨k2, hk2⟩ : ∃ k2 : Nat, x % ((laZ l).length : Int) = (k2 : Int) := ⟨(x % ((laZ l).length : Int)).toNat, by have := Int.emod_nonneg x (b := ((laZ l).length : Int)) (by omega); omega⟩
                have k2l : k2 < l.length := by have := Int.emod_lt_of_pos x hpos; have := unhide hz; omega
                have tj : ((i : Int)).toNat = i := Int.toNat_natCast i
                replace hk2 := hide hk2
                clear hc hx
                go_wp2_with fail
                refine (number_to _ _ _ _ (by omega) (by have := unhide hz; have := hil; omega) (unhide hk2)).mono ?_
                rintro e wx ⟨rfl, rfl⟩
                go_wp2
                go_meet
                case rel => exact ⟨k2, k2l, rfl, rfl⟩
            case rest =>
              obtain ⟨k2, hk2, rfl, rfl⟩ := hcut
              obtain ⟨x, hx⟩ : ∃ x, l[k2]? = some x := ⟨_, List.getElem?_eq_getElem hk2⟩
              have hx12 := h12 x (List.mem_of_getElem? hx)
              obtain ⟨g, c, eg, hc1, hc2, hsrc⟩ := IRow.open (unhide hD).row (by have := unhide hz; omega)
              cases eg
              have hdel := hide (la_del (m := l.length) hnd hx (by omega))
              have h9 : Hid (PIn (9, (x : Int))) := pin8 (by omega) (by omega) (by omega) (by omega)
              have hlen := laL_len l
              obtain ⟨g', eg, c0⟩ := IRow.at (unhide hD).row (laZ_get hx)
              cases eg
              have tk : ((k2 : Int)).toNat = k2 := Int.toNat_natCast k2
              have l2 : (k2 : Int) < ((laZ l).length : Int) := by have := unhide hz; omega
              clear hsrc
              go_wp2_with fail
              refine (kdelete (unhide hD).tab (m := l.length) (by omega) (unhide h9) (unhide hdel)).mono ?_
              rintro e W3 ⟨v3, rfl, O3, X3, T3⟩
              simp only at O3 X3 ⊢
              have R3 : IRow (t + 1) W3 _ (laZ l) := T3.own (unhide hD).row (unhide hD).tlt
              obtain ⟨lt, hw⟩ : Hid (t < t + 1) ∧ Hid (w.heap.size ≤ t) := ⟨(unhide hD).tlt, (unhide hD).hw⟩
              have S3 := hide (Nat.le_trans (unhide hD).sz T3.size)
              obtain ⟨a3, c3, e3⟩ := O3.form
              subst e3
              obtain ⟨_, _, eg, _, _, hsrc⟩ := IRow.open R3 (by have := unhide hz; omega)
              cases eg
              have hs1 := hide (hsrc.take k2)
              have hs2 := hide hsrc
              replace X3 := hide X3
              replace R3 := hide R3
              clear O3 T3 hD c0 hsrc hdel
              have w1 : IntKind.i64.wrap ((k2 : Int) + 1) = ((k2 + 1 : Nat) : Int) := by rw [IntKind.wrap_i64]; omega
              have tk1 : (((k2 + 1 : Nat) : Int)).toNat = k2 + 1 := Int.toNat_natCast _
              have htl : ((laZ l).take k2).length = k2 := by rw [List.length_take]; have := unhide hz; omega
              go_wp2_with fail
              refine (ints_to (unhide hs1) (by rw [htl]; omega) htl).mono ?_
              rintro e W4 ⟨g4, c4, rfl, R4, B4⟩
              have K4 := kp_below B4
              have hB4 := B4.size
              have X4 := hide ((unhide X3).grew K4)
              have R5 := hide (own_grew (unhide R3) K4)
              have hs3 := hide ((unhide hs2).kept K4)
              have O4 := hide R4
              clear K4 B4 R4 X3 R3 hs1 hs2
              have hdl : ((laZ l).drop (k2 + 1)).length = l.length - (k2 + 1) := by rw [List.length_drop]; have := unhide hz; omega
              rw [htl] at O4
              have hdl2 : ((laZ l).drop (k2 + 1)).length = (laZ l).length - (k2 + 1) := by rw [List.length_drop]
              have S4 : Hid (t + 1 ≤ W4.heap.size) := by have := unhide S3; have := hB4; unfold Hid; omega
              have hS3 : Hid (t + 1 ≤ W3.heap.size) := unhide S3
              have lt' : Hid (t < W3.heap.size) := by have := unhide S3; unfold Hid; omega
              have hcut := laZ_cut l k2
              have hcut := hide hcut
              have hll : (laZ l).length = l.length := unhide hz
              replace hll := hide hll
              by_cases hcv : cv = k2 + 1
              case' pos =>
                subst hcv
                have hd0 : (laZ l).drop (k2 + 1) = [] := List.drop_eq_nil_of_le (by omega)
                rw [hd0, List.append_nil] at hcut
                go_wp2_with (first
                  | (at_builtin; refine ilist_many rfl _ _ rfl W3.heap.size (.slice (some ⟨g4, 0, none⟩) k2 c4) ⟨g, 0, none⟩ _ _ ((laZ l).take k2) [] rfl rfl rfl (unhide O4) (by simp) ?c1 ?c2 ?_)
                  | go_in)
              case' neg =>
                go_wp2_with (first
                  | (at_builtin; refine ilist_many rfl _ _ rfl W3.heap.size (.slice (some ⟨g4, 0, none⟩) k2 c4) _ _ _ ((laZ l).take k2) ((laZ l).drop (k2 + 1)) hdl2 rfl rfl (unhide O4) ?d0 ?d1 ?d2 ?_)
                  | go_in)
              case c1 => rw [htl]; simp; omega
              case c2 => exact hB4
              case d0 =>
                intro q z hz2
                rw [List.getElem?_drop] at hz2
                rcases unhide hs3 with e | ⟨b, off, e, hc⟩
                · have := unhide hz; rw [e] at this; simp at this; omega
                · cases e
                  have := hc _ z hz2
                  rw [Nat.zero_add] at this
                  rw [Addr.add_mid]
                  exact this
              case d1 => rw [htl, hdl2]; have := unhide hz; omega
              case d2 => exact hB4
              all_goals
                intro v5 W5 hO5 hg5
                have hO5 : IRow W3.heap.size W5 v5 (laZ (l.eraseIdx k2)) := by first | exact hO5 | (rw [← unhide hcut]; exact hO5) | (rw [← unhide hcut, ← List.append_nil (List.take k2 (laZ l))]; exact hO5)
                have X5 := hide ((unhide X4).grown hg5 (unhide O4) (unhide lt'))
                have hS5 : Hid (t + 1 ≤ W5.heap.size) := by have := unhide S4; have := hg5.size; unfold Hid; omega
                have O5 := hO5.mono (base' := t + 1) (unhide hS3)
                obtain ⟨a5, c5, e5⟩ := IRow.form hO5
                subst e5
                have hle := la_erase_len hk2
                have hzl := laZ_len (l.eraseIdx k2)
                have hol := laO_len (l.eraseIdx k2)
                obtain ⟨q, hq⟩ : ∃ q, (laO (l.eraseIdx k2)).length = q := ⟨_, rfl⟩
                obtain ⟨r, hr⟩ : ∃ r, (laZ (l.eraseIdx k2)).length = r := ⟨_, rfl⟩
                rw [hq] at hol
                rw [hr] at hzl
                rw [hq, hr]
                rw [hr] at O5
                replace O5 := hide O5
                replace hol := hide hol
                replace hzl := hide hzl
                clear hg5 hO5 X4 O4 hs3 R5 hdl hdl2 htl
                by_cases h00 : (l.eraseIdx k2).length = 0
                · have q1 : q = 1 := by rw [unhide hol, if_pos h00]
                  have r0 : r = 0 := by rw [unhide hzl, h00]
                  subst q1 r0
                  go_wp2
                  go_roundg ((l.eraseIdx k2).length)
                  case measure => omega
                  case rel => exact ⟨l.eraseIdx k2, i + 1, rfl, by omega, la_erase hnd k2, fun y hy => h12 y ((List.eraseIdx_sublist l k2).subset hy), by go_num, unhide X5, unhide O5, unhide lt, unhide hw, unhide hS5⟩
                · have q0 : q = 0 := by rw [unhide hol, if_neg h00]
                  have r1 : 0 < r := by rw [unhide hzl]; omega
                  have r2 : ((r : Int) == 0) = false := by simp; omega
                  have r3 : ¬ (r : Int) = 0 := by omega
                  subst q0
                  go_wp2
                  go_roundg ((l.eraseIdx k2).length)
                  case measure => omega
                  case rel => exact ⟨l.eraseIdx k2, i + 1, rfl, by omega, la_erase hnd k2, fun y hy => h12 y ((List.eraseIdx_sublist l k2).subset hy), by go_num, unhide X5, unhide O5, unhide lt, unhide hw, unhide hS5⟩
theorem last_walk (n : Int) (a : Option Addr) (len cap : Nat) (zs : List Int) (w : World) (_ : (Lit.int .i64 n).wf = true) (hl : zs.length = len) (hI : Ints .i64 w a zs) :
    Calls Try.prog 5 #[.int .i64 n, .slice a len cap] w fun e w' => e = .returned (.bool true) ∧ Below w.heap.size w w' := by
  subst hl
  by_cases h : zs.length ≤ 20
  · exact last_in n a zs cap w h hI
  · exact last_long n a zs.length cap w (by omega)
end Go.Proofs.Ytdlkaaiedfikoaa
