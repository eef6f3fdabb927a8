/- The walk of KillNodes. -/
import Derived.Test.YtdlkaaiedfikoaaKNodM8
import Derived.Test.YtdlkaaiedfikoaaKSameO
import Derived.Test.YtdlkaaiedfikoaaKArgs
import Derived.Test.YtdlkaaiedfikoaaKRef
import Derived.Deep.DeepCutAuto
import Derived.Deep.CutBlock
namespace Go.Proofs.Ytdlkaaiedfikoaa
open Go.RowKit
set_option linter.unusedVariables false
theorem osrc_one (w : World) (n s : Int) (c : Nat) : PSrc (w.alloc (.cells #[.int .i64 n, .int .i64 s] 40)) (.slice (some ⟨w.heap.size, 0, none⟩) 1 c) [(n, s)] := by
  have hb := Bk.new w 40 [.int .i64 n, .int .i64 s]
  refine .inr ⟨_, c, rfl, fun j u hu => ?_⟩
  rw [Addr.add_mid, Nat.zero_add, hb.cell? j]
  exact hu
set_option maxHeartbeats 400000 in
theorem nodes_long (n : Int) (a : Option Addr) (len cap : Nat) (w : World) (hl : 10 < len) :
    Calls Try.prog 7 #[.int .i64 n, .slice a len cap] w fun e w' => e = .returned (.bool true) ∧ Below w.heap.size w w' := by
  have h2 : (10 : Int) < (len : Int) := by omega
  go_enter Try.func7, Try.ntmps7
  go_wp2_with fail
  refine (first_calls _).mono ?_
  rintro e W0 ⟨rfl, K0⟩
  go_wp2
  go_ret
  exact ⟨rfl, K0.below (Nat.le_refl _) (by simp)⟩
/-- On the way: the table, the root's box, what is wanted. -/
structure Dn8 (w : World) (t B : Nat) (L : List Sl) (v : Value) (os : List (Int × Int)) (wr : World) : Prop where
  tab : TabIn w t L wr
  root : Bk wr (t + 1) 28 [.int .i64 20, .int .i64 0]
  want : Ol B wr v os
  tlt : t + 1 < B
  hw : w.heap.size ≤ t
  sz : B ≤ wr.heap.size
theorem Dn8.grew {w : World} {t B : Nat} {L : List Sl} {v : Value} {os : List (Int × Int)} {wr wy : World} (h : Dn8 w t B L v os wr) (k : Kp [] wr wy) : Dn8 w t B L v os wy := ⟨h.tab.grew k, h.root.kept k (by simp), h.want.kept k (by simp), h.tlt, h.hw, Nat.le_trans h.sz k.size⟩
theorem Dn8.turned {w : World} {t B : Nat} {L L' : List Sl} {v : Value} {os : List (Int × Int)} {wr wy : World} (h : Dn8 w t B L v os wr) (X : TabIn w t L' wy) (T : Tch w t wr wy) : Dn8 w t B L' v os wy := ⟨X, T.bk h.root (by omega), T.ol h.want (by have := h.tlt; omega), h.tlt, h.hw, Nat.le_trans h.sz T.size⟩
theorem Dn8.more {w : World} {t B : Nat} {L : List Sl} {v v' : Value} {os os' : List (Int × Int)} {wr wy : World} (h : Dn8 w t B L v os wr) (k : Kp v.ownBlock.toList wr wy) (o : Ol B wy v' os') : Dn8 w t B L v' os' wy :=
  ⟨h.tab.ol h.want k (by have := h.tlt; omega) (by have := h.tlt; have := h.hw; omega), h.root.kept k (fun mm => by have := (h.want.lt (Option.mem_toList.1 mm)).1; have := h.tlt; omega), o, h.tlt, h.hw, Nat.le_trans h.sz k.size⟩
set_option maxRecDepth 4000 in
set_option maxHeartbeats 3000000 in
theorem nodes_in (n : Int) (a : Option Addr) (ks : List Bool) (cap : Nat) (w : World) (hl : ks.length ≤ 10) (hK : Bools w a ks) :
    Calls Try.prog 7 #[.int .i64 n, .slice a ks.length cap] w fun e w' => e = .returned (.bool true) ∧ Below w.heap.size w w' := by
  have h2 : decide ((10 : Int) < (ks.length : Int)) = false := by simp; omega
  obtain ⟨k, hk⟩ : ∃ k : Nat, n % 6 = (k : Int) := ⟨(n % 6).toNat, by omega⟩
  obtain ⟨N, hN⟩ : ∃ N : Nat, 1 + k = N := ⟨_, rfl⟩
  have hN6 : 1 ≤ N ∧ N ≤ 6 := by omega
  have hN' : 1 + (k : Int) = (N : Int) := by omega
  have hNw : IntKind.i64.wrap (1 + (k : Int)) = (N : Int) := by rw [IntKind.wrap_i64]; omega
  have hk1 : k < 6 := by omega
  obtain ⟨bb, hbb⟩ : ∃ bb, nbits ks = bb := ⟨_, rfl⟩
  obtain ⟨hst, hen⟩ := nod_facts ks hN6.1 hN6.2
  rw [hbb] at hst hen
  obtain ⟨hL18, LE, hdel, hLE⟩ := nod_end hen
  have HK := hide hK
  have hbits : Hid (∀ i, 1 ≤ i → i ≤ 6 → bb.getD i false = ks.getD i false) := fun i h1 h6 => by rw [← hbb]; exact nbits_get ks h1 h6
  replace hst := hide hst
  replace hk := hide hk
  replace hdel := hide hdel
  replace hLE := hide hLE
  replace hL18 := hide hL18
  clear hK hen hbb
  have h200 : Hid (PIn (20, 0)) := pin8 (by omega) (by omega) (by omega) (by omega)
  go_enter Try.func7, Try.ntmps7
  go_wp2_with fail
  refine (first_calls _).mono ?_
  rintro e W0 ⟨rfl, K0⟩
  replace K0 := hide K0
  go_wp2_with fail
  refine (number_to _ _ _ _ (by omega) (by omega) (unhide hk)).mono ?_
  rintro e w1 ⟨rfl, rfl⟩
  have X0 := hide (TabIn.of (T := []) (w := w) (unhide K0) rfl ((Kp.refl [] _).alloc (.cells #[.int .i64 20, .int .i64 0] 28)))
  have R0 := hide (Bk.next (p := w1.heap.size + 1) (w1.alloc (.cells #[.map none] 26)) 28 [.int .i64 20, .int .i64 0] (by simp))
  have hwt : Hid (w.heap.size ≤ w1.heap.size) := (unhide K0).size
  obtain ⟨t, et⟩ : ∃ t, w1.heap.size = t := ⟨_, rfl⟩
  rw [et] at X0 R0 hwt
  have r0 := (unhide R0).cell (i := 0) rfl
  have r1 := (unhide R0).cell (i := 1) rfl
  clear K0
  go_wp2_with fail
  generalize (w1.alloc (.cells #[.map none] 26)).alloc (.cells #[.int .i64 20, .int .i64 0] 28) = w2 at *
  clear et
  refine (tput_yes (L' := nodT N bb 0) (unhide X0) (unhide h200) pin_zero ⟨by decide, rfl, by decide, .inl ⟨rfl, rfl⟩⟩ (by decide) rfl).mono ?_
  rintro e W2 ⟨rfl, X2, T2⟩
  have D2 := hide (Dn8.mk (B := W2.heap.size) (v := .slice none 0 0) (os := []) X2 (T2.bk (unhide R0) (by omega)) (Ol.nil _ _) (T2.bk (unhide R0) (by omega)).lt (unhide hwt) (Nat.le_refl _))
  clear X2 T2 X0 R0 r0 r1 hwt
  obtain ⟨B, eB⟩ : ∃ B, W2.heap.size = B := ⟨_, rfl⟩
  rw [eB] at D2
  clear eB
  have D3 := hide ((unhide D2).grew ((Kp.refl [] W2).alloc (.cells #[.int .i64 2, .int .i64 1] 40)))
  go_wp2_with (first
    | (at_builtin; refine olist_app rfl _ _ rfl B (.slice none 0 0) _ [] [(2, 1)] rfl rfl (unhide D3).want (osrc_one _ _ _ _) ?c1 ?c2 ?_)
    | go_in)
  case c1 => simp
  case c2 => exact (unhide D3).sz
  intro v3 W4 hO4 hg4 hat4
  have D4 := hide ((unhide D3).more (kp_by hg4) hO4)
  clear hO4 hg4 hat4 D2 D3
  go_wp2_with fail
  go_loopg [8, 9, 10] N (fun m v sv iv wx => ∃ j i : Nat, j + 1 = i ∧ j ≤ N ∧ m = N - j ∧ iv = .int .i64 i ∧ sv = .int .i64 (nodS bb j : Nat) ∧ Dn8 w t B (nodT N bb j) v (nodW N bb j) wx)
  case atStart => exact ⟨0, 1, rfl, Nat.zero_le _, rfl, rfl, rfl, unhide D4⟩
  case round =>
    obtain ⟨j, i, hji, hj, rfl, rfl, rfl, hD⟩ := hrel
    clear D4
    by_cases hlt : j < N
    · have b1 : (i : Int) ≤ (N : Int) := by omega
      have i6 : 1 ≤ i ∧ i ≤ 6 := by omega
      have w30 : IntKind.i64.wrap (30 + (i : Int)) = 30 + (i : Int) := by rw [IntKind.wrap_i64]; omega
      have w1 : IntKind.i64.wrap ((i : Int) + 1) = (i : Int) + 1 := by rw [IntKind.wrap_i64]; omega
      have hs0 := nodS_len bb j
      obtain ⟨s0, es0⟩ : ∃ s0, nodS bb j = s0 := ⟨_, rfl⟩
      rw [es0] at hs0
      have ws : IntKind.i64.wrap ((s0 : Int) + 1) = ((s0 + 1 : Nat) : Int) := by rw [IntKind.wrap_i64]; omega
      have hlT := nod_len N bb j
      have hlW := nodW_len N bb j
      have st := unhide hst j hlt
      have q1 := hide (nod_1 st hji)
      have q2 := hide (nod_2 (i := i) st hji)
      have q3 := hide (nod_3 (i := i) st hji)
      obtain ⟨L1, eL1⟩ : ∃ L1, nodA N bb i (nodT N bb j) = L1 := ⟨_, rfl⟩
      have hl1 : Hid (L1.length = (nodT N bb j).length + 1) := by rw [← eL1]; unfold nodA; unfold Hid; rw [(ins_perm _ _).length_eq]; simp
      have e1 : Hid (insL (nodT N bb j) ⟨(i : Int), 2, 0, 0, 3, 30 + (i : Int), 0, 0, 0⟩ = L1) := eL1
      rw [eL1] at q2 q3
      have pi2 : Hid (PIn ((i : Int), 2)) := pin8 (by omega) (by omega) (by omega) (by omega)
      have pi9 : Hid (PIn ((i : Int), 9)) := pin8 (by omega) (by omega) (by omega) (by omega)
      have p21 : Hid (PIn (21, (i : Int))) := pin8 (by omega) (by omega) (by omega) (by omega)
      obtain ⟨kb, hkb⟩ : ∃ kb, ks.getD i false = kb := ⟨_, rfl⟩
      have hbk : Hid (bb.getD i false = kb) := by rw [← hkb]; exact unhide hbits i i6.1 i6.2
      replace eL1 := hide eL1
      replace hji := hide hji
      replace es0 := hide es0
      obtain ⟨F, eF⟩ : ∃ F, wr.heap.size = F := ⟨_, rfl⟩
      have D1 := hide (hD.grew ((Kp.refl [] wr).alloc (.cells #[.int .i64 3, .int .i64 (30 + (i : Int)), .int .i64 0, .int .i64 0, .int .i64 0] 31)))
      have F1 := hide (Bk.new wr 31 [.int .i64 3, .int .i64 (30 + (i : Int)), .int .i64 0, .int .i64 0, .int .i64 0])
      have nF : Hid (F ≠ t) := by have := hD.tab.lt; unfold Hid; omega
      rw [eF] at F1
      clear hD
      obtain ⟨f0, f1, f2, f3, f4⟩ : (wr.alloc (.cells #[.int .i64 3, .int .i64 (30 + (i : Int)), .int .i64 0, .int .i64 0, .int .i64 0] 31)).cell? ⟨F, 0, none⟩ = some (.int .i64 3) ∧ (wr.alloc (.cells #[.int .i64 3, .int .i64 (30 + (i : Int)), .int .i64 0, .int .i64 0, .int .i64 0] 31)).cell? ⟨F, 1, none⟩ = some (.int .i64 (30 + (i : Int))) ∧ (wr.alloc (.cells #[.int .i64 3, .int .i64 (30 + (i : Int)), .int .i64 0, .int .i64 0, .int .i64 0] 31)).cell? ⟨F, 2, none⟩ = some (.int .i64 0) ∧ (wr.alloc (.cells #[.int .i64 3, .int .i64 (30 + (i : Int)), .int .i64 0, .int .i64 0, .int .i64 0] 31)).cell? ⟨F, 3, none⟩ = some (.int .i64 0) ∧ (wr.alloc (.cells #[.int .i64 3, .int .i64 (30 + (i : Int)), .int .i64 0, .int .i64 0, .int .i64 0] 31)).cell? ⟨F, 4, none⟩ = some (.int .i64 0) := ⟨(unhide F1).cell rfl, (unhide F1).cell rfl, (unhide F1).cell rfl, (unhide F1).cell rfl, (unhide F1).cell rfl⟩
      go_wp2_with fail
      generalize wr.alloc (.cells #[.int .i64 3, .int .i64 (30 + (i : Int)), .int .i64 0, .int .i64 0, .int .i64 0] 31) = W1 at *
      clear eF
      refine (tput_yes (unhide D1).tab (unhide pi2) pin_zero (unhide q1) (by omega) (unhide e1)).mono ?_
      rintro e W2 ⟨rfl, X2, T2⟩
      have D2 := hide ((unhide D1).turned X2 T2)
      have F2 := hide (T2.bk (unhide F1) (unhide nF))
      clear X2 T2 D1 F1 f0 f1 f2 f3 f4
      go_upto_region 20 with fail
      go_cut [57] (fun bv wx => bv = .bool kb ∧ Dn8 w t B L1 u8 (nodW N bb j) wx ∧ Bk wx F 31 [.int .i64 3, .int .i64 (30 + (i : Int)), .int .i64 0, .int .i64 0, .int .i64 0])
      case first =>
        by_cases hik : i < ks.length
        · have l1 : (i : Int) < (ks.length : Int) := by omega
          obtain ⟨b, off, rfl, hc⟩ : ∃ b off, a = some ⟨b, off, none⟩ ∧ ∀ i, i < ks.length → w.cell? ⟨b, off + i, none⟩ = some (.bool (ks.getD i false)) := by
            rcases (unhide HK).2 with hz | hz
            · omega
            · exact hz
          have e0 := (unhide D2).tab.kp.cell (hc i hik)
          rw [hkb] at e0
          have tj : ((i : Int)).toNat = i := Int.toNat_natCast i
          clear hc
          go_wp2
          go_meet
          case rel => exact ⟨rfl, unhide D2, unhide F2⟩
        · have l1 : decide ((i : Int) < (ks.length : Int)) = false := by simp; omega
          have ek : kb = false := by rw [← hkb, List.getD_eq_getElem?_getD, List.getElem?_eq_none (by omega)]; rfl
          subst ek
          go_wp2
          go_meet
          case rel => exact ⟨rfl, unhide D2, unhide F2⟩
      case rest =>
        obtain ⟨rfl, hD3, hF3⟩ := hcut
        have D3 := hide hD3
        obtain ⟨f0, f1, f2, f3, f4⟩ : wc.cell? ⟨F, 0, none⟩ = some (.int .i64 3) ∧ wc.cell? ⟨F, 1, none⟩ = some (.int .i64 (30 + (i : Int))) ∧ wc.cell? ⟨F, 2, none⟩ = some (.int .i64 0) ∧ wc.cell? ⟨F, 3, none⟩ = some (.int .i64 0) ∧ wc.cell? ⟨F, 4, none⟩ = some (.int .i64 0) := ⟨hF3.cell rfl, hF3.cell rfl, hF3.cell rfl, hF3.cell rfl, hF3.cell rfl⟩
        clear hD3 hF3 D2 F2
        go_upto_if 57 with fail
        go_cut [8, 9] (fun v s wx => s = .int .i64 ((nodS bb i : Nat) : Int) ∧ Dn8 w t B (nodB bb i L1) v (nodV N bb j i) wx)
        case first =>
          cases kb
          · obtain ⟨r1, r2, r3⟩ := nodB_no (N := N) (unhide hji) (unhide hbk) L1
            rw [unhide es0] at r3
            replace r1 := hide r1
            replace r2 := hide r2
            replace r3 := hide r3
            have D4 := hide ((unhide D3).grew ((Kp.refl [] wc).alloc (.cells #[.int .i64 3, .int .i64 (30 + (i : Int))] 40)))
            go_wp2_with (first
              | (at_builtin; refine olist_app rfl _ _ rfl B u8 _ (nodW N bb j) [(3, 30 + (i : Int))] rfl rfl (unhide D4).want (osrc_one _ _ _ _) ?c1 ?c2 ?_)
              | go_in)
            case c1 => simp; omega
            case c2 => exact (unhide D4).sz
            intro v5 W5 hO5 hg5 hat5
            have D5 := hide ((unhide D4).more (kp_by hg5) hO5)
            clear hO5 hg5 hat5 D3 D4
            go_wp2
            go_meet
            case rel => exact ⟨by rw [unhide r3]; simp [unhide es0], by rw [unhide r1, unhide r2]; exact unhide D5⟩
          · obtain ⟨r1, r2, r3⟩ := nodB_yes (N := N) (unhide hji) (unhide hbk) L1
            rw [unhide es0] at r3
            replace r1 := hide r1
            replace r2 := hide r2
            replace r3 := hide r3
            have hq := hide (unhide q2 (unhide hbk))
            go_wp2_with fail
            refine (tput_yes (unhide D3).tab (unhide p21) pin_zero (unhide hq) (by have := unhide hl1; omega) rfl).mono ?_
            rintro e W4 ⟨rfl, X4, T4⟩
            have D4 := hide ((unhide D3).turned X4 T4)
            clear X4 T4 D3 f0 f1 f2 f3 f4
            go_wp2
            go_meet
            case rel => exact ⟨by rw [unhide r3, unhide es0]; exact congrArg (Value.int .i64) (by unfold wrap64; omega), by rw [unhide r1, unhide r2]; exact unhide D4⟩
        case rest =>
          obtain ⟨rfl, hD5⟩ := hcut
          have D5 := hide hD5
          have hl2 : Hid ((nodB bb i L1).length ≤ (nodT N bb j).length + 2) := by
            unfold Hid nodB
            have := unhide hl1
            split
            · rw [(ins_perm _ _).length_eq]; simp; omega
            · omega
          have hl3 : (nodV N bb j i).length ≤ (nodW N bb j).length + 1 := by
            unfold nodV
            split <;> simp
          clear hD5 D3 f0 f1 f2 f3 f4 q1 q2
          by_cases hn : i < N
          · have b5 : (i : Int) < (N : Int) := by omega
            have hq := hide (unhide q3 hn)
            obtain ⟨r1, r2⟩ := nodT_more (N := N) (b := bb) (unhide hji) hn
            rw [unhide eL1] at r1
            replace r1 := hide r1
            replace r2 := hide r2
            go_wp2_with fail
            refine (tput_yes (L' := nodT N bb i) (unhide D5).tab (unhide pi9) pin_zero (unhide hq) (by have := unhide hl2; omega) (unhide r1).symm).mono ?_
            rintro e W6 ⟨rfl, X6, T6⟩
            have D6 := hide ((unhide D5).turned X6 T6)
            have D7 := hide ((unhide D6).grew ((Kp.refl [] W6).alloc (.cells #[.int .i64 2, .int .i64 ((i : Int) + 1)] 40)))
            clear X6 T6 D5
            go_wp2_with (first
              | (at_builtin; refine olist_app rfl _ _ rfl B _ _ (nodV N bb j i) [(2, (i : Int) + 1)] rfl rfl (unhide D7).want (osrc_one _ _ _ _) ?c1 ?c2 ?_)
              | go_in)
            case c1 => simp; omega
            case c2 => exact (unhide D7).sz
            intro v8 W8 hO8 hg8 hat8
            rw [← unhide r2] at hO8
            have D8 := hide ((unhide D7).more (kp_by hg8) hO8)
            clear hO8 hg8 hat8 D6 D7
            go_wp2
            go_roundg (N - i)
            case measure => have := unhide hji; omega
            case rel => exact ⟨i, i + 1, rfl, by omega, rfl, by go_num, rfl, unhide D8⟩
          · have b5 : decide ((i : Int) < (N : Int)) = false := by simp; omega
            obtain ⟨r1, r2⟩ := nodT_same (N := N) (b := bb) (unhide hji) hn
            rw [unhide eL1] at r1
            replace r1 := hide r1
            replace r2 := hide r2
            go_wp2
            go_roundg (N - i)
            case measure => have := unhide hji; omega
            case rel => exact ⟨i, i + 1, rfl, by omega, rfl, by go_num, rfl, by rw [unhide r1, unhide r2]; exact unhide D5⟩
    · have b1 : decide ((i : Int) ≤ (N : Int)) = false := by simp; omega
      obtain rfl : j = N := by omega
      have hlW := nodW_len j bb j
      have D5 := hide hD
      have c0 := hD.root.cell (i := 0) rfl
      have c1 := hD.root.cell (i := 1) rfl
      obtain ⟨av, cv, ev⟩ := hD.want.form
      subst ev
      clear hD
      go_wp2_with fail
      refine (kdelete (unhide D5).tab (unhide hL18) (unhide h200) (unhide hdel)).mono ?_
      rintro e W6 ⟨v6, rfl, O6, X6, T6⟩
      simp only at O6 X6 ⊢
      have O7 := hide (T6.ol (unhide D5).want (by have := (unhide D5).tlt; omega))
      obtain ⟨a6, c6, e6⟩ := O6.form
      subst e6
      replace O6 := hide O6
      replace X6 := hide X6
      clear T6 D5 c0 c1
      go_wp2_with fail
      refine (sameobj_calls ((unhide O6).view (by omega)) ((unhide O7).view (by omega))).mono ?_
      rintro e W7 ⟨rfl, kq, rfl⟩
      have X7 := hide ((unhide X6).grew ((Kp.refl [] W6).drewN kq))
      clear X6
      go_wp2_with fail
      refine (tall (unhide X7)).mono ?_
      rintro e W8 ⟨v8, rfl, P8, K8⟩
      obtain ⟨a8, c8, e8⟩ := P8.form
      have es : (sel (fun _ => true) LE).length = nodS bb j := by rw [← unhide hLE]; unfold sel; simp
      rw [es] at e8
      subst e8
      have X8 := hide ((unhide X7).grew K8)
      clear P8 K8 X7
      go_wp2
      go_ret
      exact ⟨rfl, (unhide X8).kp.below (Nat.le_refl _) (by simp)⟩
theorem nodes_walk (n : Int) (a : Option Addr) (len cap : Nat) (ks : List Bool) (w : World) (_ : (Lit.int .i64 n).wf = true) (hl : ks.length = len) (hK : Bools w a ks) :
    Calls Try.prog 7 #[.int .i64 n, .slice a len cap] w fun e w' => e = .returned (.bool true) ∧ Below w.heap.size w w' := by
  subst hl
  by_cases h : ks.length ≤ 10
  · exact nodes_in n a ks cap w h hK
  · exact nodes_long n a ks.length cap w (by omega)
end Go.Proofs.Ytdlkaaiedfikoaa
