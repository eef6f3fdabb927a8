/- The program's delete, revoke, in the table's form. -/
import Derived.Test.YtdlkaaiedfikoaaKTabIn
import Derived.Test.YtdlkaaiedfikoaaKKill1
import Derived.Deep.RegionHeld3
namespace Go.Proofs.Ytdlkaaiedfikoaa
open Go.RowKit
set_option linter.unusedVariables false
set_option linter.unusedSimpArgs false
/-- What is gone, in new memory, a code; the table has what is left. -/
def KlP (w : World) (t : Nat) (R : List (Int × Int) × List Sl × Int) (wr : World) (e : Ending) (w' : World) : Prop := ∃ v, e = .returned (.tuple #[v, .int .i64 R.2.2]) ∧ Ol wr.heap.size w' v R.1 ∧ TabIn w t R.2.1 w' ∧ Tch w t wr w'
theorem Tch.ol {w wr w' : World} {t base : Nat} {v : Value} {ps : List (Int × Int)} (h : Tch w t wr w') (p : Ol base wr v ps) (hb : t < base) : Ol base w' v ps := by
  obtain ⟨S, k, hS⟩ := h
  refine p.kept k (fun g hg m => ?_)
  rcases p.2 with ⟨e, _⟩ | ⟨g', c, cur, e, hb', hgg, _⟩
  · rw [e] at hg; cases hg
  · rw [e] at hg
    cases hg
    rcases (hS _ m).2 with e | e
    · have e2 : g' = t := e
      omega
    · exact e _ _ _ hgg
theorem Tch.trans {w a b c : World} {t : Nat} (h : Tch w t a b) (k : Tch w t b c) : Tch w t a c := by
  obtain ⟨S, k1, h1⟩ := h
  obtain ⟨S', k2, h2⟩ := k
  refine ⟨S ++ S', k1.trans k2 (fun i m => List.mem_append_left _ m) (fun i m => .inl (List.mem_append_right _ m)), fun i m => ?_⟩
  by_cases hi : i ∈ S
  · exact h1 i hi
  · have m' := (List.mem_append.1 m).resolve_left hi
    refine ⟨(h2 i m').1, (h2 i m').2.imp id (fun q c T z e => ?_)⟩
    exact q c T z ((k1.block i (Array.getElem?_eq_some_iff.1 e).1 hi).trans e)
/-- Blocks that are new since were written. -/
theorem Tch.more {w a b c : World} {t : Nat} {S : List Nat} (h : Tch w t a b) (k : Kp S b c) (hS : ∀ i ∈ S, a.heap.size ≤ i) (hw : w.heap.size ≤ a.heap.size) : Tch w t a c := by
  obtain ⟨S1, k1, h1⟩ := h
  refine ⟨S1, k1.trans k (fun i m => m) (fun i m => .inr (hS i m)), h1⟩
theorem TabIn.ol {w wr w' : World} {t base : Nat} {L : List Sl} {v : Value} {os : List (Int × Int)} (h : TabIn w t L wr) (o : Ol base wr v os) (kb : Kp v.ownBlock.toList wr w') (ht : t < base) (hw : w.heap.size ≤ base) : TabIn w t L w' := by
  obtain ⟨m, hp, hm⟩ := h.tab
  have hlt : ∀ g, g ∈ v.ownBlock.toList → base ≤ g := fun g mm => (o.lt (Option.mem_toList.1 mm)).1
  refine ⟨h.kp.trans kb (by simp) (fun g mm => .inr (Nat.le_trans hw (hlt g mm))), ⟨m, hp.kept kb (fun mm => ?_) (fun b' e mm => ?_), hm⟩, h.new, h.fo, h.cp⟩
  · have := hlt t mm
    omega
  · subst e
    have hb := Option.mem_toList.1 mm
    rcases o.2 with ⟨e, _⟩ | ⟨g', c, cur, e, _, hgg, _⟩
    · rw [e] at hb; cases hb
    · rw [e] at hb
      cases hb
      exact hp.noc _ _ _ hgg
theorem pin_slot {o : Int} {j : Nat} (h : 1 ≤ o ∧ o ≤ 64) (hj : j ≤ 16) : PIn (o, (j : Int)) := ⟨in64_of (by show _ ≤ o; omega) (by show o ≤ _; omega), in64_of (by show _ ≤ (j : Int); omega) (by show (j : Int) ≤ _; omega)⟩
theorem TabIn.small {w wr : World} {t : Nat} {L : List Sl} (h : TabIn w t L wr) : L.length ≤ 65536 := by
  obtain ⟨m, hp, hm⟩ := h.tab
  exact hp.small
/-- What empty leaves. -/
def KeP (w : World) (t : Nat) (R : List (Int × Int) × List Sl) (wr : World) (e : Ending) (w' : World) : Prop := ∃ v, e = .returned v ∧ Ol wr.heap.size w' v R.1 ∧ TabIn w t R.2 w' ∧ Tch w t wr w'
/-- Delete, of tables of so many slots. -/
def KDel (m : Nat) (w : World) (t : Nat) : Prop := ∀ (wr : World) (L : List Sl), TabIn w t L wr → L.length ≤ m → ∀ n s : Int, PIn (n, s) → Calls Try.prog 12 #[.pointer (some ⟨t, 0, none⟩), .agg #[.int .i64 n, .int .i64 s]] wr (KlP w t (delF m L n s) wr)
set_option maxRecDepth 4000 in
set_option maxHeartbeats 2000000 in
theorem kempty {m : Nat} {w : World} {t : Nat} (ih : KDel m w t) {wr : World} {L : List Sl} (h : TabIn w t L wr) (hm : L.length ≤ m) {o : Int} (ho : 1 ≤ o ∧ o ≤ 64) {R : List (Int × Int) × List Sl} (hR : delS (delF m) o 16 0 L = R) :
    Calls Try.prog 34 #[.pointer (some ⟨t, 0, none⟩), .int .i64 o] wr (KeP w t R wr) := by
  have hsm := h.small
  have tlt := hide h.lt
  have hw := hide h.kp.size
  have H := hide h
  have IH := hide ih
  replace hR := hide hR
  replace ho := hide ho
  clear h ih
  go_enter Try.func34, Try.ntmps34
  go_wp2_with fail
  obtain ⟨B, eB⟩ : ∃ B, wr.heap.size = B := ⟨_, rfl⟩
  go_loopg [5, 9] 16 (fun mm v si wx => ∃ j : Nat, j ≤ 16 ∧ mm = 16 - j ∧ si = .int .i64 j ∧ ∃ os L', Ol B wx v os ∧ TabIn w t L' wx ∧ Tch w t wr wx ∧ L'.length ≤ m ∧ os.length + L'.length ≤ 65540 ∧ (os ++ (delS (delF m) o (16 - j) j L').1, (delS (delF m) o (16 - j) j L').2) = R)
  case atStart => exact ⟨0, by omega, rfl, rfl, [], L, Ol.nil _ _, unhide H, .of (Kp.refl _ _), hm, by simp; omega, unhide hR⟩
  case round =>
    obtain ⟨j, hj, rfl, rfl, os, L', hO, hT, hC, hlm, hol, hRR⟩ := hrel
    clear H hR
    obtain ⟨av, cv, ev⟩ := hO.form
    subst ev
    by_cases hlt : j < 16
    · have b2 : (j : Int) < 16 := by omega
      have hdel := unhide IH _ _ hT hlm o (j : Int) (pin_slot (unhide ho) hj)
      have hsh := delF_len m L' o (j : Int)
      rw [show 16 - j = (16 - (j + 1)) + 1 by omega, delS_more] at hRR
      obtain ⟨⟨r1, L2, cc⟩, hr⟩ : ∃ r, delF m L' o (j : Int) = r := ⟨_, rfl⟩
      rw [hr] at hdel hsh hRR
      simp only at hsh hRR
      replace hO := hide hO
      replace hT := hide hT
      replace hC := hide hC
      replace hdel := hide hdel
      replace hRR := hide hRR
      clear hr
      go_wp2_with fail
      refine (unhide hdel).mono ?_
      rintro e W6 ⟨v6, rfl, O7, X6, C6⟩
      simp only at O7 X6 ⊢
      have O6 := hide (C6.ol (unhide hO) (by have := unhide tlt; omega))
      have CC6 := hide ((unhide hC).trans C6)
      have hBs : Hid (B ≤ W6.heap.size) := by have h2 := (unhide CC6).size; unfold Hid; omega
      replace X6 := hide X6
      replace O7 := hide O7
      clear C6 hO hT hC hdel
      go_wp2_with (first
        | (at_builtin; refine olist_app rfl _ _ rfl _ (.slice av os.length cv) _ os r1 rfl rfl (unhide O6) (unhide O7).src ?c1 ?c2 ?_)
        | go_in)
      case c1 => omega
      case c2 => exact unhide hBs
      intro v' W8 hO8 hg8 hat8
      have kb := kp_by hg8
      have X8 := hide ((unhide X6).ol (unhide O6) kb (by have := unhide tlt; omega) (by have := unhide hw; omega))
      have C8 := hide ((unhide CC6).more kb (fun g mm => by have := ((unhide O6).lt (Option.mem_toList.1 mm)).1; omega) (unhide hw))
      have O8 := hide hO8
      clear hO8 hg8 hat8 kb O6 O7 X6 CC6
      go_wp2
      go_roundg (16 - (j + 1))
      case measure => omega
      case rel => exact ⟨j + 1, by omega, rfl, by go_num, os ++ r1, L2, unhide O8, unhide X8, unhide C8, by omega, by rw [List.length_append]; omega, by rw [List.append_assoc, show ((j + 1 : Nat) : Int) = (j : Int) + 1 by omega]; exact unhide hRR⟩
    · have b2 : decide ((j : Int) < 16) = false := by simp; omega
      obtain rfl : j = 16 := by omega
      have e1 : (os, L') = R := by rw [← hRR]; simp [delS]
      subst e1
      replace hO := hide hO
      replace hT := hide hT
      replace hC := hide hC
      clear hRR
      go_wp2
      refine bodyPost_ret (v := .slice av os.length cv) (by simp [results, Try.results34, go_sem, *]) rfl ⟨_, rfl, ?_, unhide hT, unhide hC⟩
      rw [eB]
      exact unhide hO
set_option maxRecDepth 4000 in
set_option maxHeartbeats 1000000 in
theorem kdelete_no (m : Nat) {w wr : World} {t : Nat} {L : List Sl} (h : TabIn w t L wr) {n s : Int} (hi : PIn (n, s)) (hn : lkS L n s = none) :
    Calls Try.prog 12 #[.pointer (some ⟨t, 0, none⟩), .agg #[.int .i64 n, .int .i64 s]] wr (KlP w t (delF m L n s) wr) := by
  rw [delF_none hn]
  have K0 := hide ((Kp.refl [] wr).alloc (.cells #[.int .i64 n, .int .i64 s] 28))
  have H := hide h
  have hc : Hid (Calls Try.prog 27 #[.pointer (some ⟨t, 0, none⟩), .agg #[.int .i64 n, .int .i64 s]] (wr.alloc (.cells #[.int .i64 n, .int .i64 s] 28)) fun e w' => e = .returned (.tuple #[.agg #[.int .i64 0, .int .i64 0, .int .i64 0, .int .i64 0, .int .i64 0], .bool false]) ∧ Kp [] (wr.alloc (.cells #[.int .i64 n, .int .i64 s] 28)) w') := by
    rcases tget_lk (h.grew (unhide K0)) hi with ⟨_, q⟩ | ⟨y, hy, _⟩
    · exact q
    · rw [hn] at hy; cases hy
  clear h
  replace hn := hide hn
  go_enter Try.func12, Try.ntmps12
  go_wp2_with fail
  refine (unhide hc).mono ?_
  rintro e W1 ⟨rfl, K1⟩
  have K2 := hide (((unhide K0).then K1).alloc (.cells #[.int .i64 0, .int .i64 0, .int .i64 0, .int .i64 0, .int .i64 0] 31))
  clear K1 hc
  go_wp2
  refine bodyPost_ret (v := .tuple #[.slice none 0 0, .int .i64 4]) (by simp [results, Try.results12, go_sem, *]) rfl ⟨_, rfl, Ol.nil _ _, (unhide H).grew (unhide K2), .of (unhide K2)⟩
/-- Two boxes, the place's and the capability's. -/
structure Kd (w : World) (t : Nat) (wr : World) (P C : Nat) (L : List Sl) (n s k o z b r : Int) (wx : World) : Prop where
  tb : TabIn w t L wx
  ch : Tch w t wr wx
  p : Bk wx P 28 [.int .i64 n, .int .i64 s]
  c : Bk wx C 31 [.int .i64 k, .int .i64 o, .int .i64 z, .int .i64 b, .int .i64 r]
theorem Kd.grew {w : World} {t : Nat} {wr : World} {P C : Nat} {L : List Sl} {n s k o z b r : Int} {wx wy : World} (h : Kd w t wr P C L n s k o z b r wx) (q : Kp [] wx wy) : Kd w t wr P C L n s k o z b r wy := ⟨h.tb.grew q, h.ch.trans (.of q), h.p.kept q (by simp), h.c.kept q (by simp)⟩
theorem Kd.turned {w : World} {t : Nat} {wr : World} {P C : Nat} {L L' : List Sl} {n s k o z b r : Int} {wx wy : World} (h : Kd w t wr P C L n s k o z b r wx) (X : TabIn w t L' wy) (T : Tch w t wx wy) (hp : P ≠ t) (hc : C ≠ t) : Kd w t wr P C L' n s k o z b r wy := ⟨X, h.ch.trans T, T.bk h.p hp, T.bk h.c hc⟩
set_option maxRecDepth 4000 in
set_option maxHeartbeats 4000000 in
theorem kdel (m : Nat) : ∀ (w : World) (t : Nat), KDel m w t := by
  induction m with
  | zero =>
    intro w t wr L h hL n s hi
    have e : L = [] := List.length_eq_zero_iff.1 (by omega)
    subst e
    exact kdelete_no 0 h hi rfl
  | succ m ih =>
    intro w t wr L h hL n s hi
    cases ha : atL L n s with
    | none => exact kdelete_no (m + 1) h hi (by unfold lkS; rw [ha])
    | some i =>
      obtain ⟨y, hy, _⟩ := atL_some ha
      rw [delF_some ha hy]
      have hcap := h.cp y (List.mem_of_getElem? hy)
      obtain ⟨L1, eL1⟩ : ∃ L1, dropL L n s i y = L1 := ⟨_, rfl⟩
      have hlen1 : L1.length ≤ m := by have := drop_len1 (n := n) (s := s) hy; rw [eL1] at this; omega
      have hdrop : Hid (∀ wx, TabIn w t L wx → Calls Try.prog 32 #[.pointer (some ⟨t, 0, none⟩), .agg #[.int .i64 n, .int .i64 s]] wx (TInP w t L1 wx (.bool true))) := fun wx hx => tdrop_yes hx ha hy eL1
      have hget : Calls Try.prog 27 #[.pointer (some ⟨t, 0, none⟩), .agg #[.int .i64 n, .int .i64 s]] (wr.alloc (.cells #[.int .i64 n, .int .i64 s] 28)) fun e w' => e = .returned (.tuple #[.agg #[.int .i64 y.k, .int .i64 y.o, .int .i64 y.z, .int .i64 y.b, .int .i64 y.r], .bool true]) ∧ Kp [] (wr.alloc (.cells #[.int .i64 n, .int .i64 s] 28)) w' := by
        have hlk : lkS L n s = some y := by unfold lkS; rw [ha]; exact hy
        rcases tget_lk (h.grew ((Kp.refl [] wr).alloc (.cells #[.int .i64 n, .int .i64 s] 28))) hi with ⟨q, _⟩ | ⟨y', q, c⟩
        · rw [hlk] at q; cases q
        · rw [hlk] at q; cases q; exact c
      rw [eL1]
      obtain ⟨yn, ys, yu, yv, yk, yo, yz, yb, yr⟩ := y
      have ho : Hid (1 ≤ yo ∧ yo ≤ 64) := ((chk_iff _ _ _ _ _).1 hcap).2.2.1
      simp only at hget ⊢
      have tlt := hide h.lt
      have hw := hide h.kp.size
      have H := hide h
      replace hget := hide hget
      have IH := hide (ih w t)
      clear h ha hy eL1 hcap ih
      have K0 := hide ((Kp.refl [] wr).alloc (.cells #[.int .i64 n, .int .i64 s] 28))
      have P0 := hide (Bk.new wr 28 [.int .i64 n, .int .i64 s])
      have hPt : Hid (wr.heap.size ≠ t) := by have := unhide tlt; unfold Hid; omega
      obtain ⟨R, hR⟩ : ∃ R, (if 0 < (sel (nameF yk yo yz) L1).length then (([] : List (Int × Int)), L1, (0 : Int)) else if yk ≠ 2 then ([(yk, yo)], L1, 0) else ((yk, yo) :: (delS (delF m) yo 16 0 L1).1, (delS (delF m) yo 16 0 L1).2, 0)) = R := ⟨_, rfl⟩
      rw [hR]
      replace hR := hide hR
      go_enter Try.func12, Try.ntmps12
      go_wp2_with fail
      refine (unhide hget).mono ?_
      rintro e W1 ⟨rfl, K1⟩
      have K2 := hide ((unhide K0).then (K1.alloc (.cells #[.int .i64 yk, .int .i64 yo, .int .i64 yz, .int .i64 yb, .int .i64 yr] 31)))
      have D1 := hide (Kd.mk (t := t) ((unhide H).grew (unhide K2)) (.of (unhide K2)) (((unhide P0).kept K1 (by simp)).alloc (.cells #[.int .i64 yk, .int .i64 yo, .int .i64 yz, .int .i64 yb, .int .i64 yr] 31)) (Bk.new W1 31 [.int .i64 yk, .int .i64 yo, .int .i64 yz, .int .i64 yb, .int .i64 yr]))
      have hCt : Hid (W1.heap.size ≠ t) := by have h1 := K1.size; have h2 := (unhide K0).size; have h3 := unhide tlt; unfold Hid; omega
      obtain ⟨C, eC⟩ : ∃ C, W1.heap.size = C := ⟨_, rfl⟩
      rw [eC] at D1 hCt
      clear K1 hget P0 K0 K2 H
      have p0 := (unhide D1).p.cell (i := 0) rfl
      have p1 := (unhide D1).p.cell (i := 1) rfl
      go_wp2_with fail
      generalize W1.alloc (.cells #[.int .i64 yk, .int .i64 yo, .int .i64 yz, .int .i64 yb, .int .i64 yr] 31) = W2 at *
      clear eC
      refine (unhide hdrop _ (unhide D1).tb).mono ?_
      rintro e W3 ⟨rfl, X3, T3⟩
      have D3 := hide ((unhide D1).turned X3 T3 (unhide hPt) (unhide hCt))
      clear X3 T3 D1 p0 p1 hdrop
      obtain ⟨c0, c1, c2, c3, c4⟩ : W3.cell? ⟨C, 0, none⟩ = some (.int .i64 yk) ∧ W3.cell? ⟨C, 1, none⟩ = some (.int .i64 yo) ∧ W3.cell? ⟨C, 2, none⟩ = some (.int .i64 yz) ∧ W3.cell? ⟨C, 3, none⟩ = some (.int .i64 yb) ∧ W3.cell? ⟨C, 4, none⟩ = some (.int .i64 yr) := ⟨(unhide D3).c.cell rfl, (unhide D3).c.cell rfl, (unhide D3).c.cell rfl, (unhide D3).c.cell rfl, (unhide D3).c.cell rfl⟩
      go_wp2_with fail
      refine (tnamed (unhide D3).tb yk yo yz yb yr).mono ?_
      rintro e W4 ⟨v4, rfl, P4, K4⟩
      obtain ⟨a4, c4', e4⟩ := P4.form
      subst e4
      have D4 := hide ((unhide D3).grew K4)
      clear P4 K4 D3 c0 c1 c2 c3 c4
      obtain ⟨c0, c1, c2, c3, c4⟩ : W4.cell? ⟨C, 0, none⟩ = some (.int .i64 yk) ∧ W4.cell? ⟨C, 1, none⟩ = some (.int .i64 yo) ∧ W4.cell? ⟨C, 2, none⟩ = some (.int .i64 yz) ∧ W4.cell? ⟨C, 3, none⟩ = some (.int .i64 yb) ∧ W4.cell? ⟨C, 4, none⟩ = some (.int .i64 yr) := ⟨(unhide D4).c.cell rfl, (unhide D4).c.cell rfl, (unhide D4).c.cell rfl, (unhide D4).c.cell rfl, (unhide D4).c.cell rfl⟩
      have hsl := sel_len (nameF yk yo yz) L1
      have hsm := (unhide D4).tb.small
      obtain ⟨q, hq⟩ : ∃ q, (sel (nameF yk yo yz) L1).length = q := ⟨_, rfl⟩
      rw [hq] at hsl ⊢
      have hR1 := unhide hR
      rw [hq] at hR1
      clear hR hq
      by_cases hq0 : 0 < q
      · rw [if_pos hq0] at hR1
        subst hR1
        have b1 : (0 : Int) < (q : Int) := by omega
        go_wp2
        refine bodyPost_ret (v := .tuple #[.slice none 0 0, .int .i64 0]) (by simp [results, Try.results12, go_sem, *]) rfl ⟨_, rfl, Ol.nil _ _, (unhide D4).tb, (unhide D4).ch⟩
      · rw [if_neg hq0] at hR1
        have b1 : decide ((0 : Int) < (q : Int)) = false := by simp; omega
        have D5 := hide ((unhide D4).grew ((Kp.refl [] W4).alloc (.cells #[.int .i64 yk, .int .i64 yo] 40)))
        have O5 := hide (ol_one wr W4 yk yo (unhide D4).ch.size)
        by_cases hk2 : yk = 2
        · subst hk2
          rw [if_neg (by decide)] at hR1
          obtain ⟨⟨RG, RL⟩, hS⟩ : ∃ r, delS (delF m) yo 16 0 L1 = r := ⟨_, rfl⟩
          rw [hS] at hR1
          subst hR1
          have hsl2 := delS_len (delF_len m) yo 16 0 L1
          rw [hS] at hsl2
          simp only at hsl2
          replace hS := hide hS
          have O6 := hide (ol_one W4 W4 2 yo (Nat.le_refl _))
          have hC4 : Hid (wr.heap.size ≤ W4.heap.size ∧ t < W4.heap.size ∧ w.heap.size ≤ W4.heap.size) := by
            have := (unhide D4).ch.size
            have h2 := unhide tlt
            have h3 := unhide hw
            unfold Hid
            omega
          clear O5
          have d0 := (unhide D5).c.cell (i := 0) rfl
          have d1 := (unhide D5).c.cell (i := 1) rfl
          obtain ⟨B, eB⟩ : ∃ B, W4.heap.size = B := ⟨_, rfl⟩
          rw [eB] at O6 hC4
          go_wp2_with fail
          generalize W4.alloc (.cells #[.int .i64 2, .int .i64 yo] 40) = W5 at *
          clear D4 eB c0 c1 c2 c3 c4
          refine (kempty (unhide IH) (unhide D5).tb hlen1 (unhide ho) (unhide hS)).mono ?_
          rintro e W6 ⟨v6, rfl, O7, X7, T7⟩
          simp only at O7 X7 ⊢
          have O8 := hide (T7.ol (unhide O6) (unhide hC4).2.1)
          have D7 := hide ((unhide D5).turned X7 T7 (unhide hPt) (unhide hCt))
          have hB6 : Hid (B ≤ W6.heap.size) := by
            have := T7.size
            have := ((unhide O6).lt (g := B) rfl).2
            unfold Hid
            omega
          replace O7 := hide O7
          clear X7 T7 O6 D5 d0 d1
          go_wp2_with (first
            | (at_builtin; refine olist_app rfl _ _ rfl _ (.slice (some ⟨B, 0, none⟩) 1 1) _ [(2, yo)] RG rfl rfl (unhide O8) (unhide O7).src ?c1 ?c2 ?_)
            | go_in)
          case c1 => simp; omega
          case c2 => exact unhide hB6
          intro v' W8 hO8 hg8 hat8
          have kb := kp_by hg8
          have X8 := hide ((unhide D7).tb.ol (unhide O8) kb (unhide hC4).2.1 (unhide hC4).2.2)
          have C8 := hide ((unhide D7).ch.more kb (fun g mm => by have := ((unhide O8).lt (Option.mem_toList.1 mm)).1; have := (unhide hC4).1; omega) (unhide hw))
          obtain ⟨av, cv, ev⟩ := hO8.form
          subst ev
          have O9 := hide (hO8.mono (base' := wr.heap.size) (unhide hC4).1)
          clear hO8 hg8 hat8 kb O7 O8 D7
          go_wp2
          refine bodyPost_ret (v := .tuple #[.slice av ([(2, yo)] ++ RG).length cv, .int .i64 0]) (by simp [results, Try.results12, go_sem, *]) rfl ⟨_, rfl, unhide O9, unhide X8, unhide C8⟩
        · rw [if_pos hk2] at hR1
          subst hR1
          have b2 : (yk == 2) = false := by simp [hk2]
          replace hk2 := hide hk2
          have d0 := (unhide D5).c.cell (i := 0) rfl
          go_wp2
          refine bodyPost_ret (v := .tuple #[.slice (some ⟨W4.heap.size, 0, none⟩) 1 1, .int .i64 0]) (by simp [results, Try.results12, go_sem, *]) rfl ⟨_, rfl, unhide O5, (unhide D5).tb, (unhide D5).ch⟩
theorem kdelete {w wr : World} {t m : Nat} {L : List Sl} (h : TabIn w t L wr) (hm : L.length ≤ m) {n s : Int} (hi : PIn (n, s)) {R : List (Int × Int) × List Sl × Int} (hR : delF m L n s = R) :
    Calls Try.prog 12 #[.pointer (some ⟨t, 0, none⟩), .agg #[.int .i64 n, .int .i64 s]] wr (KlP w t R wr) := by subst hR; exact kdel m w t wr L h hm n s hi
theorem climb_in {L : List Sl} (hF : Forest L) (n s : Int) (m : Nat) : ∀ u v : Int, ((u, v) = ((0 : Int), (0 : Int)) ∨ (u, v) ∈ L.map ppl) → (climb L n s m u v = (0, 0) ∨ climb L n s m u v ∈ L.map ppl) := by
  induction m with
  | zero => intro u v h; exact h
  | succ m ih =>
    intro u v h
    unfold climb
    split
    · exact h
    · refine ih _ _ ?_
      unfold parL
      cases ha : atL L u v with
      | none => exact .inl rfl
      | some i =>
        obtain ⟨y, hy, _⟩ := atL_some ha
        simp only [hy]
        exact hF.up' (List.mem_of_getElem? hy)
/-- Below a place that has none nothing is. -/
theorem low_gone {L : List Sl} (hF : Forest L) {n s : Int} (h : (lkS L n s).isSome = false) : sel (lowF L n s) L = [] := by
  have hn : atL L n s = none := by
    cases ha : atL L n s with
    | none => rfl
    | some i =>
      obtain ⟨y, hy, _⟩ := atL_some ha
      unfold lkS at h
      rw [ha] at h
      simp only [hy] at h
      cases h
  have hno := not_in hn
  unfold sel
  rw [List.filter_eq_nil_iff.2, List.map_nil]
  intro x hx hl
  unfold lowF at hl
  simp only [Bool.and_eq_true, beq_iff_eq, Bool.not_eq_true', Bool.and_eq_false_iff, beq_eq_false_iff_ne] at hl
  obtain ⟨⟨h1, h2⟩, h3⟩ := hl
  have hc := climb_in hF n s (L.length + 1) x.u x.v (hF.up' hx)
  have e : climb L n s (L.length + 1) x.u x.v = (n, s) := Prod.ext h1 h2
  rw [e] at hc
  rcases hc with q | q
  · have e1 : n = 0 := congrArg Prod.fst q
    have e2 : s = 0 := congrArg Prod.snd q
    rcases h3 with h3 | h3
    · exact h3 e1
    · exact h3 e2
  · exact hno q
theorem tget_any {w wr : World} {t : Nat} {L : List Sl} (h : TabIn w t L wr) {n s : Int} (hi : PIn (n, s)) {b : Bool} (hb : (lkS L n s).isSome = b) :
    ∃ k o z bb r : Int, Calls Try.prog 27 #[.pointer (some ⟨t, 0, none⟩), .agg #[.int .i64 n, .int .i64 s]] wr fun e w' => e = .returned (.tuple #[.agg #[.int .i64 k, .int .i64 o, .int .i64 z, .int .i64 bb, .int .i64 r], .bool b]) ∧ Kp [] wr w' := by
  rcases tget_lk h hi with ⟨hn, hc⟩ | ⟨y, hy, hc⟩
  · rw [hn] at hb; subst hb; exact ⟨0, 0, 0, 0, 0, hc⟩
  · rw [hy] at hb; subst hb; exact ⟨_, _, _, _, _, hc⟩
set_option maxRecDepth 4000 in
set_option maxHeartbeats 4000000 in
theorem krevoke {w w0 : World} {t m : Nat} {L : List Sl} (h : TabIn w t L w0) (hm : L.length ≤ m) {n s : Int} (hi : PIn (n, s)) {R : List (Int × Int) × List Sl × Int} (hR : revR m L n s = R) :
    Calls Try.prog 14 #[.pointer (some ⟨t, 0, none⟩), .agg #[.int .i64 n, .int .i64 s]] w0 (KlP w t R w0) := by
  obtain ⟨b0, hb0⟩ : ∃ b, (lkS L n s).isSome = b := ⟨_, rfl⟩
  unfold revR at hR
  rw [hb0] at hR
  replace hR := hide hR
  have tlt := hide h.lt
  have hw := hide h.kp.size
  have hsm := h.small
  have K0 := hide ((Kp.refl [] w0).alloc (.cells #[.int .i64 n, .int .i64 s] 28))
  have P0 := hide (Bk.new w0 28 [.int .i64 n, .int .i64 s])
  have hPt : Hid (w0.heap.size ≠ t) := by have := unhide tlt; unfold Hid; omega
  obtain ⟨k1, o1, z1, b1, r1, hget⟩ := tget_any (h.grew (unhide K0)) hi hb0
  have H := hide h
  replace hget := hide hget
  clear h
  go_enter Try.func14, Try.ntmps14
  go_wp2_with fail
  refine (unhide hget).mono ?_
  rintro e W1 ⟨rfl, K1⟩
  have K2 := hide (((unhide K0).then K1).alloc (.cells #[.int .i64 k1, .int .i64 o1, .int .i64 z1, .int .i64 b1, .int .i64 r1] 31))
  have P2 := hide (((unhide P0).kept K1 (by simp)).alloc (.cells #[.int .i64 k1, .int .i64 o1, .int .i64 z1, .int .i64 b1, .int .i64 r1] 31))
  have H2 := hide ((unhide H).grew (unhide K2))
  clear K1 hget K0 P0
  cases b0
  · have e : R = ([], L, 4) := (unhide hR).symm
    subst e
    go_wp2
    refine bodyPost_ret (v := .tuple #[.slice none 0 0, .int .i64 4]) (by simp [results, Try.results14, go_sem, *]) rfl ⟨_, rfl, Ol.nil _ _, unhide H2, .of (unhide K2)⟩
  · have hR1 : ((revF m L n s).1, (revF m L n s).2, (0 : Int)) = R := unhide hR
    clear hR
    have hR := hide hR1
    clear hR1
    replace hb0 := hide hb0
    have hB : Hid (w0.heap.size < (W1.alloc (.cells #[.int .i64 k1, .int .i64 o1, .int .i64 z1, .int .i64 b1, .int .i64 r1] 31)).heap.size) := (unhide P2).lt
    have p0 := (unhide P2).cell (i := 0) rfl
    have p1 := (unhide P2).cell (i := 1) rfl
    go_wp2_with fail
    generalize W1.alloc (.cells #[.int .i64 k1, .int .i64 o1, .int .i64 z1, .int .i64 b1, .int .i64 r1] 31) = W2 at *
    refine (tbelow (unhide H2) hi).mono ?_
    rintro e W3 ⟨v3, rfl, P3, K3⟩
    have hV3 := hide (P3.view (by have := sel_len (lowF L n s) L; omega))
    have X3 := hide ((unhide H2).grew K3)
    have C3 := hide (Tch.of (w := w) (t := t) ((unhide K2).then K3))
    have Q3 := hide ((unhide P2).kept K3 (by simp))
    obtain ⟨B, eB⟩ : ∃ B, W2.heap.size = B := ⟨_, rfl⟩
    rw [eB] at hB
    have hBs : Hid (B ≤ W3.heap.size) := by have := K3.size; unfold Hid; omega
    clear eB H H2 P2 K2 P3 K3 p0 p1
    go_wp2_with fail
    go_loopg [8, 9] L.length (fun mm gv bv wx => ∃ isb L' os f, mm = L'.length ∧ (lkS L' n s).isSome = isb ∧ PV wx bv (sel (lowF L' n s) L') ∧ Ol B wx gv os ∧ TabIn w t L' wx ∧ Bk wx w0.heap.size 28 [.int .i64 n, .int .i64 s] ∧ Tch w t w0 wx ∧ B ≤ wx.heap.size ∧ os.length + L'.length ≤ 65540 ∧ L'.length ≤ f ∧ (if isb = true then (os ++ (revF f L' n s).1, (revF f L' n s).2, (0 : Int)) else (os, L', 0)) = R)
    case atStart => exact ⟨true, L, [], m, rfl, unhide hb0, unhide hV3, Ol.nil _ _, unhide X3, unhide Q3, unhide C3, unhide hBs, by simp; omega, hm, by rw [if_pos rfl]; exact unhide hR⟩
    case round =>
      obtain ⟨isb, L', os, f, rfl, his, hv, hO, hT, hP, hC, hBr, hol, hlf, hRR⟩ := hrel
      clear X3 Q3 C3 hV3 hBs hb0 hR
      obtain ⟨av, cv, ev⟩ := hO.form
      subst ev
      obtain ⟨a3, c3, e3, _, hv3⟩ := hv
      subst e3
      have hsl := sel_len (lowF L' n s) L'
      have hsm2 := hT.small
      cases hs : sel (lowF L' n s) L' with
      | nil =>
        have e : (os, L', (0 : Int)) = R := by
          rw [← hRR]
          cases isb
          · rfl
          · rw [if_pos rfl, revF_end hs]; simp
        subst e
        have hO2 := hide (hO.mono (base' := w0.heap.size) (by have := unhide hB; omega))
        replace hT := hide hT
        replace hC := hide hC
        clear hO hP his hv3 hRR
        replace hs := hide hs
        go_wp2
        refine bodyPost_ret (v := .tuple #[.slice av os.length cv, .int .i64 0]) (by simp [results, Try.results14, go_sem, *]) rfl ⟨_, rfl, unhide hO2, unhide hT, unhide hC⟩
      | cons q qs =>
        have hib : isb = true := by
          cases isb
          · rw [low_gone hT.fo his] at hs; cases hs
          · rfl
        subst hib
        rw [if_pos rfl] at hRR
        obtain ⟨i, hii⟩ := sel_at hs
        have hless := delF_less hii
        have hsh := delF_len L'.length L' q.1 q.2
        obtain ⟨k, hk⟩ : ∃ k, f = k + 1 := ⟨f - 1, by omega⟩
        rw [hk, revF_more hs] at hRR
        have hqi : PIn (q.1, q.2) := by
          obtain ⟨y, hy, e1, e2⟩ := atL_some hii
          have := hT.fo.ok y (List.mem_of_getElem? hy)
          rw [e1, e2] at this
          exact pin_ok this
        have hdel := kdel L'.length w t _ _ hT (Nat.le_refl _) q.1 q.2 hqi
        obtain ⟨⟨r2, L2, cc⟩, hr⟩ : ∃ r, delF L'.length L' q.1 q.2 = r := ⟨_, rfl⟩
        rw [hr] at hdel hsh hless hRR
        simp only at hsh hless hRR
        rw [hs] at hv3 hsl
        obtain ⟨g, rfl, hc⟩ := hv3.resolve_left (by simp)
        obtain ⟨x0, x1⟩ := hc 0 q rfl
        obtain ⟨qn, qss⟩ := q
        simp only [Nat.zero_mul, Nat.zero_add] at x0 x1
        obtain ⟨b2, hb2⟩ : ∃ b, (lkS L2 n s).isSome = b := ⟨_, rfl⟩
        rw [hb2] at hRR
        have hlen : (0 : Int) < (qs.length : Int) + 1 := by omega
        replace hO := hide hO
        replace hP := hide hP
        replace hC := hide hC
        replace hdel := hide hdel
        replace hRR := hide hRR
        replace hb2 := hide hb2
        replace hT := hide hT
        clear hr hii hc hs his hqi
        go_wp2_with fail
        refine (unhide hdel).mono ?_
        rintro e W6 ⟨v6, rfl, O7, X6, C6⟩
        simp only at O7 X6 ⊢
        have O6 := hide (C6.ol (unhide hO) (by have := unhide tlt; have := unhide hB; omega))
        have B6 := hide (C6.bk (unhide hP) (unhide hPt))
        have CC6 := hide ((unhide hC).trans C6)
        have hB6 : Hid (B ≤ W6.heap.size) := by have := C6.size; unfold Hid; omega
        replace X6 := hide X6
        replace O7 := hide O7
        clear C6 hO hT hP hC hdel x0 x1
        go_wp2_with (first
          | (at_builtin; refine olist_app rfl _ _ rfl _ (.slice av os.length cv) _ os r2 rfl rfl (unhide O6) (unhide O7).src ?c1 ?c2 ?_)
          | go_in)
        case c1 => omega
        case c2 => exact unhide hB6
        intro v' W8 hO8 hg8 hat8
        have kb := kp_by hg8
        have X8 := hide ((unhide X6).ol (unhide O6) kb (by have := unhide tlt; have := unhide hB; omega) (by have := unhide hw; have := unhide hB; omega))
        have C8 := hide ((unhide CC6).more kb (fun g mm => by have := ((unhide O6).lt (Option.mem_toList.1 mm)).1; have := unhide hB; omega) (unhide hw))
        have B8 := hide ((unhide B6).kept kb (fun mm => by have := ((unhide O6).lt (Option.mem_toList.1 mm)).1; have := unhide hB; omega))
        have hB8 : B ≤ W8.heap.size := Nat.le_trans (unhide hB6) kb.size
        have O8 := hide hO8
        clear hO8 hg8 hat8 kb O6 O7 X6 B6 CC6 hB6
        have p0 := (unhide B8).cell (i := 0) rfl
        have p1 := (unhide B8).cell (i := 1) rfl
        go_wp2_with fail
        refine (tbelow (unhide X8) hi).mono ?_
        rintro e W9 ⟨v9, rfl, P9, K9⟩
        have hV9 := hide (P9.view (by have := sel_len (lowF L2 n s) L2; omega))
        have O9 := hide ((unhide O8).kept K9 (by simp))
        have X9 := hide ((unhide X8).grew K9)
        have B9 := hide ((unhide B8).kept K9 (by simp))
        have C9 := hide ((unhide C8).trans (.of K9))
        have hB9 : B ≤ W9.heap.size := Nat.le_trans hB8 K9.size
        clear K9 P9 O8 X8 B8 C8 p0 p1
        go_wp2
        go_roundg L2.length
        case measure => omega
        case rel =>
          refine ⟨b2, L2, os ++ r2, k, rfl, unhide hb2, unhide hV9, unhide O9, unhide X9, unhide B9, unhide C9, hB9, by rw [List.length_append]; omega, by omega, ?_⟩
          have e' := unhide hRR
          cases b2
          · simpa using e'
          · simpa [List.append_assoc] using e'
end Go.Proofs.Ytdlkaaiedfikoaa
