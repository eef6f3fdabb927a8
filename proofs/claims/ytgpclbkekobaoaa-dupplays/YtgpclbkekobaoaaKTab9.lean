/- The document's table: Move, where it may be. -/
import Derived.Test.YtgpclbkekobaoaaKTab7
namespace Go.Proofs.Ytgpclbkekobaoaa
open Go.RowKit
set_option linter.unusedVariables false
theorem Mv.kept {base : Nat} {w : World} {Q t : Nat} {a : Option Addr} {cap : Nat} {M : List Sl} {n s n' s' : Int} {x : Sl} {wx wy : World} (h : Mv base w Q t a cap M n s n' s' x wx) (k : Kp [] wx wy) : Mv base w Q t a cap M n s n' s' x wy :=
  ⟨h.rt.grew k, h.p.kept k (by simp), h.q.kept k (by simp), h.x.kept k (by simp), h.kp.trans k (by simp) (by simp), h.far⟩
theorem Mv.moved {base : Nat} {w : World} {Q t : Nat} {a : Option Addr} {cap : Nat} {M : List Sl} {n s n' s' : Int} {x : Sl} {wx : World} (h : Mv base w Q t a cap M n s n' s' x wx) (hQ : w.heap.size + 2 ≤ Q) (ht : t < w.heap.size) :
    Mv base w Q t a cap M n s n' s' { x with n := n', s := s' } ((wx.setCell ⟨Q, 0, none⟩ (.int .i64 n')).setCell ⟨Q, 1, none⟩ (.int .i64 s')) :=
  have hk : Kp [Q] wx ((wx.setCell ⟨Q, 0, none⟩ (.int .i64 n')).setCell ⟨Q, 1, none⟩ (.int .i64 s')) := ((Kp.refl [Q] wx).setCell (.inl (by simp)) _).setCell (.inl (by simp)) _
  ⟨h.rt.kept hk (by simp; omega) (fun g hg => by have := h.far g hg; simp; omega), h.p.kept hk (by simp; omega), h.q.kept hk (by simp; omega), (h.x.set 0 _).set 1 _, h.kp.trans hk (by simp) (by simp; omega), h.far⟩
set_option maxHeartbeats 4000000 in
set_option maxRecDepth 20000 in
theorem rmove_yes {base : Nat} {w : World} {t : Nat} {a : Option Addr} {cap : Nat} {L : List Sl} (h : RT base w t a cap L) (n s n' s' : Int) {i : Nat} {x : Sl} (hn : atL L n s = some i) (hx : L[i]? = some x) (hp : placeOk n' s' = true) (hn2 : atL L n' s' = none) :
    Calls Try.prog 43 #[.pointer (some ⟨t, 0, none⟩), .agg #[.int .i64 n, .int .i64 s], .agg #[.int .i64 n', .int .i64 s']] w (PutP base w t (moveL L n s n' s' i x)) := by
  have hi : i < L.length := (List.getElem?_eq_some_iff.1 hx).1
  have hs := h.small
  have hwt := h.head.lt
  have hbt := h.new
  obtain ⟨g, rfl⟩ := h.addr (by omega)
  have hcap := h.cap
  have K0 := ((Kp.refl [] w).alloc (.cells #[.int .i64 n, .int .i64 s] 35)).alloc (.cells #[.int .i64 n', .int .i64 s'] 35)
  have H := hide (h.grew K0)
  have HW := hide h
  have HA := hide (atL_atI hn)
  have HA2 := hide (atL_none hn2)
  have HX := hide hx
  have h1 := hide hp
  have b1 : (i : Int) < (L.length : Int) := by omega
  have b2 : ((i : Int)).toNat = i := Int.toNat_natCast i
  have b3 : decide ((i : Int) < 0) = false := decide_eq_false (by omega)
  have b4 : (i : Int) ≤ (cap : Int) := by omega
  have b5 : (L.length : Int) ≤ (cap : Int) := by omega
  clear h hn hx hp hn2 K0
  go_enter Try.func43, Try.ntmps43
  go_wp2_with fail
  refine (at_to (unhide H) n s _ (unhide HA)).mono ?_
  rintro e V1 ⟨rfl, K1⟩
  obtain ⟨B1, B2, K1w⟩ := two_boxes K1
  have p0 := B2.cell (i := 0) rfl
  have p1 := B2.cell (i := 1) rfl
  replace B1 := hide B1
  replace B2 := hide B2
  replace K1w := hide K1w
  clear K1
  go_wp2_with fail
  refine (rplace_to n' s' _ _ (unhide h1)).mono ?_
  rintro e V2 ⟨rfl, K2⟩
  replace B1 := hide ((unhide B1).kept K2 (by simp))
  replace B2 := (unhide B2).kept K2 (by simp)
  replace K1w := hide ((unhide K1w).then K2)
  clear p0 p1 K2
  have p0 := B2.cell (i := 0) rfl
  have p1 := B2.cell (i := 1) rfl
  replace B2 := hide B2
  go_wp2_with fail
  refine (at_to ((unhide HW).grew (unhide K1w)) n' s' _ (unhide HA2)).mono ?_
  rintro e W1 ⟨rfl, K3⟩
  replace B1 := hide ((unhide B1).kept K3 (by simp))
  replace B2 := hide ((unhide B2).kept K3 (by simp))
  replace K1w := hide ((unhide K1w).then K3)
  clear p0 p1 K3 H
  have R1 := (unhide HW).grew (unhide K1w)
  have c1 := R1.head.cell (i := 0) rfl
  have y0 : W1.cell? ⟨g, i * 9, none⟩ = some (.int .i64 x.n) := R1.cell (unhide HX) 0 (by omega)
  have y1 : W1.cell? ⟨g, i * 9 + 1, none⟩ = some (.int .i64 x.s) := R1.cell (unhide HX) 1 (by omega)
  have y2 : W1.cell? ⟨g, i * 9 + 2, none⟩ = some (.int .i64 x.u) := R1.cell (unhide HX) 2 (by omega)
  have y3 : W1.cell? ⟨g, i * 9 + 3, none⟩ = some (.int .i64 x.v) := R1.cell (unhide HX) 3 (by omega)
  have y4 : W1.cell? ⟨g, i * 9 + 4, none⟩ = some (.int .i64 x.k) := R1.cell (unhide HX) 4 (by omega)
  have y5 : W1.cell? ⟨g, i * 9 + 5, none⟩ = some (.int .i64 x.o) := R1.cell (unhide HX) 5 (by omega)
  have y6 : W1.cell? ⟨g, i * 9 + 6, none⟩ = some (.int .i64 x.z) := R1.cell (unhide HX) 6 (by omega)
  have y7 : W1.cell? ⟨g, i * 9 + 7, none⟩ = some (.int .i64 x.b) := R1.cell (unhide HX) 7 (by omega)
  have y8 : W1.cell? ⟨g, i * 9 + 8, none⟩ = some (.int .i64 x.r) := R1.cell (unhide HX) 8 (by omega)
  have hK2 : ∀ o1 o2, Kp [] W1 ((W1.alloc o1).alloc o2) := fun o1 o2 => ((Kp.refl [] W1).alloc o1).alloc o2
  have hsz : w.heap.size + 2 ≤ W1.heap.size := by have := (unhide B2).lt; omega
  have ltg : g < W1.heap.size := (World.ownsRow.lt R1.own g rfl).2
  have ltt : t < W1.heap.size := R1.head.lt
  replace R1 := hide R1
  replace hK2 := hide hK2
  clear HA HA2 h1
  go_wp2_with (first
    | (at_builtin; refine list_app rfl _ _ rfl (W1.heap.size + 1) _ _ [] (L.take i) rfl rfl (srow_empty (Bk.next (W1.alloc _) _ [] (by simp)) (Nat.le_refl _)) (((unhide R1).grew (unhide hK2 _ _)).src 0 i _ (by omega)) ?c3 ?c4 ?_)
    | go_in)
  case c3 => simp; omega
  case c4 => simp
  intro v1 w1 hrow hgrow hat
  have K2 : Kp [] W1 w1 ∧ W1.heap.size + 1 ≤ w1.heap.size := ⟨kp_grown (unhide hK2 _ _) hgrow (fun q hq => by cases hq; exact Nat.le_succ _), Nat.le_trans (by simp) hgrow.size⟩
  have R2 := (unhide R1).grew K2.1
  have Q2 : Bk w1 W1.heap.size 74 x.vals := bk_grown ((Bk.new W1 _ x.vals).alloc _) hgrow (fun e => absurd (Option.some.inj e) (Nat.ne_of_lt (Nat.lt_succ_self _)))
  have c4 := R2.head.cell (i := 0) rfl
  have f4 := R2.head.frozen
  replace K2 := hide K2
  replace R2 := hide R2
  replace Q2 := hide Q2
  replace hrow := hide hrow
  clear hgrow hat c1 y0 y1 y2 y3 y4 y5 y6 y7 y8
  have b6 : (i : Int) + 1 ≤ (L.length : Int) := by omega
  have b7 : ((i : Int) + 1).toNat = i + 1 := by omega
  go_upto_region 6 with fail
  go_cut [] (fun wx => ∃ a3 cap3, Mv base w W1.heap.size t a3 cap3 (L.eraseIdx i) n s n' s' x wx)
  case first =>
   by_cases hck : cap = i + 1
   · have hdr : L.drop (i + 1) = [] := List.drop_eq_nil_of_le (by omega)
     have hle : L.length - (i + 1) = 0 := by omega
     go_wp2_with (first
       | (at_builtin; refine list_app rfl _ _ rfl _ _ _ (L.take i) (L.drop (i + 1)) rfl rfl (unhide hrow) (by rw [hdr]; exact src_nil (by omega)) ?c3 ?c4 ?_)
       | go_in)
     case c3 => simp; omega
     case c4 => exact size1 (unhide K2)
     intro v2 w2 hrow2 hgrow2 hat2
     have hrow3 := hrow2
     rw [show L.take i = L.eraseIdx i from by rw [← erase_is, hdr, List.append_nil]] at hrow3
     obtain ⟨a2, c2, hv2⟩ := SRow.form hrow3
     subst hv2
     have K3 := kp_grown (unhide K2).1 hgrow2 (fun q hq => Nat.le_trans (Nat.le_succ _) (World.ownsRow.lt (unhide hrow) q hq).1)
     have ht2 := bk_grown (unhide R2).head hgrow2 (fun e => by have := (World.ownsRow.lt (unhide hrow) t e.symm).1; omega)
     have hq2 := bk_grown (unhide Q2) hgrow2 (fun e => by have := (World.ownsRow.lt (unhide hrow) W1.heap.size e.symm).1; omega)
     have hp2 := (unhide B1).kept K3 (by simp)
     have hp3 := (unhide B2).kept K3 (by simp)
     have c5 := ht2.cell (i := 0) rfl
     have f5 := ht2.frozen
     obtain ⟨a3, cap3, hR3, hg3⟩ := RT.put2 hrow3 (by omega) ht2 hbt (by omega) (by rw [List.length_eraseIdx]; split <;> omega)
     have St : Mv base w W1.heap.size t a3 cap3 (L.eraseIdx i) n s n' s' x (w2.setCell ⟨t, 0, none⟩ (.slice a2 (L.eraseIdx i).length c2)) :=
       ⟨hR3, hp2.setOther (by simp; omega) _, hp3.setOther (by simp; omega) _, hq2.setOther (by simp; omega) _, (((unhide K1w).then K3).mono (by simp)).setCell (.inl (by simp)) _, hg3⟩
     replace St := hide St
     clear hrow hrow2 hrow3 hgrow2 hat2 ht2 hq2 hp2 hp3 K2 K3 R2 Q2 R1 B1 B2 K1w hR3 hdr hle hck b4 b5 b6 b7 c4 f4
     go_wp2
     go_meet
     case rel => exact ⟨a3, cap3, unhide St⟩
   · go_wp2_with (first
       | (at_builtin; refine list_app rfl _ _ rfl _ _ _ (L.take i) (L.drop (i + 1)) rfl rfl (unhide hrow) ((unhide R2).src_end (i + 1) _ (by omega)) ?c3 ?c4 ?_)
       | go_in)
     case c3 => simp; omega
     case c4 => exact size1 (unhide K2)
     intro v2 w2 hrow2 hgrow2 hat2
     have hrow3 := hrow2
     rw [erase_is] at hrow3
     obtain ⟨a2, c2, hv2⟩ := SRow.form hrow3
     subst hv2
     have K3 := kp_grown (unhide K2).1 hgrow2 (fun q hq => Nat.le_trans (Nat.le_succ _) (World.ownsRow.lt (unhide hrow) q hq).1)
     have ht2 := bk_grown (unhide R2).head hgrow2 (fun e => by have := (World.ownsRow.lt (unhide hrow) t e.symm).1; omega)
     have hq2 := bk_grown (unhide Q2) hgrow2 (fun e => by have := (World.ownsRow.lt (unhide hrow) W1.heap.size e.symm).1; omega)
     have hp2 := (unhide B1).kept K3 (by simp)
     have hp3 := (unhide B2).kept K3 (by simp)
     have c5 := ht2.cell (i := 0) rfl
     have f5 := ht2.frozen
     obtain ⟨a3, cap3, hR3, hg3⟩ := RT.put2 hrow3 (by omega) ht2 hbt (by omega) (by rw [List.length_eraseIdx]; split <;> omega)
     have St : Mv base w W1.heap.size t a3 cap3 (L.eraseIdx i) n s n' s' x (w2.setCell ⟨t, 0, none⟩ (.slice a2 (L.eraseIdx i).length c2)) :=
       ⟨hR3, hp2.setOther (by simp; omega) _, hp3.setOther (by simp; omega) _, hq2.setOther (by simp; omega) _, (((unhide K1w).then K3).mono (by simp)).setCell (.inl (by simp)) _, hg3⟩
     replace St := hide St
     clear hrow hrow2 hrow3 hgrow2 hat2 ht2 hq2 hp2 hp3 K2 K3 R2 Q2 R1 B1 B2 K1w hR3 hck b4 b5 b6 b7 c4 f4
     go_wp2
     go_meet
     case rel => exact ⟨a3, cap3, unhide St⟩
  case rest =>
    obtain ⟨a3, cap3, St⟩ := hcut
    have hMl : (L.eraseIdx i).length = L.length - 1 := by rw [List.length_eraseIdx, if_pos hi]
    have HM := hide (show (insL (L.eraseIdx i) { x with n := n', s := s' }).map (reF n s n' s') = moveL L n s n' s' i x from rfl)
    clear hrow R2 Q2 K2 R1 B1 B2 K1w HX HW c4 f4 hK2
    generalize L.eraseIdx i = M at St hMl HM
    obtain ⟨Q, hQ⟩ : ∃ Q, W1.heap.size = Q := ⟨_, rfl⟩
    rw [hQ] at St ⊢
    rw [hQ] at hsz
    clear hQ ltg ltt b1 b2 b3 b4 b5 b6 b7
    have hMs : M.length < 65536 := by omega
    replace hMl := hide hMl
    have X := hide St
    clear St
    go_upto_block 0 with fail
    go_cut [10] (fun c wx => c = .int .i64 (ahead M n' s') ∧ Mv base w Q t a3 cap3 M n s n' s' x wx)
    case first =>
      go_wp2_with fail
      go_loopg [10] M.length (fun m i wx => ∃ j : Nat, j ≤ M.length ∧ m = M.length - j ∧ i = .int .i64 j ∧ (∀ l, l < j → ∀ y, M[l]? = some y → before y.n y.s n' s' = true) ∧ Mv base w Q t a3 cap3 M n s n' s' x wx)
      case atStart => exact ⟨0, Nat.zero_le _, rfl, rfl, fun l hl => by omega, unhide X⟩
      case round =>
        obtain ⟨j, hj, rfl, rfl, hall, hX⟩ := hrel
        clear X
        have hR := hX.rt
        have c0 := hR.head.cell (i := 0) rfl
        by_cases hlt : j < M.length
        · obtain ⟨g, rfl⟩ := hR.addr (by omega)
          obtain ⟨y, hy⟩ : ∃ y, M[j]? = some y := ⟨_, List.getElem?_eq_getElem hlt⟩
          obtain ⟨yn, hyn⟩ : ∃ q, y.n = q := ⟨_, rfl⟩
          obtain ⟨ys, hys⟩ : ∃ q, y.s = q := ⟨_, rfl⟩
          have hS : ∀ w', Kp [] wr w' → w'.cell? ⟨t, 0, none⟩ = some (.slice (some ⟨g, 0, none⟩) M.length cap3) ∧ w'.cell? ⟨g, j * 9, none⟩ = some (.int .i64 yn) ∧ w'.cell? ⟨g, j * 9 + 1, none⟩ = some (.int .i64 ys) ∧ w'.cell? ⟨w.heap.size + 1, 0, none⟩ = some (.int .i64 n') ∧ w'.cell? ⟨w.heap.size + 1, 1, none⟩ = some (.int .i64 s') := fun w' kk => by
            have R' := hR.grew kk
            have X' := (hX.kept kk).q
            rw [← hyn, ← hys]
            exact ⟨R'.head.cell rfl, R'.cell hy 0 (by omega), R'.cell hy 1 (by omega), X'.cell rfl, X'.cell rfl⟩
          obtain ⟨bb, hbb⟩ : ∃ q, before yn ys n' s' = q := ⟨_, rfl⟩
          have hyes : bb = true → Hid (∀ l, l < j + 1 → ∀ y, M[l]? = some y → before y.n y.s n' s' = true) := fun q => not_ahead hall hy (by rw [hyn, hys, hbb]; exact q)
          have hno : bb = false → Hid (ahead M n' s' = j) := fun q => ahead_is hj hall (fun x hx => by rw [hy] at hx; cases hx; rw [hyn, hys, hbb]; exact q)
          have b1 : (j : Int) < (M.length : Int) := by omega
          have b2 : ((j : Int)).toNat = j := Int.toNat_natCast j
          have K1 := hide ((Kp.refl [] wr).drew)
          replace hS := hide hS
          replace hX := hide hX
          replace hbb := hide hbb
          clear hR hall hy hyn hys
          cases bb
          · have hend := hno rfl
            clear hyes hno
            go_wp2_with fail
            go_region_held3 (fun w' => w'.cell? ⟨t, 0, none⟩ = some (.slice (some ⟨g, 0, none⟩) M.length cap3) ∧ w'.cell? ⟨g, j * 9, none⟩ = some (.int .i64 yn) ∧ w'.cell? ⟨g, j * 9 + 1, none⟩ = some (.int .i64 ys) ∧ w'.cell? ⟨w.heap.size + 1, 0, none⟩ = some (.int .i64 n') ∧ w'.cell? ⟨w.heap.size + 1, 1, none⟩ = some (.int .i64 s')) (first | exact unhide hS _ (unhide K2) | exact unhide hS _ (unhide K1)) (first
              | (go_at_call 36; (with_reducible refine (rbefore_to yn ys n' s' _ _ (unhide hbb)).mono ?_); rintro e V1 ⟨rfl, kk⟩; have K2 := hide ((unhide K1).then kk); clear kk))
            all_goals
              go_wp2
              go_meet
              case rel => exact ⟨by rw [unhide hend], (unhide hX).kept (unhide K2)⟩
          · have hgo := hyes rfl
            clear hyes hno
            go_wp2_with fail
            go_region_held3 (fun w' => w'.cell? ⟨t, 0, none⟩ = some (.slice (some ⟨g, 0, none⟩) M.length cap3) ∧ w'.cell? ⟨g, j * 9, none⟩ = some (.int .i64 yn) ∧ w'.cell? ⟨g, j * 9 + 1, none⟩ = some (.int .i64 ys) ∧ w'.cell? ⟨w.heap.size + 1, 0, none⟩ = some (.int .i64 n') ∧ w'.cell? ⟨w.heap.size + 1, 1, none⟩ = some (.int .i64 s')) (first | exact unhide hS _ (unhide K2) | exact unhide hS _ (unhide K1)) (first
              | (go_at_call 36; (with_reducible refine (rbefore_to yn ys n' s' _ _ (unhide hbb)).mono ?_); rintro e V1 ⟨rfl, kk⟩; have K2 := hide ((unhide K1).then kk); clear kk))
            all_goals
              go_wp2
              go_roundg (M.length - (j + 1))
              case measure => omega
              case rel => exact ⟨j + 1, by omega, rfl, by go_num, unhide hgo, (unhide hX).kept (unhide K2)⟩
        · have b1 : decide ((j : Int) < (M.length : Int)) = false := decide_eq_false (by omega)
          have hend := hide (ahead_is hj hall (fun x hx => by rw [List.getElem?_eq_none (by omega)] at hx; cases hx))
          replace hX := hide hX
          clear hR hall
          go_wp2_with fail
          go_big_region
          go_wp2
          go_meet
          case rel => exact ⟨by rw [unhide hend], (unhide hX).kept ((Kp.refl [] _).drew)⟩
    case rest =>
      obtain ⟨rfl, X'⟩ := hcut
      clear X
      have q0 := X'.q.cell (i := 0) rfl
      have q1 := X'.q.cell (i := 1) rfl
      have y0 : wc.cell? ⟨Q, 0, none⟩ = some (.int .i64 x.n) := X'.x.cell rfl
      have y1 : wc.cell? ⟨Q, 1, none⟩ = some (.int .i64 x.s) := X'.x.cell rfl
      have yf := X'.x.frozen
      have hQ2 : w.heap.size + 2 ≤ Q := hsz
      have hst := X'.moved hQ2 hwt
      clear X'
      replace hst := hide hst
      have hkk := ahead_le M n' s'
      obtain ⟨kk, hk0⟩ : ∃ kk, ahead M n' s' = kk := ⟨_, rfl⟩
      rw [hk0] at hkk
      go_upto_region 11 with fail
      rw [hk0]
      clear y0 y1 q0 q1 yf
      replace hst := unhide hst
      generalize (wc.setCell ⟨Q, 0, none⟩ (.int .i64 n')).setCell ⟨Q, 1, none⟩ (.int .i64 s') = W5 at hst
      obtain ⟨x', hx1, hx2, hx3⟩ : ∃ x' : Sl, x'.n = n' ∧ x'.s = s' ∧ ({ x with n := n', s := s' } : Sl) = x' := ⟨_, rfl, rfl, rfl⟩
      rw [hx3] at hst HM
      have hT := hide (show M.take kk = M.takeWhile (fun y => before y.n y.s x'.n x'.s) from by rw [hx1, hx2, ← hk0]; exact take_ahead M n' s')
      have hD := hide (show M.drop kk = M.dropWhile (fun y => before y.n y.s x'.n x'.s) from by rw [hx1, hx2, ← hk0]; exact drop_ahead M n' s')
      have hS0 : ∀ w', Kp [] W5 w' → Mv base w Q t a3 cap3 M n s n' s' x' w' := fun w' kp => hst.kept kp
      replace hS0 := hide hS0
      have hK5 := hst.kp
      have hw5 : w.heap.size + 2 ≤ W5.heap.size := by have := hst.q.lt; omega
      replace hx1 := hide hx1
      replace hx2 := hide hx2
      replace hx3 := hide hx3
      have K1 := hide ((Kp.refl [] W5).drew)
      cases ha : a3 with
      | none =>
        obtain ⟨hL0, hc0⟩ : M = [] ∧ cap3 = 0 := by
          rcases hst.rt.own.2 with ⟨e, hz⟩ | ⟨g, c, cur, e, _⟩
          · rw [ha] at e; exact ⟨List.eq_nil_of_length_eq_zero hz, by injection e⟩
          · rw [ha] at e; cases e
        subst ha hL0 hc0
        obtain rfl : kk = 0 := by simpa using hkk
        have hS : ∀ w', Kp [] W5 w' → w'.cell? ⟨t, 0, none⟩ = some (.slice none 0 0) ∧ w'.cell? ⟨Q, 0, none⟩ = some (.int .i64 x'.n) ∧ w'.cell? ⟨Q, 1, none⟩ = some (.int .i64 x'.s) ∧ w'.cell? ⟨Q, 2, none⟩ = some (.int .i64 x'.u) ∧ w'.cell? ⟨Q, 3, none⟩ = some (.int .i64 x'.v) ∧ w'.cell? ⟨Q, 4, none⟩ = some (.int .i64 x'.k) ∧ w'.cell? ⟨Q, 5, none⟩ = some (.int .i64 x'.o) ∧ w'.cell? ⟨Q, 6, none⟩ = some (.int .i64 x'.z) ∧ w'.cell? ⟨Q, 7, none⟩ = some (.int .i64 x'.b) ∧ w'.cell? ⟨Q, 8, none⟩ = some (.int .i64 x'.r) := fun w' kp => by
          have Y := unhide hS0 w' kp
          exact ⟨Y.rt.head.cell rfl, Y.x.cell rfl, Y.x.cell rfl, Y.x.cell rfl, Y.x.cell rfl, Y.x.cell rfl, Y.x.cell rfl, Y.x.cell rfl, Y.x.cell rfl, Y.x.cell rfl⟩
        replace hS := hide hS
        clear hst
        go_upto_region 11 with fail
        go_cut [11] (fun c wx => Kp [] W5 wx ∧ SRow W5.heap.size wx c [x'])
        case first =>
          go_region_held3 (fun w' => w'.cell? ⟨t, 0, none⟩ = some (.slice none 0 0) ∧ w'.cell? ⟨Q, 0, none⟩ = some (.int .i64 x'.n) ∧ w'.cell? ⟨Q, 1, none⟩ = some (.int .i64 x'.s) ∧ w'.cell? ⟨Q, 2, none⟩ = some (.int .i64 x'.u) ∧ w'.cell? ⟨Q, 3, none⟩ = some (.int .i64 x'.v) ∧ w'.cell? ⟨Q, 4, none⟩ = some (.int .i64 x'.k) ∧ w'.cell? ⟨Q, 5, none⟩ = some (.int .i64 x'.o) ∧ w'.cell? ⟨Q, 6, none⟩ = some (.int .i64 x'.z) ∧ w'.cell? ⟨Q, 7, none⟩ = some (.int .i64 x'.b) ∧ w'.cell? ⟨Q, 8, none⟩ = some (.int .i64 x'.r)) (first | exact unhide hS _ (unhide K3) | exact unhide hS _ ((unhide K2).alloc _) | exact unhide hS _ (unhide K2) | exact unhide hS _ (unhide K1) | exact unhide hS _ ((unhide K1).alloc _) | exact unhide hS _ (((unhide K1).alloc _).alloc _)) (first
                    | (refine step_app (by rfl) _ _ (by rfl) W5.heap.size v1 (.slice (some ⟨W5.heap.size, 0, none⟩) 1 1) [] [x'] (by rfl) (by rfl) (unhide rowC) (src_one (unhide xC)) (by simp) (unhide K2).size ?_; intro v2 w2 hrow hgrow hat; have row2 := hide hrow; have K3 := hide (kp_grown (unhide K2) hgrow (fun q hq => (World.ownsRow.lt (unhide rowC) q hq).1)); clear hrow hgrow hat)
                    | (refine step_app (by rfl) _ _ (by rfl) W5.heap.size v1 (.slice (some ⟨W5.heap.size + 1, 0, none⟩) 1 1) [] [x'] (by rfl) (by rfl) (unhide rowB) (src_one (unhide xB)) (by simp) (unhide K2).size ?_; intro v2 w2 hrow hgrow hat; have row2 := hide hrow; have K3 := hide (kp_grown (unhide K2) hgrow (fun q hq => (World.ownsRow.lt (unhide rowB) q hq).1)); clear hrow hgrow hat)
                    | (refine step_app (by rfl) _ _ (by rfl) W5.heap.size v1 (.slice (some ⟨w1.heap.size, 0, none⟩) 1 1) [] [x'] (by rfl) (by rfl) ((unhide rowA).alloc _) (src_one (Bk.new w1 74 (Sl.vals x'))) (by simp) ((unhide K2).alloc _).size ?_; intro v2 w2 hrow hgrow hat; have row2 := hide hrow; have K3 := hide (kp_grown ((unhide K2).alloc _) hgrow (fun q hq => (World.ownsRow.lt (unhide rowA) q hq).1)); clear hrow hgrow hat)
                    | (refine step_app (by rfl) _ _ (by rfl) W5.heap.size (.slice (some ⟨W5.heap.size, 0, none⟩) 0 0) (.slice none 0 0) [] [] (by rfl) (by rfl) (srow_empty (Bk.newA W5.drew 74 #[]) (Nat.le_refl _)) (.inl ⟨rfl, rfl⟩) (by simp) ((unhide K1).alloc _).size ?_; intro v1 w1 hrow hgrow hat; have rowA := hide hrow; have K2 := hide (kp_grown ((unhide K1).alloc _) hgrow (fun q hq => by cases hq; first | exact Nat.le_refl _ | exact Nat.le_succ _)); clear hrow hgrow hat)
                    | (refine step_app (by rfl) _ _ (by rfl) W5.heap.size (.slice (some ⟨W5.heap.size, 0, none⟩) 0 0) (.slice none 0 0) [] [] (by rfl) (by rfl) (srow_empty ((Bk.newA W5.drew 74 #[]).alloc _) (Nat.le_refl _)) (.inl ⟨rfl, rfl⟩) (by simp) (((unhide K1).alloc _).alloc _).size ?_; intro v1 w1 hrow hgrow hat; have rowB := hide hrow; have K2 := hide (kp_grown (((unhide K1).alloc _).alloc _) hgrow (fun q hq => by cases hq; first | exact Nat.le_refl _ | exact Nat.le_succ _)); have xB := hide (bk_grown (Bk.next (W5.drew.alloc (.cells #[] 74)) 74 (Sl.vals x') (p := W5.heap.size + 1) (drew_alloc_size W5 _)) hgrow (fun e => absurd (Option.some.inj e) (Nat.ne_of_gt (Nat.lt_succ_self _)))); clear hrow hgrow hat)
                    | (refine step_app (by rfl) _ _ (by rfl) W5.heap.size (.slice (some ⟨W5.heap.size + 1, 0, none⟩) 0 0) (.slice none 0 0) [] [] (by rfl) (by rfl) (srow_empty (Bk.next (W5.drew.alloc (.cells #[.int .i64 x'.n, .int .i64 x'.s, .int .i64 x'.u, .int .i64 x'.v, .int .i64 x'.k, .int .i64 x'.o, .int .i64 x'.z, .int .i64 x'.b, .int .i64 x'.r] 74)) 74 [] (drew_alloc_size W5 _)) (Nat.le_succ _)) (.inl ⟨rfl, rfl⟩) (by simp) (((unhide K1).alloc _).alloc _).size ?_; intro v1 w1 hrow hgrow hat; have rowC := hide hrow; have K2 := hide (kp_grown (((unhide K1).alloc _).alloc _) hgrow (fun q hq => by cases hq; first | exact Nat.le_refl _ | exact Nat.le_succ _)); have xC := hide (bk_grown ((Bk.new W5.drew 74 (Sl.vals x')).alloc _) hgrow (fun e => absurd (Option.some.inj e) (Nat.ne_of_lt (Nat.lt_succ_self _)))); clear hrow hgrow hat))
          all_goals
            go_wp2
            go_meet
            case rel => exact ⟨unhide K3, unhide row2⟩
        case rest =>
          obtain ⟨K4, hrow⟩ := hcut
          have c4 := (unhide hS0 _ K4).rt.head.cell (i := 0) rfl
          have f4 := (unhide hS0 _ K4).rt.head.frozen
          have hsz4 := K4.size
          replace hrow := hide hrow
          replace K4 := hide K4
          go_upto_region 12 with fail
          go_cut [] (fun wx => ∃ a4 cap4, Dr base w (w.heap.size + 1) t a4 cap4 (insL [] x') n s n' s' wx)
          case first =>
            go_wp2_with (first
              | (at_builtin; refine list_app rfl _ _ rfl _ _ (.slice none 0 0) [x'] [] rfl rfl (unhide hrow) (.inl ⟨rfl, rfl⟩) ?c3 ?c4 ?_)
              | go_in)
            case c3 => simp
            case c4 => exact (unhide K4).size
            intro v2 w2 hrow2 hgrow hat
            have ht2 := bk_grown (unhide hS0 _ (unhide K4)).rt.head hgrow (fun e => by have := (World.ownsRow.lt (unhide hrow) t e.symm).1; omega)
            have hp2 := bk_grown (unhide hS0 _ (unhide K4)).p hgrow (fun e => by have := (World.ownsRow.lt (unhide hrow) w.heap.size e.symm).1; omega)
            have hq2 := bk_grown (unhide hS0 _ (unhide K4)).q hgrow (fun e => by have := (World.ownsRow.lt (unhide hrow) (w.heap.size + 1) e.symm).1; omega)
            have K5 := kp_grown (unhide K4) hgrow (fun q hq => (World.ownsRow.lt (unhide hrow) q hq).1)
            have c5 := ht2.cell (i := 0) rfl
            have f5 := ht2.frozen
            have hrow3 := hrow2
            obtain ⟨g2, cp2, hv2, _, _⟩ := World.ownsRow.form hrow3 (by simp)
            subst hv2
            obtain ⟨a4, cap4, hR4, hg4⟩ := RT.put2 hrow3 (by omega) ht2 hbt (by omega) (by simp)
            have St : Dr base w (w.heap.size + 1) t a4 cap4 (insL [] x') n s n' s' (w2.setCell ⟨t, 0, none⟩ (.slice (some ⟨g2, 0, none⟩) (insL [] x').length cp2)) :=
              ⟨hR4, hp2.setOther (by simp; omega) _, hq2.setOther (by simp; omega) _, (hK5.trans K5 (by simp) (by simp)).setCell (.inl (by simp)) _, fun q hq => by have := hg4 q hq; omega⟩
            replace St := hide St
            clear hrow hrow3 hrow2 hgrow hat ht2 hp2 hq2 K5 K4 hR4 c4 f4
            go_wp2
            go_meet
            case rel => exact ⟨a4, cap4, unhide St⟩
          case rest =>
            obtain ⟨a4, cap4, St⟩ := hcut
            replace St := hide St
            have hNs : (insL [] x').length ≤ 65536 := (unhide St).rt.small
            clear hrow K4 hS0 hS K1 hK5 hT hD c4 f4 hx1 hx2 hx3
            generalize insL [] x' = N at St HM hNs
            have hg3 := (unhide St).far
            have c7 := (unhide St).rt.head.cell (i := 0) rfl
            go_wp2_with fail
            go_loopg [12] N.length (fun m q wx => ∃ j : Nat, j ≤ N.length ∧ m = N.length - j ∧ q = .int .i64 j ∧ Dr base w (w.heap.size + 1) t a4 cap4 (fixL N n s n' s' j) n s n' s' wx)
            case atStart => exact ⟨0, Nat.zero_le _, rfl, rfl, unhide St⟩
            case round =>
              obtain ⟨j, hj, rfl, rfl, hS⟩ := hrel
              clear c7 St
              have hln := fixL_len N n s n' s' j hj
              have c0 := hS.rt.head.cell (i := 0) rfl
              rw [hln] at c0
              by_cases hlt : j < N.length
              · obtain ⟨g3, rfl⟩ := hS.rt.addr (by omega)
                have hgQ := hS.far g3 rfl
                obtain ⟨y, hy⟩ : ∃ y, N[j] = y := ⟨_, rfl⟩
                have hy' := fixL_at (n := n) (s := s) (u := n') (v := s') hlt
                rw [hy] at hy'
                obtain ⟨yu, hyu⟩ : ∃ q, y.u = q := ⟨_, rfl⟩
                obtain ⟨yv, hyv⟩ : ∃ q, y.v = q := ⟨_, rfl⟩
                have x2 : wr.cell? ⟨g3, j * 9 + 2, none⟩ = some (.int .i64 yu) := by rw [← hyu]; exact hS.rt.cell hy' 2 (by omega)
                have x3 : wr.cell? ⟨g3, j * 9 + 3, none⟩ = some (.int .i64 yv) := by rw [← hyv]; exact hS.rt.cell hy' 3 (by omega)
                have xf : ∀ q, wr.frozen? ⟨g3, q, none⟩ = false := World.ownsRow.frozenAt hS.rt.own
                have p0 := hS.p.cell (i := 0) rfl
                have p1 := hS.p.cell (i := 1) rfl
                have q0 := hS.q.cell (i := 0) rfl
                have q1 := hS.q.cell (i := 1) rfl
                have d1 : (j : Int) < (N.length : Int) := by omega
                have d2 : ((j : Int)).toNat = j := Int.toNat_natCast j
                have hskip : ¬ (yu = n ∧ yv = s) → Hid (fixL N n s n' s' (j + 1) = fixL N n s n' s' j) := fun q => fixL_same hlt (by rw [hy, hyu, hyv]; exact q)
                have hset : (yu = n ∧ yv = s) → Hid (fixL N n s n' s' (j + 1) = (fixL N n s n' s' j).set j (y.up n' s')) := fun q => by
                  unfold Hid
                  rw [fixL_step hlt, hy]
                  unfold reF
                  rw [hyu, hyv, if_pos q]
                have n1 : (g3 == t) = false := beq_eq_false_iff_ne.2 (hS.rt.apart g3 rfl)
                have n2 : (g3 == (w.heap.size + 1)) = false := beq_eq_false_iff_ne.2 (by omega)
                replace hS := hide hS
                replace hy' := hide hy'
                replace hyu := hide hyu
                replace hyv := hide hyv
                clear hln
                by_cases e1 : yu = n
                · by_cases e2 : yv = s
                  · have hmore := hset ⟨e1, e2⟩
                    clear hset hskip
                    subst e1 e2
                    go_wp2_with fail
                    go_quiet (fail)
                    go_wp2_with fail
                    have hN := ((unhide hS).drewN (nq + 1)).stored (unhide hy') (Nat.le_succ _) n' s'
                    have hN3 := hide (hN.cells3 (len := N.length) (by rw [List.length_set]; exact fixL_len N _ _ n' s' j hj))
                    rw [← unhide hmore] at hN
                    replace hN := hide hN
                    go_region_held3 (fun w' => w'.cell? ⟨t, 0, none⟩ = some (.slice (some ⟨g3, 0, none⟩) N.length cap4) ∧ w'.cell? ⟨w.heap.size + 1, 0, none⟩ = some (.int .i64 n') ∧ w'.cell? ⟨w.heap.size + 1, 1, none⟩ = some (.int .i64 s')) (first | exact unhide hN3 | go_keep) (fail)
                    go_wp2
                    go_roundg (N.length - (j + 1))
                    case measure => omega
                    case rel => exact ⟨j + 1, by omega, rfl, by go_num, unhide hN⟩
                  · have e2' : (yv == s) = false := beq_eq_false_iff_ne.2 e2
                    have hmore := hskip (fun q => e2 q.2)
                    clear hset hskip
                    subst e1
                    go_wp2_with fail
                    go_quiet (fail)
                    go_wp2
                    go_roundg (N.length - (j + 1))
                    case measure => omega
                    case rel => exact ⟨j + 1, by omega, rfl, by go_num, by rw [unhide hmore]; exact (unhide hS).drewN nq⟩
                · have e1' : (yu == n) = false := beq_eq_false_iff_ne.2 e1
                  have hmore := hskip (fun q => e1 q.1)
                  clear hset hskip
                  go_wp2_with fail
                  go_quiet (fail)
                  go_wp2
                  go_roundg (N.length - (j + 1))
                  case measure => omega
                  case rel => exact ⟨j + 1, by omega, rfl, by go_num, by rw [unhide hmore]; exact (unhide hS).drewN nq⟩
              · have d1 : decide ((j : Int) < (N.length : Int)) = false := decide_eq_false (by omega)
                obtain rfl : j = N.length := by omega
                rw [fixL_all, unhide HM] at hS
                replace hS := hide hS
                clear hln
                go_wp2
                go_ret
                exact ⟨rfl, a4, cap4, (unhide hS).rt, (unhide hS).kp⟩
      | some ad =>
        obtain ⟨g3, hg⟩ : ∃ g, ad = ⟨g, 0, none⟩ := by
          rcases hst.rt.own.2 with ⟨e, _⟩ | ⟨g, c, cur, e, _⟩
          · rw [ha] at e; cases e
          · rw [ha] at e; cases e; exact ⟨g, rfl⟩
        subst hg ha
        have hcap3 := hst.rt.cap
        have hS : ∀ w', Kp [] W5 w' → w'.cell? ⟨t, 0, none⟩ = some (.slice (some ⟨g3, 0, none⟩) M.length cap3) ∧ w'.cell? ⟨Q, 0, none⟩ = some (.int .i64 x'.n) ∧ w'.cell? ⟨Q, 1, none⟩ = some (.int .i64 x'.s) ∧ w'.cell? ⟨Q, 2, none⟩ = some (.int .i64 x'.u) ∧ w'.cell? ⟨Q, 3, none⟩ = some (.int .i64 x'.v) ∧ w'.cell? ⟨Q, 4, none⟩ = some (.int .i64 x'.k) ∧ w'.cell? ⟨Q, 5, none⟩ = some (.int .i64 x'.o) ∧ w'.cell? ⟨Q, 6, none⟩ = some (.int .i64 x'.z) ∧ w'.cell? ⟨Q, 7, none⟩ = some (.int .i64 x'.b) ∧ w'.cell? ⟨Q, 8, none⟩ = some (.int .i64 x'.r) := fun w' kp => by
          have Y := unhide hS0 w' kp
          exact ⟨Y.rt.head.cell rfl, Y.x.cell rfl, Y.x.cell rfl, Y.x.cell rfl, Y.x.cell rfl, Y.x.cell rfl, Y.x.cell rfl, Y.x.cell rfl, Y.x.cell rfl, Y.x.cell rfl⟩
        replace hS := hide hS
        have b1 : (kk : Int) ≤ (cap3 : Int) := by omega
        have b2 : ((kk : Int)).toNat = kk := Int.toNat_natCast kk
        clear hst
        go_upto_region 11 with fail
        go_cut [11] (fun c wx => Kp [] W5 wx ∧ SRow W5.heap.size wx c (M.take kk ++ [x']))
        case first =>
          go_region_held3 (fun w' => w'.cell? ⟨t, 0, none⟩ = some (.slice (some ⟨g3, 0, none⟩) M.length cap3) ∧ w'.cell? ⟨Q, 0, none⟩ = some (.int .i64 x'.n) ∧ w'.cell? ⟨Q, 1, none⟩ = some (.int .i64 x'.s) ∧ w'.cell? ⟨Q, 2, none⟩ = some (.int .i64 x'.u) ∧ w'.cell? ⟨Q, 3, none⟩ = some (.int .i64 x'.v) ∧ w'.cell? ⟨Q, 4, none⟩ = some (.int .i64 x'.k) ∧ w'.cell? ⟨Q, 5, none⟩ = some (.int .i64 x'.o) ∧ w'.cell? ⟨Q, 6, none⟩ = some (.int .i64 x'.z) ∧ w'.cell? ⟨Q, 7, none⟩ = some (.int .i64 x'.b) ∧ w'.cell? ⟨Q, 8, none⟩ = some (.int .i64 x'.r)) (first | exact unhide hS _ (unhide K3) | exact unhide hS _ ((unhide K2).alloc _) | exact unhide hS _ (unhide K2) | exact unhide hS _ (unhide K1) | exact unhide hS _ ((unhide K1).alloc _) | exact unhide hS _ (((unhide K1).alloc _).alloc _)) (first
                    | (refine step_app (by rfl) _ _ (by rfl) W5.heap.size v1 (.slice (some ⟨W5.heap.size, 0, none⟩) 1 1) (M.take kk) [x'] (by rfl) (by rfl) (unhide rowC) (src_one (unhide xC)) (by simp; omega) (unhide K2).size ?_; intro v2 w2 hrow hgrow hat; have row2 := hide hrow; have K3 := hide (kp_grown (unhide K2) hgrow (fun q hq => (World.ownsRow.lt (unhide rowC) q hq).1)); clear hrow hgrow hat)
                    | (refine step_app (by rfl) _ _ (by rfl) W5.heap.size v1 (.slice (some ⟨W5.heap.size + 1, 0, none⟩) 1 1) (M.take kk) [x'] (by rfl) (by rfl) (unhide rowB) (src_one (unhide xB)) (by simp; omega) (unhide K2).size ?_; intro v2 w2 hrow hgrow hat; have row2 := hide hrow; have K3 := hide (kp_grown (unhide K2) hgrow (fun q hq => (World.ownsRow.lt (unhide rowB) q hq).1)); clear hrow hgrow hat)
                    | (refine step_app (by rfl) _ _ (by rfl) W5.heap.size v1 (.slice (some ⟨w1.heap.size, 0, none⟩) 1 1) (M.take kk) [x'] (by rfl) (by rfl) ((unhide rowA).alloc _) (src_one (Bk.new w1 74 (Sl.vals x'))) (by simp; omega) ((unhide K2).alloc _).size ?_; intro v2 w2 hrow hgrow hat; have row2 := hide hrow; have K3 := hide (kp_grown ((unhide K2).alloc _) hgrow (fun q hq => (World.ownsRow.lt (unhide rowA) q hq).1)); clear hrow hgrow hat)
                    | (refine step_app (by rfl) _ _ (by rfl) W5.heap.size (.slice (some ⟨W5.heap.size, 0, none⟩) 0 0) (.slice (some ⟨g3, 0, none⟩) kk cap3) [] (M.take kk) (by rfl) (by rfl) (srow_empty (Bk.newA W5.drew 74 #[]) (Nat.le_refl _)) ((unhide hS0 _ ((unhide K1).alloc _)).rt.src 0 kk cap3 (by omega)) (by simp; omega) ((unhide K1).alloc _).size ?_; intro v1 w1 hrow hgrow hat; have rowA := hide hrow; have K2 := hide (kp_grown ((unhide K1).alloc _) hgrow (fun q hq => by cases hq; first | exact Nat.le_refl _ | exact Nat.le_succ _)); clear hrow hgrow hat)
                    | (refine step_app (by rfl) _ _ (by rfl) W5.heap.size (.slice (some ⟨W5.heap.size, 0, none⟩) 0 0) (.slice (some ⟨g3, 0, none⟩) kk cap3) [] (M.take kk) (by rfl) (by rfl) (srow_empty ((Bk.newA W5.drew 74 #[]).alloc _) (Nat.le_refl _)) ((unhide hS0 _ (((unhide K1).alloc _).alloc _)).rt.src 0 kk cap3 (by omega)) (by simp; omega) (((unhide K1).alloc _).alloc _).size ?_; intro v1 w1 hrow hgrow hat; have rowB := hide hrow; have K2 := hide (kp_grown (((unhide K1).alloc _).alloc _) hgrow (fun q hq => by cases hq; first | exact Nat.le_refl _ | exact Nat.le_succ _)); have xB := hide (bk_grown (Bk.next (W5.drew.alloc (.cells #[] 74)) 74 (Sl.vals x') (p := W5.heap.size + 1) (drew_alloc_size W5 _)) hgrow (fun e => absurd (Option.some.inj e) (Nat.ne_of_gt (Nat.lt_succ_self _)))); clear hrow hgrow hat)
                    | (refine step_app (by rfl) _ _ (by rfl) W5.heap.size (.slice (some ⟨W5.heap.size + 1, 0, none⟩) 0 0) (.slice (some ⟨g3, 0, none⟩) kk cap3) [] (M.take kk) (by rfl) (by rfl) (srow_empty (Bk.next (W5.drew.alloc (.cells #[.int .i64 x'.n, .int .i64 x'.s, .int .i64 x'.u, .int .i64 x'.v, .int .i64 x'.k, .int .i64 x'.o, .int .i64 x'.z, .int .i64 x'.b, .int .i64 x'.r] 74)) 74 [] (drew_alloc_size W5 _)) (Nat.le_succ _)) ((unhide hS0 _ (((unhide K1).alloc _).alloc _)).rt.src 0 kk cap3 (by omega)) (by simp; omega) (((unhide K1).alloc _).alloc _).size ?_; intro v1 w1 hrow hgrow hat; have rowC := hide hrow; have K2 := hide (kp_grown (((unhide K1).alloc _).alloc _) hgrow (fun q hq => by cases hq; first | exact Nat.le_refl _ | exact Nat.le_succ _)); have xC := hide (bk_grown ((Bk.new W5.drew 74 (Sl.vals x')).alloc _) hgrow (fun e => absurd (Option.some.inj e) (Nat.ne_of_lt (Nat.lt_succ_self _)))); clear hrow hgrow hat))
          all_goals
            go_wp2
            go_meet
            case rel => exact ⟨unhide K3, unhide row2⟩
        case rest =>
          obtain ⟨K4, hrow⟩ := hcut
          have c4 := (unhide hS0 _ K4).rt.head.cell (i := 0) rfl
          have f4 := (unhide hS0 _ K4).rt.head.frozen
          have hsz4 := K4.size
          replace hrow := hide hrow
          replace K4 := hide K4
          have b3 : (kk : Int) ≤ (M.length : Int) := by omega
          have b4 : (M.length : Int) ≤ (cap3 : Int) := by omega
          go_upto_region 12 with fail
          go_cut [] (fun wx => ∃ a4 cap4, Dr base w (w.heap.size + 1) t a4 cap4 (insL M x') n s n' s' wx)
          case first =>
            by_cases hck : cap3 = kk
            · have hdr : M.drop kk = [] := List.drop_eq_nil_of_le (by omega)
              have hle : M.length - kk = 0 := by omega
              go_wp2_with (first
                | (at_builtin; refine list_app rfl _ _ rfl _ _ _ (M.take kk ++ [x']) (M.drop kk) rfl rfl (unhide hrow) (by rw [hdr]; exact src_nil (by omega)) ?c3 ?c4 ?_)
                | go_in)
              case c3 => simp; omega
              case c4 => exact (unhide K4).size
              intro v2 w2 hrow2 hgrow hat
              have ht2 := bk_grown (unhide hS0 _ (unhide K4)).rt.head hgrow (fun e => by have := (World.ownsRow.lt (unhide hrow) t e.symm).1; omega)
              have hp2 := bk_grown (unhide hS0 _ (unhide K4)).p hgrow (fun e => by have := (World.ownsRow.lt (unhide hrow) w.heap.size e.symm).1; omega)
              have hq2 := bk_grown (unhide hS0 _ (unhide K4)).q hgrow (fun e => by have := (World.ownsRow.lt (unhide hrow) (w.heap.size + 1) e.symm).1; omega)
              have K5 := kp_grown (unhide K4) hgrow (fun q hq => (World.ownsRow.lt (unhide hrow) q hq).1)
              have c5 := ht2.cell (i := 0) rfl
              have f5 := ht2.frozen
              have hrow3 := hrow2
              rw [show (M.take kk ++ [x']) = M.take kk ++ [x'] ++ M.drop kk from by rw [hdr, List.append_nil], ins_is (x := x') (unhide hT) (unhide hD)] at hrow3
              obtain ⟨g2, cp2, hv2, _, _⟩ := World.ownsRow.form hrow3 (by rw [ins_len]; omega)
              subst hv2
              obtain ⟨a4, cap4, hR4, hg4⟩ := RT.put2 hrow3 (by omega) ht2 hbt (by omega) (by rw [ins_len]; omega)
              have St : Dr base w (w.heap.size + 1) t a4 cap4 (insL M x') n s n' s' (w2.setCell ⟨t, 0, none⟩ (.slice (some ⟨g2, 0, none⟩) (insL M x').length cp2)) :=
                ⟨hR4, hp2.setOther (by simp; omega) _, hq2.setOther (by simp; omega) _, (hK5.trans K5 (by simp) (by simp)).setCell (.inl (by simp)) _, fun q hq => by have := hg4 q hq; omega⟩
              replace St := hide St
              clear hrow hrow3 hrow2 hgrow hat ht2 hp2 hq2 K5 K4 hR4 hdr hle hck b1 b3 b4 c4 f4
              go_wp2
              go_meet
              case rel => exact ⟨a4, cap4, unhide St⟩
            · go_wp2_with (first
                | (at_builtin; refine list_app rfl _ _ rfl _ _ _ (M.take kk ++ [x']) (M.drop kk) rfl rfl (unhide hrow) ((unhide hS0 _ (unhide K4)).rt.src_end kk _ hkk) ?c3 ?c4 ?_)
                | go_in)
              case c3 => simp; omega
              case c4 => exact (unhide K4).size
              intro v2 w2 hrow2 hgrow hat
              have ht2 := bk_grown (unhide hS0 _ (unhide K4)).rt.head hgrow (fun e => by have := (World.ownsRow.lt (unhide hrow) t e.symm).1; omega)
              have hp2 := bk_grown (unhide hS0 _ (unhide K4)).p hgrow (fun e => by have := (World.ownsRow.lt (unhide hrow) w.heap.size e.symm).1; omega)
              have hq2 := bk_grown (unhide hS0 _ (unhide K4)).q hgrow (fun e => by have := (World.ownsRow.lt (unhide hrow) (w.heap.size + 1) e.symm).1; omega)
              have K5 := kp_grown (unhide K4) hgrow (fun q hq => (World.ownsRow.lt (unhide hrow) q hq).1)
              have c5 := ht2.cell (i := 0) rfl
              have f5 := ht2.frozen
              have hrow3 := hrow2
              rw [show (M.take kk ++ x' :: M.drop kk) = M.take kk ++ [x'] ++ M.drop kk from by simp, ins_is (x := x') (unhide hT) (unhide hD)] at hrow3
              obtain ⟨g2, cp2, hv2, _, _⟩ := World.ownsRow.form hrow3 (by rw [ins_len]; omega)
              subst hv2
              obtain ⟨a4, cap4, hR4, hg4⟩ := RT.put2 hrow3 (by omega) ht2 hbt (by omega) (by rw [ins_len]; omega)
              have St : Dr base w (w.heap.size + 1) t a4 cap4 (insL M x') n s n' s' (w2.setCell ⟨t, 0, none⟩ (.slice (some ⟨g2, 0, none⟩) (insL M x').length cp2)) :=
                ⟨hR4, hp2.setOther (by simp; omega) _, hq2.setOther (by simp; omega) _, (hK5.trans K5 (by simp) (by simp)).setCell (.inl (by simp)) _, fun q hq => by have := hg4 q hq; omega⟩
              replace St := hide St
              clear hrow hrow3 hrow2 hgrow hat ht2 hp2 hq2 K5 K4 hR4 hck b1 b3 b4 c4 f4
              go_wp2
              go_meet
              case rel => exact ⟨a4, cap4, unhide St⟩
          case rest =>
            obtain ⟨a4, cap4, St⟩ := hcut
            replace St := hide St
            have hNs : (insL M x').length ≤ 65536 := (unhide St).rt.small
            clear hrow K4 hS0 hS K1 hK5 hT hD c4 f4 b1 b2 b3 b4 hx1 hx2 hx3
            generalize insL M x' = N at St HM hNs
            have hg3 := (unhide St).far
            have c7 := (unhide St).rt.head.cell (i := 0) rfl
            go_wp2_with fail
            go_loopg [12] N.length (fun m q wx => ∃ j : Nat, j ≤ N.length ∧ m = N.length - j ∧ q = .int .i64 j ∧ Dr base w (w.heap.size + 1) t a4 cap4 (fixL N n s n' s' j) n s n' s' wx)
            case atStart => exact ⟨0, Nat.zero_le _, rfl, rfl, unhide St⟩
            case round =>
              obtain ⟨j, hj, rfl, rfl, hS⟩ := hrel
              clear c7 St
              have hln := fixL_len N n s n' s' j hj
              have c0 := hS.rt.head.cell (i := 0) rfl
              rw [hln] at c0
              by_cases hlt : j < N.length
              · obtain ⟨g3, rfl⟩ := hS.rt.addr (by omega)
                have hgQ := hS.far g3 rfl
                obtain ⟨y, hy⟩ : ∃ y, N[j] = y := ⟨_, rfl⟩
                have hy' := fixL_at (n := n) (s := s) (u := n') (v := s') hlt
                rw [hy] at hy'
                obtain ⟨yu, hyu⟩ : ∃ q, y.u = q := ⟨_, rfl⟩
                obtain ⟨yv, hyv⟩ : ∃ q, y.v = q := ⟨_, rfl⟩
                have x2 : wr.cell? ⟨g3, j * 9 + 2, none⟩ = some (.int .i64 yu) := by rw [← hyu]; exact hS.rt.cell hy' 2 (by omega)
                have x3 : wr.cell? ⟨g3, j * 9 + 3, none⟩ = some (.int .i64 yv) := by rw [← hyv]; exact hS.rt.cell hy' 3 (by omega)
                have xf : ∀ q, wr.frozen? ⟨g3, q, none⟩ = false := World.ownsRow.frozenAt hS.rt.own
                have p0 := hS.p.cell (i := 0) rfl
                have p1 := hS.p.cell (i := 1) rfl
                have q0 := hS.q.cell (i := 0) rfl
                have q1 := hS.q.cell (i := 1) rfl
                have d1 : (j : Int) < (N.length : Int) := by omega
                have d2 : ((j : Int)).toNat = j := Int.toNat_natCast j
                have hskip : ¬ (yu = n ∧ yv = s) → Hid (fixL N n s n' s' (j + 1) = fixL N n s n' s' j) := fun q => fixL_same hlt (by rw [hy, hyu, hyv]; exact q)
                have hset : (yu = n ∧ yv = s) → Hid (fixL N n s n' s' (j + 1) = (fixL N n s n' s' j).set j (y.up n' s')) := fun q => by
                  unfold Hid
                  rw [fixL_step hlt, hy]
                  unfold reF
                  rw [hyu, hyv, if_pos q]
                have n1 : (g3 == t) = false := beq_eq_false_iff_ne.2 (hS.rt.apart g3 rfl)
                have n2 : (g3 == (w.heap.size + 1)) = false := beq_eq_false_iff_ne.2 (by omega)
                replace hS := hide hS
                replace hy' := hide hy'
                replace hyu := hide hyu
                replace hyv := hide hyv
                clear hln
                by_cases e1 : yu = n
                · by_cases e2 : yv = s
                  · have hmore := hset ⟨e1, e2⟩
                    clear hset hskip
                    subst e1 e2
                    go_wp2_with fail
                    go_quiet (fail)
                    go_wp2_with fail
                    have hN := ((unhide hS).drewN (nq + 1)).stored (unhide hy') (Nat.le_succ _) n' s'
                    have hN3 := hide (hN.cells3 (len := N.length) (by rw [List.length_set]; exact fixL_len N _ _ n' s' j hj))
                    rw [← unhide hmore] at hN
                    replace hN := hide hN
                    go_region_held3 (fun w' => w'.cell? ⟨t, 0, none⟩ = some (.slice (some ⟨g3, 0, none⟩) N.length cap4) ∧ w'.cell? ⟨w.heap.size + 1, 0, none⟩ = some (.int .i64 n') ∧ w'.cell? ⟨w.heap.size + 1, 1, none⟩ = some (.int .i64 s')) (first | exact unhide hN3 | go_keep) (fail)
                    go_wp2
                    go_roundg (N.length - (j + 1))
                    case measure => omega
                    case rel => exact ⟨j + 1, by omega, rfl, by go_num, unhide hN⟩
                  · have e2' : (yv == s) = false := beq_eq_false_iff_ne.2 e2
                    have hmore := hskip (fun q => e2 q.2)
                    clear hset hskip
                    subst e1
                    go_wp2_with fail
                    go_quiet (fail)
                    go_wp2
                    go_roundg (N.length - (j + 1))
                    case measure => omega
                    case rel => exact ⟨j + 1, by omega, rfl, by go_num, by rw [unhide hmore]; exact (unhide hS).drewN nq⟩
                · have e1' : (yu == n) = false := beq_eq_false_iff_ne.2 e1
                  have hmore := hskip (fun q => e1 q.1)
                  clear hset hskip
                  go_wp2_with fail
                  go_quiet (fail)
                  go_wp2
                  go_roundg (N.length - (j + 1))
                  case measure => omega
                  case rel => exact ⟨j + 1, by omega, rfl, by go_num, by rw [unhide hmore]; exact (unhide hS).drewN nq⟩
              · have d1 : decide ((j : Int) < (N.length : Int)) = false := decide_eq_false (by omega)
                obtain rfl : j = N.length := by omega
                rw [fixL_all, unhide HM] at hS
                replace hS := hide hS
                clear hln
                go_wp2
                go_ret
                exact ⟨rfl, a4, cap4, (unhide hS).rt, (unhide hS).kp⟩
end Go.Proofs.Ytgpclbkekobaoaa
