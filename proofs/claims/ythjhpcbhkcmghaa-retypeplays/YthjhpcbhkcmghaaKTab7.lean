/- The document's table: Drop. -/
import Derived.Test.YthjhpcbhkcmghaaKTab5
namespace Go.Proofs.Ythjhpcbhkcmghaa
open Go.RowKit
set_option linter.unusedVariables false
/-- Another parent. -/
def Sl.up (x : Sl) (u v : Int) : Sl := { x with u := u, v := v }
theorem rows_up (L : List Sl) (i : Nat) (x : Sl) (u v : Int) (hx : L[i]? = some x) : ((rows L).set (i * 9 + 2) (.int .i64 u)).set (i * 9 + 3) (.int .i64 v) = rows (L.set i (x.up u v)) := by
  induction L generalizing i with
  | nil => cases hx
  | cons y L ih =>
    have e : ∀ (z : Sl) (M : List Sl), rows (z :: M) = z.vals ++ rows M := fun z M => by unfold rows; rw [List.flatMap_cons]
    cases i with
    | zero => cases hx; rw [List.set_cons_zero, e, e]; rfl
    | succ i =>
      rw [List.set_cons_succ, e, e, ← ih i (by simpa using hx)]
      have hl : y.vals.length = 9 := rfl
      rw [List.set_append_right _ _ (by rw [hl]; omega), List.set_append_right _ _ (by rw [hl]; omega), hl, show (i + 1) * 9 + 2 - 9 = i * 9 + 2 by omega, show (i + 1) * 9 + 3 - 9 = i * 9 + 3 by omega]
theorem RT.stored {base : Nat} {w : World} {t g : Nat} {cap : Nat} {L : List Sl} (h : RT base w t (some ⟨g, 0, none⟩) cap L) {i : Nat} {x : Sl} (hx : L[i]? = some x) (u v : Int) :
    RT base ((w.setCell ⟨g, i * 9 + 2, none⟩ (.int .i64 u)).setCell ⟨g, i * 9 + 3, none⟩ (.int .i64 v)) t (some ⟨g, 0, none⟩) cap (L.set i (x.up u v)) := by
  have h1 := (World.ownsRow.stored h.own (i * 9 + 2) (.int .i64 u)).1
  have h2 := (World.ownsRow.stored h1 (i * 9 + 3) (.int .i64 v)).1
  rw [rows_up L i x u v hx] at h2
  have hg := h.apart g rfl
  refine ⟨?_, ?_, h.new, h.apart, by rw [List.length_set]; exact h.small⟩
  · rw [List.length_set]
    exact (h.head.setOther (by exact hg) _).setOther (by exact hg) _
  · rw [List.length_set]
    exact h2
def reF (n s u v : Int) (x : Sl) : Sl := if x.u = n ∧ x.v = s then x.up u v else x
/-- The first j of them have their new parents. -/
def fixL (L : List Sl) (n s u v : Int) (j : Nat) : List Sl := (L.take j).map (reF n s u v) ++ L.drop j
theorem fixL_len (L : List Sl) (n s u v : Int) (j : Nat) (hj : j ≤ L.length) : (fixL L n s u v j).length = L.length := by unfold fixL; rw [List.length_append, List.length_map, List.length_take, List.length_drop]; omega
theorem fixL_at {L : List Sl} {n s u v : Int} {j : Nat} (hj : j < L.length) : (fixL L n s u v j)[j]? = some L[j] := by
  unfold fixL
  rw [List.getElem?_append_right (by rw [List.length_map, List.length_take]; omega), List.length_map, List.length_take, Nat.min_eq_left (by omega), Nat.sub_self, List.getElem?_drop, Nat.add_zero, List.getElem?_eq_getElem hj]
theorem fixL_step {L : List Sl} {n s u v : Int} {j : Nat} (hj : j < L.length) : fixL L n s u v (j + 1) = (fixL L n s u v j).set j (reF n s u v L[j]) := by
  unfold fixL
  have hl : ((L.take j).map (reF n s u v)).length = j := by rw [List.length_map, List.length_take]; omega
  rw [List.set_append_right _ _ (by omega), hl, Nat.sub_self, List.take_succ_eq_append_getElem hj, List.map_append, List.append_assoc]
  congr 1
  rw [List.drop_eq_getElem_cons hj]
  rfl
theorem fixL_same {L : List Sl} {n s u v : Int} {j : Nat} (hj : j < L.length) (hn : ¬ (L[j].u = n ∧ L[j].v = s)) : fixL L n s u v (j + 1) = fixL L n s u v j := by
  rw [fixL_step hj]
  have e : reF n s u v L[j] = L[j] := by unfold reF; rw [if_neg hn]
  rw [e]
  have h := fixL_at (n := n) (s := s) (u := u) (v := v) hj
  refine List.ext_getElem? fun k => ?_
  rw [List.getElem?_set]
  split
  · rename_i e2
    subst e2
    rw [if_pos (List.getElem?_eq_some_iff.1 h).1, h]
  · rfl
theorem fixL_all (L : List Sl) (n s u v : Int) : fixL L n s u v L.length = L.map (reF n s u v) := by unfold fixL; simp
def dropL (L : List Sl) (n s : Int) (i : Nat) (x : Sl) : List Sl := (L.eraseIdx i).map (reF n s x.u x.v)
theorem erase_is (L : List Sl) (i : Nat) : L.take i ++ L.drop (i + 1) = L.eraseIdx i := (List.eraseIdx_eq_take_drop_succ L i).symm
theorem RT.put2 {base base' : Nat} {w : World} {t : Nat} {v y : Value} {M : List Sl} (hrow : SRow base' w v M) (hb : base ≤ base') (ht : Bk w t 30 [y]) (hbt : base ≤ t) (hlt : t < base') (hs : M.length ≤ 65536) :
    ∃ a cap, RT base (w.setCell ⟨t, 0, none⟩ v) t a cap M ∧ ∀ g, a = some ⟨g, 0, none⟩ → base' ≤ g := by
  rcases hrow.2 with ⟨e, hz⟩ | ⟨g, c, cur, e, hg, hh, rest⟩
  · subst e
    have hM : M = [] := List.eq_nil_of_length_eq_zero hz
    subst hM
    exact ⟨none, 0, ⟨ht.set 0 _, ⟨rfl, .inl ⟨rfl, rfl⟩⟩, hbt, (fun g hg => by cases hg), by simp⟩, fun g hg => by cases hg⟩
  · subst e
    refine ⟨_, c, ⟨ht.set 0 _, ⟨hrow.1, .inr ⟨g, c, cur, rfl, Nat.le_trans hb hg, ?_, rest⟩⟩, hbt, (fun g' hg' => by cases hg'; omega), hs⟩, fun g' hg' => by cases hg'; exact hg⟩
    rw [Below.heap_setCell _ _ _ _ (fun e => by have e' : g = t := e; omega)]
    exact hh
theorem SRow.form {base : Nat} {w : World} {v : Value} {M : List Sl} (h : SRow base w v M) : ∃ a c, v = .slice a M.length c := by
  rcases h.2 with ⟨e, hz⟩ | ⟨g, c, cur, e, _⟩
  · exact ⟨none, 0, by rw [e, hz]⟩
  · exact ⟨_, c, e⟩
theorem size1 {W1 w1 : World} (h : Kp [] W1 w1 ∧ W1.heap.size + 1 ≤ w1.heap.size) : W1.heap.size + 1 ≤ w1.heap.size := h.2
/-- On the way: the table has M, the place and its parent lie in blocks of their own. -/
structure Dr (base : Nat) (w : World) (Q t : Nat) (a : Option Addr) (cap : Nat) (M : List Sl) (n s xu xv : Int) (wx : World) : Prop where
  rt : RT base wx t a cap M
  p : Bk wx w.heap.size 40 [.int .i64 n, .int .i64 s]
  q : Bk wx Q 40 [.int .i64 xu, .int .i64 xv]
  kp : Kp [t] w wx
  far : ∀ g, a = some ⟨g, 0, none⟩ → Q + 1 ≤ g
theorem Dr.drewN {base : Nat} {w : World} {Q t : Nat} {a : Option Addr} {cap : Nat} {M : List Sl} {n s xu xv : Int} {wx : World} (h : Dr base w Q t a cap M n s xu xv wx) (k : Nat) : Dr base w Q t a cap M n s xu xv (wx.drewN k) := ⟨h.rt.drewN k, h.p.drewN k, h.q.drewN k, h.kp.drewN k, h.far⟩
theorem Dr.drew {base : Nat} {w : World} {Q t : Nat} {a : Option Addr} {cap : Nat} {M : List Sl} {n s xu xv : Int} {wx : World} (h : Dr base w Q t a cap M n s xu xv wx) : Dr base w Q t a cap M n s xu xv wx.drew := ⟨h.rt.grew (Kp.refl [] wx).drew, h.p, h.q, h.kp.drew, h.far⟩
theorem Dr.stored {base : Nat} {w : World} {Q t g : Nat} {cap : Nat} {M : List Sl} {n s xu xv : Int} {wx : World} (h : Dr base w Q t (some ⟨g, 0, none⟩) cap M n s xu xv wx) {j : Nat} {y : Sl} (hy : M[j]? = some y) (hw : w.heap.size ≤ Q) (u v : Int) :
    Dr base w Q t (some ⟨g, 0, none⟩) cap (M.set j (y.up u v)) n s xu xv ((wx.setCell ⟨g, j * 9 + 2, none⟩ (.int .i64 u)).setCell ⟨g, j * 9 + 3, none⟩ (.int .i64 v)) := by
  have hf := h.far g rfl
  exact ⟨h.rt.stored hy u v, (h.p.setOther (by simp; omega) _).setOther (by simp; omega) _, (h.q.setOther (by simp; omega) _).setOther (by simp; omega) _, (h.kp.setCell (.inr (by simp; omega)) _).setCell (.inr (by simp; omega)) _, h.far⟩
theorem Dr.cells3 {base : Nat} {w : World} {Q t : Nat} {a : Option Addr} {cap len : Nat} {M : List Sl} {n s xu xv : Int} {w' : World} (h : Dr base w Q t a cap M n s xu xv w') (hl : M.length = len) : w'.cell? ⟨t, 0, none⟩ = some (.slice a len cap) ∧ w'.cell? ⟨Q, 0, none⟩ = some (.int .i64 xu) ∧ w'.cell? ⟨Q, 1, none⟩ = some (.int .i64 xv) := by
  subst hl
  exact ⟨h.rt.head.cell rfl, h.q.cell rfl, h.q.cell rfl⟩
set_option maxHeartbeats 400000 in
theorem rdrop_no {base : Nat} {w : World} {t : Nat} {a : Option Addr} {cap : Nat} {L : List Sl} (h : RT base w t a cap L) (n s : Int) (hn : atL L n s = none) :
    Calls Try.prog 14 #[.pointer (some ⟨t, 0, none⟩), .agg #[.int .i64 n, .int .i64 s]] w fun e w' => e = .returned (.bool false) ∧ Kp [] w w' := by
  have K0 := (Kp.refl [] w).alloc (.cells #[.int .i64 n, .int .i64 s] 40)
  have H := hide (h.grew K0)
  have HA := hide (atL_none hn)
  replace K0 := hide K0
  clear h hn
  go_enter Try.func14, Try.ntmps14
  go_wp2_with fail
  refine (at_to (unhide H) n s _ (unhide HA)).mono ?_
  rintro e W1 ⟨rfl, K1⟩
  replace K1 := hide ((unhide K0).then K1)
  go_wp2
  go_ret
  exact ⟨rfl, unhide K1⟩
set_option maxHeartbeats 2000000 in
set_option maxRecDepth 20000 in
theorem rdrop_yes {base : Nat} {w : World} {t : Nat} {a : Option Addr} {cap : Nat} {L : List Sl} (h : RT base w t a cap L) (n s : Int) {i : Nat} {x : Sl} (hn : atL L n s = some i) (hx : L[i]? = some x) :
    Calls Try.prog 14 #[.pointer (some ⟨t, 0, none⟩), .agg #[.int .i64 n, .int .i64 s]] w (PutP base w t (dropL L n s i x)) := by
  have hi : i < L.length := (List.getElem?_eq_some_iff.1 hx).1
  have hs := h.small
  have hwt := h.head.lt
  have hbt := h.new
  obtain ⟨g, rfl⟩ := h.addr (by omega)
  have hcap := h.cap
  have K0 := (Kp.refl [] w).alloc (.cells #[.int .i64 n, .int .i64 s] 40)
  have H := hide (h.grew K0)
  have P0 := hide (Bk.new w 40 [.int .i64 n, .int .i64 s])
  have HA := hide (atL_atI hn)
  have HX := hide hx
  have b1 : (i : Int) < (L.length : Int) := by omega
  have b2 : ((i : Int)).toNat = i := Int.toNat_natCast i
  have b3 : decide ((i : Int) < 0) = false := decide_eq_false (by omega)
  have b4 : (i : Int) ≤ (cap : Int) := by omega
  have b5 : (L.length : Int) ≤ (cap : Int) := by omega
  obtain ⟨xu, hu⟩ : ∃ q, x.u = q := ⟨_, rfl⟩
  obtain ⟨xv, hv⟩ : ∃ q, x.v = q := ⟨_, rfl⟩
  have HD := hide (show (L.eraseIdx i).map (reF n s xu xv) = dropL L n s i x from by unfold dropL; rw [hu, hv])
  replace K0 := hide K0
  clear h hn hx
  go_enter Try.func14, Try.ntmps14
  go_wp2_with fail
  refine (at_to (unhide H) n s _ (unhide HA)).mono ?_
  rintro e W1 ⟨rfl, K1⟩
  have R1 := (unhide H).grew K1
  have B1 := (unhide P0).kept K1 (by simp)
  have K1w := (unhide K0).then K1
  have c1 := R1.head.cell (i := 0) rfl
  have x2 : W1.cell? ⟨g, i * 9 + 2, none⟩ = some (.int .i64 xu) := by rw [← hu]; exact R1.cell (unhide HX) 2 (by omega)
  have x3 : W1.cell? ⟨g, i * 9 + 3, none⟩ = some (.int .i64 xv) := by rw [← hv]; exact R1.cell (unhide HX) 3 (by omega)
  have hK2 : ∀ o1 o2, Kp [] W1 ((W1.alloc o1).alloc o2) := fun o1 o2 => ((Kp.refl [] W1).alloc o1).alloc o2
  have hsz : w.heap.size ≤ W1.heap.size := K1w.size
  have ltg : g < W1.heap.size := (World.ownsRow.lt R1.own g rfl).2
  have ltt : t < W1.heap.size := R1.head.lt
  replace hu := hide hu
  replace hv := hide hv
  replace R1 := hide R1
  replace B1 := hide B1
  replace K1w := hide K1w
  replace hK2 := hide hK2
  clear K1 H P0
  go_wp2_with (first
    | (at_builtin; refine list_app rfl _ _ rfl (W1.heap.size + 1) _ _ [] (L.take i) rfl rfl (srow_empty (Bk.next (W1.alloc _) _ [] (by simp)) (Nat.le_refl _)) (((unhide R1).grew (unhide hK2 _ _)).src 0 i _ (by omega)) ?c3 ?c4 ?_)
    | go_in)
  case c3 => simp; omega
  case c4 => simp
  intro v1 w1 hrow hgrow hat
  have K2 : Kp [] W1 w1 ∧ W1.heap.size + 1 ≤ w1.heap.size := ⟨kp_grown (unhide hK2 _ _) hgrow (fun q hq => by cases hq; exact Nat.le_succ _), Nat.le_trans (by simp) hgrow.size⟩
  have R2 := (unhide R1).grew K2.1
  have Q2 : Bk w1 W1.heap.size 40 [.int .i64 xu, .int .i64 xv] := bk_grown ((Bk.new W1 _ [.int .i64 xu, .int .i64 xv]).alloc _) hgrow (fun e => absurd (Option.some.inj e) (Nat.ne_of_lt (Nat.lt_succ_self _)))
  have c4 := R2.head.cell (i := 0) rfl
  have f4 := R2.head.frozen
  replace K2 := hide K2
  replace R2 := hide R2
  replace Q2 := hide Q2
  replace hrow := hide hrow
  clear hgrow hat c1 x2 x3
  have b6 : (i : Int) + 1 ≤ (L.length : Int) := by omega
  have b7 : ((i : Int) + 1).toNat = i + 1 := by omega
  by_cases hck : cap = i + 1
  · have hdr : L.drop (i + 1) = [] := List.drop_eq_nil_of_le (by omega)
    have hle : L.length - (i + 1) = 0 := by omega
    go_wp2_with (first
      | (at_builtin; refine list_app rfl _ _ rfl _ _ _ (L.take i) (L.drop (i + 1)) rfl rfl (unhide hrow) (by rw [hdr]; exact src_nil (by omega)) ?c3 ?c4 ?_)
      | go_in)
    case c3 => simp; omega
    case c4 => exact size1 (unhide K2)
    intro v2 w2 hrow2 hgrow2 hat2
    have hrow3 := hrow2
    rw [show L.take i = L.eraseIdx i from by rw [← erase_is, hdr, List.append_nil]] at hrow3
    obtain ⟨a2, c2, hv2⟩ := SRow.form hrow3
    subst hv2
    have K3 := kp_grown (unhide K2).1 hgrow2 (fun q hq => Nat.le_trans (Nat.le_succ _) (World.ownsRow.lt (unhide hrow) q hq).1)
    have ht2 := bk_grown (unhide R2).head hgrow2 (fun e => by have := (World.ownsRow.lt (unhide hrow) t e.symm).1; omega)
    have hq2 := bk_grown (unhide Q2) hgrow2 (fun e => by have := (World.ownsRow.lt (unhide hrow) W1.heap.size e.symm).1; omega)
    have hp2 := (unhide B1).kept K3 (by simp)
    have c5 := ht2.cell (i := 0) rfl
    have f5 := ht2.frozen
    obtain ⟨a3, cap3, hR3, hg3⟩ := RT.put2 hrow3 (by omega) ht2 hbt (by omega) (by rw [List.length_eraseIdx]; split <;> omega)
    have St : Dr base w W1.heap.size t a3 cap3 (L.eraseIdx i) n s xu xv (w2.setCell ⟨t, 0, none⟩ (.slice a2 (L.eraseIdx i).length c2)) :=
      ⟨hR3, hp2.setOther (by simp; omega) _, hq2.setOther (by simp; omega) _, (((unhide K1w).then K3).mono (by simp)).setCell (.inl (by simp)) _, hg3⟩
    replace St := hide St
    clear hrow hrow2 hrow3 hgrow2 hat2 ht2 hq2 hp2 K2 K3 R2 Q2 R1 B1 K1w hR3 hdr hle hck b4 b5 b6 b7 c4 f4
    go_upto_region 7 with fail
    generalize w2.setCell ⟨t, 0, none⟩ (.slice a2 (L.eraseIdx i).length c2) = W3 at St
    have hMs : (L.eraseIdx i).length ≤ 65536 := (unhide St).rt.small
    generalize L.eraseIdx i = M at St HD hMs
    obtain ⟨Q, hQ⟩ : ∃ Q, W1.heap.size = Q := ⟨_, rfl⟩
    rw [hQ] at St ⊢
    have hQw : w.heap.size ≤ Q := by omega
    have hg3 := (unhide St).far
    clear hQ
    have c7 := (unhide St).rt.head.cell (i := 0) rfl
    go_wp2_with fail
    go_loopg [8] M.length (fun m q wx => ∃ j : Nat, j ≤ M.length ∧ m = M.length - j ∧ q = .int .i64 j ∧ Dr base w Q t a3 cap3 (fixL M n s xu xv j) n s xu xv wx)
    case atStart => exact ⟨0, Nat.zero_le _, rfl, rfl, unhide St⟩
    case round =>
      obtain ⟨j, hj, rfl, rfl, hS⟩ := hrel
      clear c7 St
      have hln := fixL_len M n s xu xv j hj
      have c0 := hS.rt.head.cell (i := 0) rfl
      rw [hln] at c0
      by_cases hlt : j < M.length
      · obtain ⟨g3, rfl⟩ := hS.rt.addr (by omega)
        have hgQ := hS.far g3 rfl
        obtain ⟨y, hy⟩ : ∃ y, M[j] = y := ⟨_, rfl⟩
        have hy' := fixL_at (n := n) (s := s) (u := xu) (v := xv) hlt
        rw [hy] at hy'
        obtain ⟨yu, hyu⟩ : ∃ q, y.u = q := ⟨_, rfl⟩
        obtain ⟨yv, hyv⟩ : ∃ q, y.v = q := ⟨_, rfl⟩
        have x2 : wr.cell? ⟨g3, j * 9 + 2, none⟩ = some (.int .i64 yu) := by rw [← hyu]; exact hS.rt.cell hy' 2 (by omega)
        have x3 : wr.cell? ⟨g3, j * 9 + 3, none⟩ = some (.int .i64 yv) := by rw [← hyv]; exact hS.rt.cell hy' 3 (by omega)
        have xf : ∀ q, wr.frozen? ⟨g3, q, none⟩ = false := World.ownsRow.frozenAt hS.rt.own
        have p0 := hS.p.cell (i := 0) rfl
        have p1 := hS.p.cell (i := 1) rfl
        have q0 := hS.q.cell (i := 0) rfl
        have q1 := hS.q.cell (i := 1) rfl
        have d1 : (j : Int) < (M.length : Int) := by omega
        have d2 : ((j : Int)).toNat = j := Int.toNat_natCast j
        have hskip : ¬ (yu = n ∧ yv = s) → Hid (fixL M n s xu xv (j + 1) = fixL M n s xu xv j) := fun q => fixL_same hlt (by rw [hy, hyu, hyv]; exact q)
        have hset : (yu = n ∧ yv = s) → Hid (fixL M n s xu xv (j + 1) = (fixL M n s xu xv j).set j (y.up xu xv)) := fun q => by
          unfold Hid
          rw [fixL_step hlt, hy]
          unfold reF
          rw [hyu, hyv, if_pos q]
        have n1 : (g3 == t) = false := beq_eq_false_iff_ne.2 (hS.rt.apart g3 rfl)
        have n2 : (g3 == Q) = false := beq_eq_false_iff_ne.2 (by omega)
        replace hS := hide hS
        replace hy' := hide hy'
        replace hyu := hide hyu
        replace hyv := hide hyv
        clear hln
        by_cases e1 : yu = n
        · by_cases e2 : yv = s
          · have hmore := hset ⟨e1, e2⟩
            clear hset hskip
            subst e1 e2
            go_wp2_with fail
            go_quiet (fail)
            go_wp2_with fail
            have hN := ((unhide hS).drewN (nq + 1)).stored (unhide hy') hQw xu xv
            have hN3 := hide (hN.cells3 (len := M.length) (by rw [List.length_set]; exact fixL_len M _ _ xu xv j hj))
            rw [← unhide hmore] at hN
            replace hN := hide hN
            go_region_held3 (fun w' => w'.cell? ⟨t, 0, none⟩ = some (.slice (some ⟨g3, 0, none⟩) M.length cap3) ∧ w'.cell? ⟨Q, 0, none⟩ = some (.int .i64 xu) ∧ w'.cell? ⟨Q, 1, none⟩ = some (.int .i64 xv)) (first | exact unhide hN3 | go_keep) (fail)
            go_wp2
            go_roundg (M.length - (j + 1))
            case measure => omega
            case rel => exact ⟨j + 1, by omega, rfl, by go_num, unhide hN⟩
          · have e2' : (yv == s) = false := beq_eq_false_iff_ne.2 e2
            have hmore := hskip (fun q => e2 q.2)
            clear hset hskip
            subst e1
            go_wp2_with fail
            go_quiet (fail)
            go_wp2
            go_roundg (M.length - (j + 1))
            case measure => omega
            case rel => exact ⟨j + 1, by omega, rfl, by go_num, by rw [unhide hmore]; exact (unhide hS).drewN nq⟩
        · have e1' : (yu == n) = false := beq_eq_false_iff_ne.2 e1
          have hmore := hskip (fun q => e1 q.1)
          clear hset hskip
          go_wp2_with fail
          go_quiet (fail)
          go_wp2
          go_roundg (M.length - (j + 1))
          case measure => omega
          case rel => exact ⟨j + 1, by omega, rfl, by go_num, by rw [unhide hmore]; exact (unhide hS).drewN nq⟩
      · have d1 : decide ((j : Int) < (M.length : Int)) = false := decide_eq_false (by omega)
        obtain rfl : j = M.length := by omega
        rw [fixL_all, unhide HD] at hS
        replace hS := hide hS
        clear hln
        go_wp2
        go_ret
        exact ⟨rfl, a3, cap3, (unhide hS).rt, (unhide hS).kp⟩
  · go_wp2_with (first
      | (at_builtin; refine list_app rfl _ _ rfl _ _ _ (L.take i) (L.drop (i + 1)) rfl rfl (unhide hrow) ((unhide R2).src_end (i + 1) _ (by omega)) ?c3 ?c4 ?_)
      | go_in)
    case c3 => simp; omega
    case c4 => exact size1 (unhide K2)
    intro v2 w2 hrow2 hgrow2 hat2
    have hrow3 := hrow2
    rw [erase_is] at hrow3
    obtain ⟨a2, c2, hv2⟩ := SRow.form hrow3
    subst hv2
    have K3 := kp_grown (unhide K2).1 hgrow2 (fun q hq => Nat.le_trans (Nat.le_succ _) (World.ownsRow.lt (unhide hrow) q hq).1)
    have ht2 := bk_grown (unhide R2).head hgrow2 (fun e => by have := (World.ownsRow.lt (unhide hrow) t e.symm).1; omega)
    have hq2 := bk_grown (unhide Q2) hgrow2 (fun e => by have := (World.ownsRow.lt (unhide hrow) W1.heap.size e.symm).1; omega)
    have hp2 := (unhide B1).kept K3 (by simp)
    have c5 := ht2.cell (i := 0) rfl
    have f5 := ht2.frozen
    obtain ⟨a3, cap3, hR3, hg3⟩ := RT.put2 hrow3 (by omega) ht2 hbt (by omega) (by rw [List.length_eraseIdx]; split <;> omega)
    have St : Dr base w W1.heap.size t a3 cap3 (L.eraseIdx i) n s xu xv (w2.setCell ⟨t, 0, none⟩ (.slice a2 (L.eraseIdx i).length c2)) :=
      ⟨hR3, hp2.setOther (by simp; omega) _, hq2.setOther (by simp; omega) _, (((unhide K1w).then K3).mono (by simp)).setCell (.inl (by simp)) _, hg3⟩
    replace St := hide St
    clear hrow hrow2 hrow3 hgrow2 hat2 ht2 hq2 hp2 K2 K3 R2 Q2 R1 B1 K1w hR3 hck b4 b5 b6 b7 c4 f4
    go_upto_region 7 with fail
    generalize w2.setCell ⟨t, 0, none⟩ (.slice a2 (L.eraseIdx i).length c2) = W3 at St
    have hMs : (L.eraseIdx i).length ≤ 65536 := (unhide St).rt.small
    generalize L.eraseIdx i = M at St HD hMs
    obtain ⟨Q, hQ⟩ : ∃ Q, W1.heap.size = Q := ⟨_, rfl⟩
    rw [hQ] at St ⊢
    have hQw : w.heap.size ≤ Q := by omega
    have hg3 := (unhide St).far
    clear hQ
    have c7 := (unhide St).rt.head.cell (i := 0) rfl
    go_wp2_with fail
    go_loopg [8] M.length (fun m q wx => ∃ j : Nat, j ≤ M.length ∧ m = M.length - j ∧ q = .int .i64 j ∧ Dr base w Q t a3 cap3 (fixL M n s xu xv j) n s xu xv wx)
    case atStart => exact ⟨0, Nat.zero_le _, rfl, rfl, unhide St⟩
    case round =>
      obtain ⟨j, hj, rfl, rfl, hS⟩ := hrel
      clear c7 St
      have hln := fixL_len M n s xu xv j hj
      have c0 := hS.rt.head.cell (i := 0) rfl
      rw [hln] at c0
      by_cases hlt : j < M.length
      · obtain ⟨g3, rfl⟩ := hS.rt.addr (by omega)
        have hgQ := hS.far g3 rfl
        obtain ⟨y, hy⟩ : ∃ y, M[j] = y := ⟨_, rfl⟩
        have hy' := fixL_at (n := n) (s := s) (u := xu) (v := xv) hlt
        rw [hy] at hy'
        obtain ⟨yu, hyu⟩ : ∃ q, y.u = q := ⟨_, rfl⟩
        obtain ⟨yv, hyv⟩ : ∃ q, y.v = q := ⟨_, rfl⟩
        have x2 : wr.cell? ⟨g3, j * 9 + 2, none⟩ = some (.int .i64 yu) := by rw [← hyu]; exact hS.rt.cell hy' 2 (by omega)
        have x3 : wr.cell? ⟨g3, j * 9 + 3, none⟩ = some (.int .i64 yv) := by rw [← hyv]; exact hS.rt.cell hy' 3 (by omega)
        have xf : ∀ q, wr.frozen? ⟨g3, q, none⟩ = false := World.ownsRow.frozenAt hS.rt.own
        have p0 := hS.p.cell (i := 0) rfl
        have p1 := hS.p.cell (i := 1) rfl
        have q0 := hS.q.cell (i := 0) rfl
        have q1 := hS.q.cell (i := 1) rfl
        have d1 : (j : Int) < (M.length : Int) := by omega
        have d2 : ((j : Int)).toNat = j := Int.toNat_natCast j
        have hskip : ¬ (yu = n ∧ yv = s) → Hid (fixL M n s xu xv (j + 1) = fixL M n s xu xv j) := fun q => fixL_same hlt (by rw [hy, hyu, hyv]; exact q)
        have hset : (yu = n ∧ yv = s) → Hid (fixL M n s xu xv (j + 1) = (fixL M n s xu xv j).set j (y.up xu xv)) := fun q => by
          unfold Hid
          rw [fixL_step hlt, hy]
          unfold reF
          rw [hyu, hyv, if_pos q]
        have n1 : (g3 == t) = false := beq_eq_false_iff_ne.2 (hS.rt.apart g3 rfl)
        have n2 : (g3 == Q) = false := beq_eq_false_iff_ne.2 (by omega)
        replace hS := hide hS
        replace hy' := hide hy'
        replace hyu := hide hyu
        replace hyv := hide hyv
        clear hln
        by_cases e1 : yu = n
        · by_cases e2 : yv = s
          · have hmore := hset ⟨e1, e2⟩
            clear hset hskip
            subst e1 e2
            go_wp2_with fail
            go_quiet (fail)
            go_wp2_with fail
            have hN := ((unhide hS).drewN (nq + 1)).stored (unhide hy') hQw xu xv
            have hN3 := hide (hN.cells3 (len := M.length) (by rw [List.length_set]; exact fixL_len M _ _ xu xv j hj))
            rw [← unhide hmore] at hN
            replace hN := hide hN
            go_region_held3 (fun w' => w'.cell? ⟨t, 0, none⟩ = some (.slice (some ⟨g3, 0, none⟩) M.length cap3) ∧ w'.cell? ⟨Q, 0, none⟩ = some (.int .i64 xu) ∧ w'.cell? ⟨Q, 1, none⟩ = some (.int .i64 xv)) (first | exact unhide hN3 | go_keep) (fail)
            go_wp2
            go_roundg (M.length - (j + 1))
            case measure => omega
            case rel => exact ⟨j + 1, by omega, rfl, by go_num, unhide hN⟩
          · have e2' : (yv == s) = false := beq_eq_false_iff_ne.2 e2
            have hmore := hskip (fun q => e2 q.2)
            clear hset hskip
            subst e1
            go_wp2_with fail
            go_quiet (fail)
            go_wp2
            go_roundg (M.length - (j + 1))
            case measure => omega
            case rel => exact ⟨j + 1, by omega, rfl, by go_num, by rw [unhide hmore]; exact (unhide hS).drewN nq⟩
        · have e1' : (yu == n) = false := beq_eq_false_iff_ne.2 e1
          have hmore := hskip (fun q => e1 q.1)
          clear hset hskip
          go_wp2_with fail
          go_quiet (fail)
          go_wp2
          go_roundg (M.length - (j + 1))
          case measure => omega
          case rel => exact ⟨j + 1, by omega, rfl, by go_num, by rw [unhide hmore]; exact (unhide hS).drewN nq⟩
      · have d1 : decide ((j : Int) < (M.length : Int)) = false := decide_eq_false (by omega)
        obtain rfl : j = M.length := by omega
        rw [fixL_all, unhide HD] at hS
        replace hS := hide hS
        clear hln
        go_wp2
        go_ret
        exact ⟨rfl, a3, cap3, (unhide hS).rt, (unhide hS).kp⟩
/-- On the way: the table has M, both places and the slot that moves lie in blocks of their own. -/
structure Mv (base : Nat) (w : World) (Q t : Nat) (a : Option Addr) (cap : Nat) (M : List Sl) (n s n' s' : Int) (x : Sl) (wx : World) : Prop where
  rt : RT base wx t a cap M
  p : Bk wx w.heap.size 40 [.int .i64 n, .int .i64 s]
  q : Bk wx (w.heap.size + 1) 40 [.int .i64 n', .int .i64 s']
  x : Bk wx Q 78 x.vals
  kp : Kp [t] w wx
  far : ∀ g, a = some ⟨g, 0, none⟩ → Q + 1 ≤ g
def moveL (L : List Sl) (n s n' s' : Int) (i : Nat) (x : Sl) : List Sl := (insL (L.eraseIdx i) { x with n := n', s := s' }).map (reF n s n' s')
end Go.Proofs.Ythjhpcbhkcmghaa
