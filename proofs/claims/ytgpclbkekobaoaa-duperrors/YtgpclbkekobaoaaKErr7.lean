/- The walk of DupErrors. -/
import Derived.Test.YtgpclbkekobaoaaKLaw7
import Derived.Test.YtgpclbkekobaoaaKSameI
import Derived.Test.YtgpclbkekobaoaaKArgs
import Derived.Test.YtgpclbkekobaoaaKRef
namespace Go.Proofs.Ytgpclbkekobaoaa
open Go.RowKit
set_option linter.unusedVariables false
theorem copyL_no {L : List Sl} {n s n' s' m c : Int} (h : copyC L n s n' s' m = c) (hc : c ≠ 0) : copyL L n s n' s' m = L := by unfold copyL; rw [h, if_neg hc]
theorem mintL_no {L : List Sl} {n s n' s' m c : Int} (h : mintC L n s n' s' m = c) (hc : c ≠ 0) : mintL L n s n' s' m = L := by unfold mintL; rw [h, if_neg hc]
theorem moveLL_no {L : List Sl} {n s n' s' c : Int} (h : bothC L n s n' s' = c) (hc : c ≠ 0) : moveLL L n s n' s' = L := by unfold moveLL; rw [h, if_neg hc]
def e7a : List Sl := [⟨1, 1, 0, 0, 4, 4, 0, 5, 7⟩]
def e7b : List Sl := [⟨1, 1, 0, 0, 4, 4, 0, 5, 7⟩, ⟨1, 2, 0, 0, 3, 6, 0, 0, 7⟩]
theorem e7_1 : putP [] 1 1 4 4 0 5 7 0 0 ∧ insL [] ⟨1, 1, 0, 0, 4, 4, 0, 5, 7⟩ = e7a := ⟨⟨by decide, rfl, by decide, .inl ⟨rfl, rfl⟩⟩, rfl⟩
theorem e7_2 : putP e7a 1 2 3 6 0 0 7 0 0 ∧ insL e7a ⟨1, 2, 0, 0, 3, 6, 0, 0, 7⟩ = e7b := ⟨⟨by decide, rfl, by decide, .inl ⟨rfl, rfl⟩⟩, rfl⟩
theorem far_no (n : Int) (hn : 0 ≤ n) : placeOk 1 (16 + n) = false := by
  cases h : placeOk 1 (16 + n) with
  | false => rfl
  | true => rw [placeOk_iff] at h; unfold placeP at h; omega
theorem e7_far (n : Int) (hn : 0 ≤ n) : bothC e7b 1 1 1 (16 + n) = 7 := by
  unfold bothC
  rw [show lkS e7b 1 1 = some ⟨1, 1, 0, 0, 4, 4, 0, 5, 7⟩ from rfl]
  simp only [far_no n hn]
  rfl
theorem e7_c4 (n : Int) (hn : 0 ≤ n) : copyC e7b 1 1 1 (16 + n) 7 = 7 := by unfold copyC; rw [e7_far n hn]; rfl
theorem e7_c5 (m : Int) (hm : m < 0 ∨ 7 < m) : copyC e7b 1 1 1 3 m = 7 := by
  unfold copyC
  rw [if_neg (by decide), if_pos hm]
theorem e7_k1 : copyC e7b 1 3 1 2 7 = 4 := by decide
theorem e7_k2 : copyC e7b 1 1 1 2 7 = 3 := by decide
theorem e7_k3 : copyC e7b 1 1 1 1 7 = 3 := by decide
theorem e7_k7 : mintC e7b 1 1 1 3 9 = 12 := by decide
theorem e7_k8 : mintC e7b 1 2 1 3 9 = 5 := by decide
theorem e7_k9 : mintC e7b 1 3 1 2 9 = 4 := by decide
theorem e7_k10 : bothC e7b 1 1 1 2 = 3 := by decide
theorem e7_k11 (f : Int) : bothC e7b 1 3 1 f = 4 := rfl
def e7z : List Int := [4, 3, 3, 7, 7, 7, 12, 5, 4, 3, 4, 7]
theorem e7_row {w : World} {g : Nat} {T : TypeId} (h : Bk w g T [.int .i64 4, .int .i64 3, .int .i64 3, .int .i64 7, .int .i64 7, .int .i64 7, .int .i64 12, .int .i64 5, .int .i64 4, .int .i64 3, .int .i64 4, .int .i64 7]) (i : Nat) (q : Int) (hq : e7z[i]? = some q) : w.cell? ⟨g, i, none⟩ = some (.int .i64 q) := by
  refine h.cell ?_
  have e : [.int .i64 4, .int .i64 3, .int .i64 3, .int .i64 7, .int .i64 7, .int .i64 7, .int .i64 12, .int .i64 5, .int .i64 4, .int .i64 3, .int .i64 4, .int .i64 7] = e7z.map (fun q => Value.int .i64 q) := rfl
  rw [e, List.getElem?_map, hq]
  rfl
theorem e7_par : parO (lookS e7b 1 1) = .agg #[.int .i64 0, .int .i64 0] := rfl
theorem kp4 {W wx : World} (K : Kp [] W wx) {a1 a2 a3 a4 : Addr} {v1 v2 v3 v4 : Value} (h : W.cell? a1 = some v1 ∧ W.cell? a2 = some v2 ∧ W.cell? a3 = some v3 ∧ W.cell? a4 = some v4) : wx.cell? a1 = some v1 ∧ wx.cell? a2 = some v2 ∧ wx.cell? a3 = some v3 ∧ wx.cell? a4 = some v4 := ⟨K.cell h.1, K.cell h.2.1, K.cell h.2.2.1, K.cell h.2.2.2⟩
/-- The table, four places' boxes. -/
structure De (w : World) (t A B C D : Nat) (f : Int) (L : List Sl) (wx : World) : Prop where
  tb : TabIn w t L wx
  pa : Bk wx A 35 [.int .i64 1, .int .i64 1]
  pb : Bk wx B 35 [.int .i64 1, .int .i64 2]
  pc : Bk wx C 35 [.int .i64 1, .int .i64 3]
  pd : Bk wx D 35 [.int .i64 1, .int .i64 f]
theorem De.grew {w : World} {t A B C D : Nat} {f : Int} {L : List Sl} {wx wy : World} (h : De w t A B C D f L wx) (q : Kp [] wx wy) : De w t A B C D f L wy := ⟨h.tb.grew q, h.pa.kept q (by simp), h.pb.kept q (by simp), h.pc.kept q (by simp), h.pd.kept q (by simp)⟩
theorem De.turned {w : World} {t A B C D : Nat} {f : Int} {L L' : List Sl} {wx wy : World} (h : De w t A B C D f L wx) (X : TabIn w t L' wy) (T : Tch w t wx wy) : De w t A B C D f L' wy := by
  obtain ⟨m, hp, _⟩ := h.tb.tab
  exact ⟨X, T.bk h.pa (h.pa.apart hp.head (by decide)), T.bk h.pb (h.pb.apart hp.head (by decide)), T.bk h.pc (h.pc.apart hp.head (by decide)), T.bk h.pd (h.pd.apart hp.head (by decide))⟩
theorem De.cells {w : World} {t A B C D : Nat} {f : Int} {L : List Sl} {wx : World} (h : De w t A B C D f L wx) : wx.cell? ⟨A, 0, none⟩ = some (.int .i64 1) ∧ wx.cell? ⟨A, 1, none⟩ = some (.int .i64 1) ∧ wx.cell? ⟨B, 0, none⟩ = some (.int .i64 1) ∧ wx.cell? ⟨B, 1, none⟩ = some (.int .i64 2) ∧ wx.cell? ⟨C, 0, none⟩ = some (.int .i64 1) ∧ wx.cell? ⟨C, 1, none⟩ = some (.int .i64 3) ∧ wx.cell? ⟨D, 0, none⟩ = some (.int .i64 1) ∧ wx.cell? ⟨D, 1, none⟩ = some (.int .i64 f) := ⟨h.pa.cell rfl, h.pa.cell rfl, h.pb.cell rfl, h.pb.cell rfl, h.pc.cell rfl, h.pc.cell rfl, h.pd.cell rfl, h.pd.cell rfl⟩
set_option maxRecDepth 4000 in
set_option maxHeartbeats 8000000 in
theorem errors_walk (which n0 : Int) (w : World) (_ : (Lit.int .i64 which).wf = true) (_ : (Lit.int .i64 n0).wf = true) :
    Calls Try.prog 5 #[.int .i64 which, .int .i64 n0] w fun e w' => e = .returned (.bool true) ∧ Below w.heap.size w w' := by
  obtain ⟨n, hn⟩ : ∃ x, n0 % 1000 = x := ⟨_, rfl⟩
  have n1 : 0 ≤ n ∧ n < 1000 := by omega
  obtain ⟨k, hk⟩ : ∃ k : Nat, which % 12 = (k : Int) := ⟨(which % 12).toNat, by omega⟩
  have k1 : k < 12 := by omega
  obtain ⟨f, hf⟩ : ∃ f, 16 + n = f := ⟨_, rfl⟩
  have hfar := e7_far n n1.1
  have hc4 := e7_c4 n n1.1
  have hc5 := e7_c5 (IntKind.i64.wrap (8 + n)) (by rw [IntWalk.i64_in _ (by omega)]; omega)
  have hc6 := e7_c5 (IntKind.i64.wrap (-1 - n)) (by rw [IntWalk.i64_in _ (by omega)]; omega)
  have i5 : Hid (In64 (IntKind.i64.wrap (8 + n))) := by rw [IntWalk.i64_in _ (by omega)]; exact in7 (by omega) (by omega)
  have i6 : Hid (In64 (IntKind.i64.wrap (-1 - n))) := by rw [IntWalk.i64_in _ (by omega)]; exact in7 (by omega) (by omega)
  rw [hf] at hfar hc4
  have bf : 16 ≤ f ∧ f < 1100 := by omega
  have hinf : Hid (PIn (1, f)) := pin7 (by omega) (by omega) (by omega) (by omega)
  have h11 : Hid (PIn (1, 1)) := pin7 (by decide) (by decide) (by decide) (by decide)
  have h12 : Hid (PIn (1, 2)) := pin7 (by decide) (by decide) (by decide) (by decide)
  have h13 : Hid (PIn (1, 3)) := pin7 (by decide) (by decide) (by decide) (by decide)
  replace hn := hide hn
  replace hk := hide hk
  replace hfar := hide hfar
  replace hc4 := hide hc4
  replace hc5 := hide hc5
  replace hc6 := hide hc6
  go_enter Try.func5, Try.ntmps5
  go_wp2_with fail
  refine (first_calls _).mono ?_
  rintro e W0 ⟨rfl, K0⟩
  replace K0 := hide K0
  go_wp2_with fail
  refine (number_to _ _ _ _ (by omega) (by omega) (unhide hn)).mono ?_
  rintro e w' ⟨rfl, rfl⟩
  have X0 := hide (De.mk (t := w'.heap.size) (C := w'.heap.size + 1 + 1 + 1) (D := w'.heap.size + 1 + 1 + 1) (f := 3) (TabIn.of (T := []) (w := w) (unhide K0) rfl ((((Kp.refl [] _).alloc (.cells #[.int .i64 1, .int .i64 1] 35)).alloc (.cells #[.int .i64 1, .int .i64 2] 35)).alloc (.cells #[.int .i64 1, .int .i64 3] 35))) (((Bk.next (p := w'.heap.size + 1) (w'.alloc (.cells #[.map none] 27)) 35 [.int .i64 1, .int .i64 1] (by simp)).alloc (.cells #[.int .i64 1, .int .i64 2] 35)).alloc (.cells #[.int .i64 1, .int .i64 3] 35)) ((Bk.next (p := w'.heap.size + 1 + 1) ((w'.alloc (.cells #[.map none] 27)).alloc (.cells #[.int .i64 1, .int .i64 1] 35)) 35 [.int .i64 1, .int .i64 2] (by simp)).alloc (.cells #[.int .i64 1, .int .i64 3] 35)) (Bk.next (p := w'.heap.size + 1 + 1 + 1) (((w'.alloc (.cells #[.map none] 27)).alloc (.cells #[.int .i64 1, .int .i64 1] 35)).alloc (.cells #[.int .i64 1, .int .i64 2] 35)) 35 [.int .i64 1, .int .i64 3] (by simp)) (Bk.next (p := w'.heap.size + 1 + 1 + 1) (((w'.alloc (.cells #[.map none] 27)).alloc (.cells #[.int .i64 1, .int .i64 1] 35)).alloc (.cells #[.int .i64 1, .int .i64 2] 35)) 35 [.int .i64 1, .int .i64 3] (by simp)))
  obtain ⟨t, et⟩ : ∃ t, w'.heap.size = t := ⟨_, rfl⟩
  rw [et] at X0
  go_wp2_with fail
  generalize (((w'.alloc (.cells #[.map none] 27)).alloc (.cells #[.int .i64 1, .int .i64 1] 35)).alloc (.cells #[.int .i64 1, .int .i64 2] 35)).alloc (.cells #[.int .i64 1, .int .i64 3] 35) = W1 at *
  clear et K0
  refine (tput_yes (unhide X0).tb (unhide h11) pin_zero e7_1.1 (by decide) e7_1.2).mono ?_
  rintro e W2 ⟨rfl, X2, T2⟩
  have Y2 := hide ((unhide X0).turned X2 T2)
  clear X2 T2 X0
  obtain ⟨a0, a1, b0, b1, c0, c1, _, _⟩ := (unhide Y2).cells
  go_wp2_with fail
  refine (tput_yes (unhide Y2).tb (unhide h12) pin_zero e7_2.1 (by decide) e7_2.2).mono ?_
  rintro e W3 ⟨rfl, X3, T3⟩
  have Y3 := hide ((unhide Y2).turned X3 T3)
  clear X3 T3 Y2 a0 a1 b0 b1 c0 c1
  have Z := hide (De.mk ((unhide Y3).tb.grew ((Kp.refl [] W3).alloc (.cells #[.int .i64 1, .int .i64 f] 35))) ((unhide Y3).pa.alloc (.cells #[.int .i64 1, .int .i64 f] 35)) ((unhide Y3).pb.alloc (.cells #[.int .i64 1, .int .i64 f] 35)) ((unhide Y3).pc.alloc (.cells #[.int .i64 1, .int .i64 f] 35)) (Bk.new W3 35 [.int .i64 1, .int .i64 f]))
  obtain ⟨D, eD⟩ : ∃ D, W3.heap.size = D := ⟨_, rfl⟩
  rw [eD] at Z
  go_wp2_with fail
  generalize W3.alloc (.cells #[.int .i64 1, .int .i64 f] 35) = W4 at *
  clear eD Y3
  have Z0 := hide ((unhide Z).grew (Kp.refl [] W4).drew)
  have hk11 := hide (e7_k11 f)
  clear Z
  go_region_held3 (fun w' => w'.cell? ⟨t + 1, 0, none⟩ = some (.int .i64 1) ∧ w'.cell? ⟨t + 1, 1, none⟩ = some (.int .i64 1) ∧ w'.cell? ⟨t + 1 + 1, 0, none⟩ = some (.int .i64 1) ∧ w'.cell? ⟨t + 1 + 1, 1, none⟩ = some (.int .i64 2) ∧ w'.cell? ⟨t + 1 + 1 + 1, 0, none⟩ = some (.int .i64 1) ∧ w'.cell? ⟨t + 1 + 1 + 1, 1, none⟩ = some (.int .i64 3) ∧ w'.cell? ⟨D, 0, none⟩ = some (.int .i64 1) ∧ w'.cell? ⟨D, 1, none⟩ = some (.int .i64 f)) (first | exact (unhide Z12).cells | exact (unhide Z11).cells | exact (unhide Z10).cells | exact (unhide Z9).cells | exact (unhide Z8).cells | exact (unhide Z7).cells | exact (unhide Z6).cells | exact (unhide Z5).cells | exact (unhide Z4).cells | exact (unhide Z3).cells | exact (unhide Z2).cells | exact (unhide Z1).cells | exact (unhide Z0).cells | exact ((unhide Z12).grew ((Kp.refl [] V12).alloc _)).cells) (first
    | (go_at_call 14; (with_reducible refine (dmove (unhide Z11).tb (unhide h11) (unhide hinf) (by decide) (unhide hfar) (moveLL_no (unhide hfar) (by decide))).mono ?_); rintro e V12 ⟨rfl, X, T⟩; have Z12 := hide ((unhide Z11).turned X T); clear X T)
    | (go_at_call 14; (with_reducible refine (dmove (unhide Z10).tb (unhide h13) (unhide hinf) (by decide) (unhide hk11) (moveLL_no (unhide hk11) (by decide))).mono ?_); rintro e V11 ⟨rfl, X, T⟩; have Z11 := hide ((unhide Z10).turned X T); clear X T)
    | (go_at_call 14; (with_reducible refine (dmove (unhide Z9).tb (unhide h11) (unhide h12) (by decide) e7_k10 (moveLL_no e7_k10 (by decide))).mono ?_); rintro e V10 ⟨rfl, X, T⟩; have Z10 := hide ((unhide Z9).turned X T); clear X T)
    | (go_at_call 12; (with_reducible refine (dmint (unhide Z8).tb (unhide h13) (unhide h12) ⟨by decide, by decide⟩ (by decide) e7_k9 (mintL_no e7_k9 (by decide))).mono ?_); rintro e V9 ⟨rfl, X, T⟩; have Z9 := hide ((unhide Z8).turned X T); clear X T)
    | (go_at_call 12; (with_reducible refine (dmint (unhide Z7).tb (unhide h12) (unhide h13) ⟨by decide, by decide⟩ (by decide) e7_k8 (mintL_no e7_k8 (by decide))).mono ?_); rintro e V8 ⟨rfl, X, T⟩; have Z8 := hide ((unhide Z7).turned X T); clear X T)
    | (go_at_call 12; (with_reducible refine (dmint (unhide Z6).tb (unhide h11) (unhide h13) ⟨by decide, by decide⟩ (by decide) e7_k7 (mintL_no e7_k7 (by decide))).mono ?_); rintro e V7 ⟨rfl, X, T⟩; have Z7 := hide ((unhide Z6).turned X T); clear X T)
    | (go_at_call 16; (with_reducible refine (dcopy (unhide Z5).tb (unhide h11) (unhide h13) (unhide i6) (by decide) (unhide hc6) (copyL_no (unhide hc6) (by decide))).mono ?_); rintro e V6 ⟨rfl, X, T⟩; have Z6 := hide ((unhide Z5).turned X T); clear X T)
    | (go_at_call 16; (with_reducible refine (dcopy (unhide Z4).tb (unhide h11) (unhide h13) (unhide i5) (by decide) (unhide hc5) (copyL_no (unhide hc5) (by decide))).mono ?_); rintro e V5 ⟨rfl, X, T⟩; have Z5 := hide ((unhide Z4).turned X T); clear X T)
    | (go_at_call 16; (with_reducible refine (dcopy (unhide Z3).tb (unhide h11) (unhide hinf) (in7 (by decide) (by decide)) (by decide) (unhide hc4) (copyL_no (unhide hc4) (by decide))).mono ?_); rintro e V4 ⟨rfl, X, T⟩; have Z4 := hide ((unhide Z3).turned X T); clear X T)
    | (go_at_call 16; (with_reducible refine (dcopy (unhide Z2).tb (unhide h11) (unhide h11) (in7 (by decide) (by decide)) (by decide) e7_k3 (copyL_no e7_k3 (by decide))).mono ?_); rintro e V3 ⟨rfl, X, T⟩; have Z3 := hide ((unhide Z2).turned X T); clear X T)
    | (go_at_call 16; (with_reducible refine (dcopy (unhide Z1).tb (unhide h11) (unhide h12) (in7 (by decide) (by decide)) (by decide) e7_k2 (copyL_no e7_k2 (by decide))).mono ?_); rintro e V2 ⟨rfl, X, T⟩; have Z2 := hide ((unhide Z1).turned X T); clear X T)
    | (go_at_call 16; (with_reducible refine (dcopy (unhide Z0).tb (unhide h13) (unhide h12) (in7 (by decide) (by decide)) (by decide) e7_k1 (copyL_no e7_k1 (by decide))).mono ?_); rintro e V1 ⟨rfl, X, T⟩; have Z1 := hide ((unhide Z0).turned X T); clear X T))
  all_goals
    have R1 := hide ((Bk.new V12 3 [.int .i64 4, .int .i64 3, .int .i64 3, .int .i64 7, .int .i64 7, .int .i64 7, .int .i64 12, .int .i64 5, .int .i64 4, .int .i64 3, .int .i64 4, .int .i64 7]).alloc (.cells #[.int .i64 4, .int .i64 3, .int .i64 3, .int .i64 7, .int .i64 7, .int .i64 7, .int .i64 12, .int .i64 5, .int .i64 4, .int .i64 3, .int .i64 4, .int .i64 7] 3))
    have R2 := hide (Bk.next (p := V12.heap.size + 1) (V12.alloc (.cells #[.int .i64 4, .int .i64 3, .int .i64 3, .int .i64 7, .int .i64 7, .int .i64 7, .int .i64 12, .int .i64 5, .int .i64 4, .int .i64 3, .int .i64 4, .int .i64 7] 3)) 3 [.int .i64 4, .int .i64 3, .int .i64 3, .int .i64 7, .int .i64 7, .int .i64 7, .int .i64 12, .int .i64 5, .int .i64 4, .int .i64 3, .int .i64 4, .int .i64 7] (by simp))
    have Y := hide ((unhide Z12).grew (((Kp.refl [] V12).alloc (.cells #[.int .i64 4, .int .i64 3, .int .i64 3, .int .i64 7, .int .i64 7, .int .i64 7, .int .i64 12, .int .i64 5, .int .i64 4, .int .i64 3, .int .i64 4, .int .i64 7] 3)).alloc (.cells #[.int .i64 4, .int .i64 3, .int .i64 3, .int .i64 7, .int .i64 7, .int .i64 7, .int .i64 12, .int .i64 5, .int .i64 4, .int .i64 3, .int .i64 4, .int .i64 7] 3)))
    go_wp2_with fail
    generalize (V12.alloc (.cells #[.int .i64 4, .int .i64 3, .int .i64 3, .int .i64 7, .int .i64 7, .int .i64 7, .int .i64 12, .int .i64 5, .int .i64 4, .int .i64 3, .int .i64 4, .int .i64 7] 3)).alloc (.cells #[.int .i64 4, .int .i64 3, .int .i64 3, .int .i64 7, .int .i64 7, .int .i64 7, .int .i64 12, .int .i64 5, .int .i64 4, .int .i64 3, .int .i64 4, .int .i64 7] 3) = W5 at *
    generalize V12.heap.size = G at *
    refine (number_to _ _ _ _ (by omega) (by omega) (unhide hk)).mono ?_
    rintro e w' ⟨rfl, rfl⟩
    obtain ⟨v, hv⟩ : ∃ v, e7z[k]? = some v := ⟨_, List.getElem?_eq_getElem (show k < e7z.length from k1)⟩
    have tk : ((k : Int)).toNat = k := Int.toNat_natCast k
    have bk : (0 : Int) ≤ (k : Int) ∧ (k : Int) < 12 := by omega
    have HS := hide (show w'.cell? ⟨t + 1, 0, none⟩ = some (.int .i64 1) ∧ w'.cell? ⟨t + 1, 1, none⟩ = some (.int .i64 1) ∧ w'.cell? ⟨G, k, none⟩ = some (.int .i64 v) ∧ w'.cell? ⟨G + 1, k, none⟩ = some (.int .i64 v) from ⟨(unhide Y).pa.cell rfl, (unhide Y).pa.cell rfl, e7_row (unhide R1) k v hv, e7_row (unhide R2) k v hv⟩)
    clear hv
    have Y0 := hide (Kp.refl [] w').drew
    go_wp2_with fail
    go_region_held3 (fun w' => w'.cell? ⟨t + 1, 0, none⟩ = some (.int .i64 1) ∧ w'.cell? ⟨t + 1, 1, none⟩ = some (.int .i64 1) ∧ w'.cell? ⟨G, k, none⟩ = some (.int .i64 v) ∧ w'.cell? ⟨G + 1, k, none⟩ = some (.int .i64 v)) (first | exact kp4 (unhide Y3) (unhide HS) | exact kp4 (unhide Y2) (unhide HS) | exact kp4 (unhide Y1) (unhide HS) | exact kp4 (unhide Y0) (unhide HS)) (first
      | (go_at_call 20; refine (tall ((unhide Y).grew (unhide Y0)).tb).mono ?_; rintro e U1 hL; obtain ⟨v1, hLe, hLp, hLk⟩ := hL; obtain ⟨av, cv, hLv, _, _⟩ := hLp.view (by decide); have e2 : v1 = .slice av 2 cv := hLv; subst e2; subst hLe; have Y1 := hide ((unhide Y0).then hLk); clear hLp hLk hLv)
      | (go_at_call 23; refine (tparent ((unhide Y).grew (unhide Y1)).tb (unhide h11) e7_par).mono ?_; rintro e U2 ⟨rfl, K⟩; have Y2 := hide ((unhide Y1).then K); clear K)
      | (go_at_call 28; refine (sameints_calls (zs := e7z) (fun i q hq => (unhide Y2).cell (e7_row (unhide R1) i q hq)) (fun i q hq => (unhide Y2).cell (e7_row (unhide R2) i q hq)) (by decide)).mono ?_; rintro e U3 ⟨rfl, K⟩; have Y3 := hide ((unhide Y2).then K); clear K))
    all_goals
      go_wp2
      go_ret
      exact ⟨rfl, ((unhide Y).grew (unhide Y3)).tb.kp.below (Nat.le_refl _) (by simp)⟩
end Go.Proofs.Ytgpclbkekobaoaa
