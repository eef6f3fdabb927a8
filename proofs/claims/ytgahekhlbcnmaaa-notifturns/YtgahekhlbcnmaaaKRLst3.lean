/- The document's list: Pop, Drop. -/
import Derived.Test.YtgahekhlbcnmaaaKRLst2
namespace Go.Proofs.Ytgahekhlbcnmaaa
open Go.RowKit
set_option linter.unusedVariables false
set_option linter.unusedSimpArgs false
set_option maxRecDepth 4000 in
set_option maxHeartbeats 1000000 in
theorem rlpop_no {base : Nat} {w : World} {y o : Nat} {U : TypeId} {pre post : List Value} {a : Option Addr} {cap : Nat} (h : RL base w y o U pre post a cap []) :
    Calls Try.prog 26 #[.pointer (some ⟨y, o, none⟩)] w fun e w' => e = .returned (.tuple #[.agg #[.int .i64 0, .int .i64 0], .bool false]) ∧ Kp [] w w' := by
  have KW := hide ((Kp.refl [] w).alloc (.cells #[.int .i64 0, .int .i64 0] 27))
  have c0 : (w.alloc (.cells #[.int .i64 0, .int .i64 0] 27)).cell? ⟨y, o, none⟩ = some (.slice a 0 cap) := (h.grew (unhide KW)).head.cell0 rfl
  have B0 := Bk.new w 27 [.int .i64 0, .int .i64 0]
  have f0 := B0.frozen
  have e0 := B0.cell (i := 0) rfl
  have e1 := B0.cell (i := 1) rfl
  clear h B0
  go_enter Try.func26, Try.ntmps26
  go_wp2
  refine bodyPost_ret (v := .tuple #[.agg #[.int .i64 0, .int .i64 0], .bool false]) (by simp [results, Try.results26, go_sem, *]) rfl ⟨rfl, ?_⟩
  exact unhide KW
theorem RLP.pre {base y o : Nat} {U : TypeId} {pre post : List Value} {w w1 w' : World} {v : Value} {e : Ending} {L : List (Int × Int)} (K : Kp [] w w1) (h : RLP base y o U pre post w1 v L e w') : RLP base y o U pre post w v L e w' := ⟨h.1, h.2.1, (K.mono (by simp)).then h.2.2⟩
theorem RL.put2 {base : Nat} {w : World} {y o g q n cap : Nat} {U : TypeId} {pre post : List Value} {u : Value} {M : List (Int × Int)} (hrow : Gr.Ro idE base w (.slice (some ⟨g, q, none⟩) n cap) M) (hn : n = M.length) (ht : Hd w y o U pre post [u]) (hne : 27 ≠ U) (hby : base ≤ y) (hs : M.length ≤ 65536) :
    RL base (w.setCell ⟨y, o, none⟩ (.slice (some ⟨g, q, none⟩) n cap)) y o U pre post (some ⟨g, q, none⟩) cap M := by
  subst hn
  refine ⟨ht.set0 _ (by simp), hrow.kept ((Kp.refl [y] w).setCell (.inl (by simp)) _) (fun g' hg m => ?_), hby, hs, hne⟩
  obtain ⟨_, cs, hc⟩ := hrow.lt hg
  rw [List.mem_singleton.1 m] at hc
  have hb := ht.bk
  unfold Bk at hb
  rw [hb] at hc
  simp at hc
  exact hne hc.2.symm
set_option maxRecDepth 4000 in
set_option maxHeartbeats 2000000 in
theorem rlpop_at {base : Nat} {w : World} {y o g off : Nat} {U : TypeId} {pre post : List Value} {cap : Nat} {f1 f2 : Int} {T : List (Int × Int)} (h : RL base w y o U pre post (some ⟨g, off, none⟩) cap ((f1, f2) :: T)) :
    Calls Try.prog 26 #[.pointer (some ⟨y, o, none⟩)] w fun e w' => e = .returned (.tuple #[.agg #[.int .i64 f1, .int .i64 f2], .bool true]) ∧ (∃ q c, RL base w' y o U pre post (some ⟨g, q, none⟩) c T) ∧ Kp [y] w w' := by
  have hyw := hide h.head.lt
  have hby := hide h.new
  have hnU := hide h.ne
  have hsm := hide h.small
  obtain ⟨_, hc1, hc2⟩ := h.rd.caps
  obtain ⟨n, hn⟩ : ∃ n, ((f1, f2) :: T).length = n := ⟨_, rfl⟩
  have hn1 : T.length + 1 = n := by rw [← hn]; simp
  have KW := hide ((Kp.refl [] w).alloc (.cells #[.int .i64 0, .int .i64 0] 27))
  have H := h.grew (unhide KW)
  have hd := H.head
  rw [hn] at hd hc1
  obtain ⟨x0, x1⟩ := H.cells (i := 0) (x := (f1, f2)) rfl
  simp only [Nat.zero_mul, Nat.add_zero] at x0 x1
  have c0 := hd.cell0 rfl
  have cf := hd.frozen
  have B0 := hide (Bk.new w 27 [.int .i64 0, .int .i64 0])
  have hg : g < w.heap.size ∧ base ≤ g := by
    obtain ⟨q1, cs, q2⟩ := h.rd.lt rfl
    exact ⟨(Array.getElem?_eq_some_iff.1 q2).1, q1⟩
  replace hg := hide hg
  have b0 : (0 : Int) < (n : Int) := by omega
  have b1 : (1 : Int) ≤ (n : Int) := by omega
  have b2 : (n : Int) ≤ (cap : Int) := by omega
  have b3 : ((n : Int) == 0) = false := beq_eq_false_iff_ne.2 (by omega)
  have b4 : (1 : Int) ≤ (cap : Int) := by omega
  replace H := hide H
  replace hd := hide hd
  replace hn := hide hn
  replace hn1 := hide hn1
  clear h hc1 hc2
  go_enter Try.func26, Try.ntmps26
  go_upto_region 4 with fail
  have K2 := ((Kp.refl [] (w.alloc (.cells #[.int .i64 0, .int .i64 0] 27))).alloc (.cells #[.int .i64 f1, .int .i64 f2] 27))
  have H2 := hide ((unhide H).grew K2)
  have hd2 := hide ((unhide hd).kept K2 (by simp))
  have B2 := hide ((unhide B0).kept K2 (by simp))
  have C2 := hide (Gr.bk_next (p := w.heap.size + 1) (w.alloc (.cells #[.int .i64 0, .int .i64 0] 27)) 27 [.int .i64 f1, .int .i64 f2] (by simp))
  have KW2 := hide ((unhide KW).then K2)
  clear x0 x1 c0 cf K2 KW H hd B0
  generalize (w.alloc (.cells #[.int .i64 0, .int .i64 0] 27)).alloc (.cells #[.int .i64 f1, .int .i64 f2] 27) = w2 at *
  have c0 := (unhide hd2).cell0 rfl
  have cf := (unhide hd2).frozen
  by_cases hck : cap = 1
  · subst hck
    go_upto_region 5 with fail
    have hrow : Gr.Ro idE base w2 (.slice (some ⟨g, off, none⟩) (n - 1) 0) T := by
      rw [show n - 1 = T.length from by have := unhide hn1; omega]
      have e : T = [] := List.length_eq_zero_iff.1 (by have := unhide hn1; omega)
      subst e
      exact (unhide H2).rd.empty off 0 (by omega)
    have X4 := RL.put2 hrow (by have := unhide hn1; omega) (unhide hd2) (unhide hnU) (unhide hby) (by have := unhide hsm; simp at this; omega)
    have k4 := (Kp.refl [y] w2).setCell (p := ⟨y, o, none⟩) (.inl (by simp)) (.slice (some ⟨g, off, none⟩) (n - 1) 0)
    have hyn := unhide hyw
    have B4 := hide ((unhide B2).kept k4 (by simp; omega))
    have C4 := hide ((unhide C2).kept k4 (by simp; omega))
    have KW4 : Hid (Kp [y] w _) := (unhide KW2).trans k4 (by simp) (by simp)
    replace X4 := hide X4
    clear k4 hrow hyn c0 cf hd2 B2 C2 KW2 H2
    generalize w2.setCell ⟨y, o, none⟩ (.slice (some ⟨g, off, none⟩) (n - 1) 0) = w4 at *
    have f0 := (unhide B4).frozen
    have e0 := (unhide B4).cell (i := 0) rfl
    have e1 := (unhide B4).cell (i := 1) rfl
    have d0 := (unhide C4).cell (i := 0) rfl
    have d1 := (unhide C4).cell (i := 1) rfl
    have k5 := ((Kp.refl [w.heap.size] w4).setCell (p := ⟨w.heap.size, 0, none⟩) (.inl (by simp)) (.int .i64 f1)).setCell (p := ⟨w.heap.size, 1, none⟩) (.inl (by simp)) (.int .i64 f2)
    have X5 := hide ((unhide X4).kept k5 (by have := unhide hyw; simp; omega) (fun g' e m => by
      have e2 : g = g' := Option.some.inj e
      have := (unhide hg).1
      simp at m
      omega))
    have KW5 : Hid (Kp [y] w _) := (unhide KW4).trans k5 (by simp) (by simp)
    clear k5 B4 C4 X4 KW4
    go_wp2
    exact bodyPost_ret (v := .tuple #[.agg #[.int .i64 f1, .int .i64 f2], .bool true]) (by simp [results, Try.results26, go_sem, *]) rfl ⟨rfl, ⟨_, _, unhide X5⟩, unhide KW5⟩
  · skip
    go_upto_region 5 with fail
    have hrow : Gr.Ro idE base w2 (.slice (some ⟨g, off + 2, none⟩) (n - 1) (cap - 1)) T := by
      rw [show n - 1 = T.length from by have := unhide hn1; omega]
      exact (unhide H2).rd.cut (by omega)
    have X4 := RL.put2 hrow (by have := unhide hn1; omega) (unhide hd2) (unhide hnU) (unhide hby) (by have := unhide hsm; simp at this; omega)
    have k4 := (Kp.refl [y] w2).setCell (p := ⟨y, o, none⟩) (.inl (by simp)) (.slice (some ⟨g, off + 2, none⟩) (n - 1) (cap - 1))
    have hyn := unhide hyw
    have B4 := hide ((unhide B2).kept k4 (by simp; omega))
    have C4 := hide ((unhide C2).kept k4 (by simp; omega))
    have KW4 : Hid (Kp [y] w _) := (unhide KW2).trans k4 (by simp) (by simp)
    replace X4 := hide X4
    clear k4 hrow hyn c0 cf hd2 B2 C2 KW2 H2
    generalize w2.setCell ⟨y, o, none⟩ (.slice (some ⟨g, off + 2, none⟩) (n - 1) (cap - 1)) = w4 at *
    have f0 := (unhide B4).frozen
    have e0 := (unhide B4).cell (i := 0) rfl
    have e1 := (unhide B4).cell (i := 1) rfl
    have d0 := (unhide C4).cell (i := 0) rfl
    have d1 := (unhide C4).cell (i := 1) rfl
    have k5 := ((Kp.refl [w.heap.size] w4).setCell (p := ⟨w.heap.size, 0, none⟩) (.inl (by simp)) (.int .i64 f1)).setCell (p := ⟨w.heap.size, 1, none⟩) (.inl (by simp)) (.int .i64 f2)
    have X5 := hide ((unhide X4).kept k5 (by have := unhide hyw; simp; omega) (fun g' e m => by
      have e2 : g = g' := Option.some.inj e
      have := (unhide hg).1
      simp at m
      omega))
    have KW5 : Hid (Kp [y] w _) := (unhide KW4).trans k5 (by simp) (by simp)
    clear k5 B4 C4 X4 KW4
    go_wp2
    exact bodyPost_ret (v := .tuple #[.agg #[.int .i64 f1, .int .i64 f2], .bool true]) (by simp [results, Try.results26, go_sem, *]) rfl ⟨rfl, ⟨_, _, unhide X5⟩, unhide KW5⟩
theorem rlpop_yes {base : Nat} {w : World} {y o : Nat} {U : TypeId} {pre post : List Value} {a : Option Addr} {cap : Nat} {f1 f2 : Int} {T : List (Int × Int)} (h : RL base w y o U pre post a cap ((f1, f2) :: T)) :
    Calls Try.prog 26 #[.pointer (some ⟨y, o, none⟩)] w (RLP base y o U pre post w (.tuple #[.agg #[.int .i64 f1, .int .i64 f2], .bool true]) T) := by
  obtain ⟨g, off, rfl⟩ := h.addr (by simp)
  exact (rlpop_at h).mono fun e w' ⟨h1, ⟨q, c, X⟩, K⟩ => ⟨h1, ⟨_, _, X⟩, K⟩
set_option maxHeartbeats 1000000 in
theorem rldrop_no {base : Nat} {w : World} {y o : Nat} {U : TypeId} {pre post : List Value} {a : Option Addr} {cap : Nat} {L : List (Int × Int)} (h : RL base w y o U pre post a cap L) {q1 q2 : Int} (hq : (q1, q2) ∉ L) :
    Calls Try.prog 15 #[.pointer (some ⟨y, o, none⟩), .agg #[.int .i64 q1, .int .i64 q2]] w fun e w' => e = .returned (.bool false) ∧ Kp [] w w' := by
  have HA := hide (lI_none (lAt_out hq))
  have K0 := hide ((Kp.refl [] w).alloc (.cells #[.int .i64 q1, .int .i64 q2] 27))
  have H := hide (h.grew (unhide K0))
  have c0 := (Bk.new w 27 [.int .i64 q1, .int .i64 q2]).cell (i := 0) rfl
  have c1 := (Bk.new w 27 [.int .i64 q1, .int .i64 q2]).cell (i := 1) rfl
  clear h hq
  go_enter Try.func15, Try.ntmps15
  go_wp2_with fail
  refine (rlat (unhide H) (unhide HA)).mono ?_
  rintro e W1 ⟨rfl, K1⟩
  have K2 := hide ((unhide K0).then K1)
  clear c0 c1 K1
  go_wp2
  go_ret
  exact ⟨rfl, unhide K2⟩
set_option maxRecDepth 20000 in
set_option maxHeartbeats 4000000 in
theorem rldrop_yes {base : Nat} {w : World} {y o : Nat} {U : TypeId} {pre post : List Value} {a : Option Addr} {cap : Nat} {L : List (Int × Int)} (h : RL base w y o U pre post a cap L) (hnd : L.Nodup) {q1 q2 : Int} (hq : (q1, q2) ∈ L) :
    Calls Try.prog 15 #[.pointer (some ⟨y, o, none⟩), .agg #[.int .i64 q1, .int .i64 q2]] w (RLP base y o U pre post w (.bool true) (lDel L (q1, q2))) := by
  obtain ⟨i, hA⟩ := lAt_in hq
  have hx := lAt_some hA
  have hi : i < L.length := (List.getElem?_eq_some_iff.1 hx).1
  have hs := h.small
  have hwt := h.head.lt
  have hbt := h.new
  have hbw : base ≤ w.heap.size := by omega
  obtain ⟨g, off, rfl⟩ := h.addr (by omega)
  obtain ⟨_, hcap, hcap2⟩ := h.rd.caps
  have HA := hide (lI_some hA)
  have hsm := hide hs
  have hall := hide h.any
  have hnU := hide h.ne
  replace hx := hide hx
  replace hnd := hide hnd
  replace hbt := hide hbt
  replace hbw := hide hbw
  have K0 := hide ((Kp.refl [] w).alloc (.cells #[.int .i64 q1, .int .i64 q2] 27))
  have H := hide (h.grew (unhide K0))
  have b0 := (Bk.new w 27 [.int .i64 q1, .int .i64 q2]).cell (i := 0) rfl
  have b1' := (Bk.new w 27 [.int .i64 q1, .int .i64 q2]).cell (i := 1) rfl
  have b1 : (i : Int) < (L.length : Int) := by omega
  have b2 : ((i : Int)).toNat = i := Int.toNat_natCast i
  have b3 : decide ((i : Int) < 0) = false := decide_eq_false (by omega)
  have b4 : (i : Int) ≤ (cap : Int) := by omega
  have b5 : (L.length : Int) ≤ (cap : Int) := by omega
  clear h hq hA
  go_enter Try.func15, Try.ntmps15
  go_wp2_with fail
  refine (rlat (unhide H) (unhide HA)).mono ?_
  rintro e W1 ⟨rfl, K1⟩
  have K1w := hide ((unhide K0).then K1)
  have R1 := hide ((unhide H).grew K1)
  have c1 := (unhide R1).head.cell0 rfl
  clear K1 H b0 b1' K0
  go_wp2_with fail
  refine (ids_calls (L := L.take i) ((unhide R1).rd.front i _ (by omega)) (fun ad e => ⟨g, off, by cases e; rfl⟩) (by simp; omega) (by simp; omega)).mono ?_
  rintro e w1 ⟨v1, rfl, hrow, K2⟩
  obtain ⟨a1, c1', rfl⟩ := hrow.form
  have el : (L.take i).length = i := by simp; omega
  rw [el] at hrow
  simp only [el]
  have R2 := hide ((unhide R1).grew K2)
  have c4 := (unhide R2).head.cell0 rfl
  have f4 := (unhide R2).head.frozen
  replace K2 := hide K2
  replace hrow := hide hrow
  clear c1
  have b6 : (i : Int) + 1 ≤ (L.length : Int) := by omega
  have b7 : ((i : Int) + 1).toNat = i + 1 := by omega
  by_cases hck : cap = i + 1
  · have hdr : L.drop (i + 1) = [] := List.drop_eq_nil_of_le (by omega)
    have hle : L.length - (i + 1) = 0 := by omega
    go_wp2_with (first
      | (at_builtin; refine Gr.list_app (E := idE) Try.underlying34 Try.infoID rfl (by decide) (by decide) rfl _ _ rfl W1.heap.size _ _ (L.take i) (L.drop (i + 1)) rfl rfl (unhide hrow) (by rw [hdr]; exact Gr.src_nil (by omega)) ?c3 ?c4 ?_)
      | go_in)
    case c3 => simp; omega
    case c4 => exact (unhide K2).size
    intro v2 w2 hrow2 hgrow2 hat2
    have hrow3 : Gr.Rw idE W1.heap.size w2 v2 (lDel L (q1, q2)) := by rw [← lDel_erase (unhide hnd) (unhide hx), ← Gr.erase_is, hdr, List.append_nil]; exact hrow2
    obtain ⟨a2, c2, rfl⟩ := hrow3.form
    have K3 := Gr.kp_grown (unhide K2) hgrow2 (fun q hq => ((unhide hrow).lt hq).1)
    have ht2 := hd_grown (unhide R2).head hgrow2 (fun e => by have h7 := ((unhide hrow).lt e.symm).1; have h8 := (unhide R1).head.lt; omega)
    have c5 := ht2.cell0 rfl
    have f5 := ht2.frozen
    have hR3 := RL.put (base := base) hrow3.ro (by have := (unhide K1w).size; have := unhide hbw; omega) ht2 (unhide hnU) (unhide hbt) (Nat.le_trans (lDel_len _ _) (unhide hsm))
    have K5 := (((unhide K1w).then K3).mono (S' := [y]) (by simp)).setCell (p := ⟨y, o, none⟩) (.inl (by simp)) (.slice a2 (lDel L (q1, q2)).length c2)
    replace hR3 := hide hR3
    replace K5 := hide K5
    clear hrow hrow2 hrow3 hgrow2 hat2 ht2 K2 K3 R2 R1 K1w hck b4 b6 b7 c4 f4
    go_wp2
    go_ret
    exact ⟨rfl, unhide hR3, unhide K5⟩
  · skip
    go_wp2_with (first
      | (at_builtin; refine Gr.list_app (E := idE) Try.underlying34 Try.infoID rfl (by decide) (by decide) rfl _ _ rfl W1.heap.size _ _ (L.take i) (L.drop (i + 1)) rfl rfl (unhide hrow) ((unhide R2).rd.back (i + 1) _ (by omega)) ?c3 ?c4 ?_)
      | go_in)
    case c3 => simp; omega
    case c4 => exact (unhide K2).size
    intro v2 w2 hrow2 hgrow2 hat2
    have hrow3 : Gr.Rw idE W1.heap.size w2 v2 (lDel L (q1, q2)) := by rw [← lDel_erase (unhide hnd) (unhide hx), ← Gr.erase_is]; exact hrow2
    obtain ⟨a2, c2, rfl⟩ := hrow3.form
    have K3 := Gr.kp_grown (unhide K2) hgrow2 (fun q hq => ((unhide hrow).lt hq).1)
    have ht2 := hd_grown (unhide R2).head hgrow2 (fun e => by have h7 := ((unhide hrow).lt e.symm).1; have h8 := (unhide R1).head.lt; omega)
    have c5 := ht2.cell0 rfl
    have f5 := ht2.frozen
    have hR3 := RL.put (base := base) hrow3.ro (by have := (unhide K1w).size; have := unhide hbw; omega) ht2 (unhide hnU) (unhide hbt) (Nat.le_trans (lDel_len _ _) (unhide hsm))
    have K5 := (((unhide K1w).then K3).mono (S' := [y]) (by simp)).setCell (p := ⟨y, o, none⟩) (.inl (by simp)) (.slice a2 (lDel L (q1, q2)).length c2)
    replace hR3 := hide hR3
    replace K5 := hide K5
    clear hrow hrow2 hrow3 hgrow2 hat2 ht2 K2 K3 R2 R1 K1w hck b4 b6 b7 c4 f4
    go_wp2
    go_ret
    exact ⟨rfl, unhide hR3, unhide K5⟩
end Go.Proofs.Ytgahekhlbcnmaaa
