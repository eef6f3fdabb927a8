/- The program's table: rehang. -/
import Derived.Test.YtjjgjgncnifjmaaKSlots6
namespace Go.Proofs.Ytjjgjgncnifjmaa
open Go.RowKit
set_option linter.unusedVariables false
set_option maxRecDepth 4000 in
set_option maxHeartbeats 2000000 in
theorem rehang_calls {w : World} {t : Nat} {m : Option Nat} {L : List Sl} (h : PT w t m L) {n s u v : Int} (hz : isN n s = false) :
    Calls Try.prog 33 #[.pointer (some ⟨t, 0, none⟩), .agg #[.int .i64 n, .int .i64 s], .agg #[.int .i64 u, .int .i64 v]] w (RehP w t m (L.map (reF n s u v))) := by
  have hs := h.small
  have K0 := hide (((Kp.refl [] w).alloc (.cells #[.int .i64 n, .int .i64 s] 40)).alloc (.cells #[.int .i64 u, .int .i64 v] 40))
  have B0 := hide (Bk.next (p := w.heap.size + 1) (w.alloc (.cells #[.int .i64 n, .int .i64 s] 40)) 40 [.int .i64 u, .int .i64 v] (by simp))
  have hlen : (sel (kidF n s) L).length ≤ 65536 := Nat.le_trans (sel_len _ _) hs
  have hnd := hide (rises_nd h.rises')
  have hsub : Hid (∀ q ∈ sel (kidF n s) L, ∃ x ∈ L, ppl x = q) := fun q hq => by
    obtain ⟨x, hx, _, e⟩ := mem_sel.1 hq
    exact ⟨x, hx, e⟩
  have hcn := hide (rises_nd (sel_rises (F := kidF n s) h.rises))
  have hall := hide (up_all (u := u) (v := v) (rises_nd h.rises') hz)
  have hok := hide h.ok
  have H := hide h
  have hmt := hide h.ne
  have hmlt := hide h.lt
  obtain ⟨cs, hcs⟩ : ∃ cs, sel (kidF n s) L = cs := ⟨_, rfl⟩
  have hk := hide (kids_calls (h.grew (unhide K0)) n s)
  rw [hcs] at hk hlen hcn hsub hall
  clear h hs hcs
  go_enter Try.func33, Try.ntmps33
  go_wp2_with fail
  refine (unhide hk).mono ?_
  rintro e W1 ⟨v1, rfl, hP, hK⟩
  have B1 := hide ((unhide B0).kept hK (by simp))
  have K1 := hide ((unhide K0).then hK)
  have hT := hide ((unhide H).grew (unhide K1))
  obtain ⟨a1, cp1, rfl⟩ := hP.form
  replace hP := hide hP
  clear hk K0 B0 hK
  go_wp2_with fail
  go_loopg [13] cs.length (fun mm i wx => ∃ j : Nat, j ≤ cs.length ∧ mm = cs.length - j ∧ i = .int .i64 j ∧ MO wx m (L.map (upBy (cs.take j) u v)) ∧ Kp m.toList W1 wx)
  case atStart => exact ⟨0, Nat.zero_le _, rfl, rfl, by rw [List.take_zero, up_none]; exact (unhide hT).mo, Kp.refl _ _⟩
  case round =>
    obtain ⟨j, hj, rfl, rfl, hM, hK⟩ := hrel
    by_cases hlt : j < cs.length
    · obtain ⟨⟨pn, ps⟩, hq⟩ : ∃ q, cs[j]? = some q := ⟨_, List.getElem?_eq_getElem hlt⟩
      obtain ⟨y, hy, hye⟩ := unhide hsub _ (List.mem_of_getElem? hq)
      cases m with
      | none => have e : L = [] := (unhide H).mo; subst e; cases hy
      | some b =>
        have hB := (unhide hT).head.kept hK (by have := unhide hmt b rfl; simp; exact fun e => this e.symm)
        have hU := (unhide B1).kept hK (by have := unhide hmlt b rfl; simp; omega)
        have hP' := (unhide hP).kept hK (by
          intro gg hgg hmem
          simp at hmem
          obtain ⟨cur, hc⟩ := (unhide hP).cells hgg
          obtain ⟨es, clock, hb, _⟩ := (unhide hT).mo
          rw [hmem, hb] at hc
          cases hc)
        obtain ⟨g, hg⟩ : ∃ g, a1 = some ⟨g, 0, none⟩ := by
          rcases hP'.addr with ⟨_, e⟩ | ⟨g, cap, e, _⟩
          · rw [e] at hlt; simp at hlt
          · cases e; exact ⟨g, rfl⟩
        subst hg
        obtain ⟨x0, x1⟩ := hP'.at hq
        simp only at x0 x1
        have b1 : (j : Int) < (cs.length : Int) := by omega
        have b2 : ((j : Int)).toNat = j := Int.toNat_natCast j
        have hnot : ppl y ∉ cs.take j := by
          rw [hye]
          intro hmem
          obtain ⟨i, hi, e⟩ := List.mem_iff_getElem.1 hmem
          rw [List.length_take] at hi
          rw [List.getElem_take] at e
          have e2 := (List.getElem?_eq_some_iff.1 hq).2
          have := (List.getElem_inj (unhide hcn)).1 (e.trans e2.symm)
          omega
        obtain ⟨k, o, z, bb, r, yu, yv, hV⟩ : ∃ k o z bb r yu yv : Int, y = ⟨pn, ps, yu, yv, k, o, z, bb, r⟩ := by
          obtain ⟨a0, a1, a2, a3, a4, a5, a6, a7, a8⟩ := y
          have e1 : a0 = pn := congrArg Prod.fst hye
          have e2 : a1 = ps := congrArg Prod.snd hye
          subst e1 e2
          exact ⟨_, _, _, _, _, _, _, rfl⟩
        have hmem : ((pn, ps), holdV y) ∈ (L.map (upBy (cs.take j) u v)).map slKV := by
          refine List.mem_map.2 ⟨y, List.mem_map.2 ⟨y, hy, upBy_not hnot⟩, ?_⟩
          unfold slKV
          rw [hV]
        have hstep : Hid (((L.map (upBy (cs.take j) u v)).map slKV).map (setF (pn, ps) (holdV (y.up u v))) = (L.map (upBy (cs.take (j + 1)) u v)).map slKV) := by
          have e := up_step (unhide hnd) (Q := cs.take j) (u := u) (v := v) hy
          rw [hye] at e
          have e3 : cs.take (j + 1) = cs.take j ++ [(pn, ps)] := by
            rw [List.take_succ_eq_append_getElem hlt, (List.getElem?_eq_some_iff.1 hq).2]
          unfold Hid
          rw [e3]
          exact e
        have hMb : Mp wr b ((L.map (upBy (cs.take j) u v)).map slKV) := hM
        have hS : Hid (∀ w', Kp [] (wr.alloc (.cells #[.int .i64 pn, .int .i64 ps] 40)) w' → w'.cell? ⟨t, 0, none⟩ = some (.map (some b)) ∧ w'.cell? ⟨wr.heap.size, 0, none⟩ = some (.int .i64 pn) ∧ w'.cell? ⟨wr.heap.size, 1, none⟩ = some (.int .i64 ps) ∧ (Instr.lookup 48 (.map (some b)) (.agg #[.int .i64 pn, .int .i64 ps]) false).run Try.prog w' = .ok (.agg #[.int .i64 k, .int .i64 o, .int .i64 z, .int .i64 bb, .int .i64 r, .int .i64 yu, .int .i64 yv]) w') := fun w' K => by
          obtain ⟨B, K1⟩ := kp_box K
          refine ⟨(hB.kept K1 (by simp)).cell rfl, B.cell rfl, B.cell rfl, ?_⟩
          have := Mp.hit (hMb.kept K1 (by simp)) Try.underlying48 hmem false
          rw [hV] at this
          exact this
        have hB' := hide hB
        have hMb' := hide hMb
        have hKr := hide hK
        have hmem' := hide hmem
        have hV' := hide hV
        have KA := hide (Kp.refl [] (wr.alloc (.cells #[.int .i64 pn, .int .i64 ps] 40)))
        have NB := hide (Bk.new wr 40 [.int .i64 pn, .int .i64 ps])
        have hw1 : (wr.alloc (.cells #[.int .i64 pn, .int .i64 ps] 40)).heap.size = wr.heap.size + 1 := by simp
        have KWr := hide ((Kp.refl [] wr).alloc (.cells #[.int .i64 pn, .int .i64 ps] 40))
        have u0' : ∀ oo, ((wr.alloc (.cells #[.int .i64 pn, .int .i64 ps] 40)).alloc oo).cell? ⟨w.heap.size + 1, 0, none⟩ = some (.int .i64 u) := fun oo => ((hU.alloc _).alloc oo).cell rfl
        have u1' : ∀ oo, ((wr.alloc (.cells #[.int .i64 pn, .int .i64 ps] 40)).alloc oo).cell? ⟨w.heap.size + 1, 1, none⟩ = some (.int .i64 v) := fun oo => ((hU.alloc _).alloc oo).cell rfl
        clear hV hmem hMb hB hU hM hK hP' hnot hq hy hye
        go_wp2_with fail
        generalize wr.alloc (.cells #[.int .i64 pn, .int .i64 ps] 40) = wa at *
        go_region_held3 (fun w' => w'.cell? ⟨t, 0, none⟩ = some (.map (some b)) ∧ w'.cell? ⟨wr.heap.size, 0, none⟩ = some (.int .i64 pn) ∧ w'.cell? ⟨wr.heap.size, 1, none⟩ = some (.int .i64 ps) ∧ (Instr.lookup 48 (.map (some b)) (.agg #[.int .i64 pn, .int .i64 ps]) false).run Try.prog w' = .ok (.agg #[.int .i64 k, .int .i64 o, .int .i64 z, .int .i64 bb, .int .i64 r, .int .i64 yu, .int .i64 yv]) w') (first | exact unhide hS _ ((unhide KA).drew) | exact unhide hS _ (((unhide KA).alloc _).drew)) (fail)
        all_goals
          go_wp2_with fail
          have K2 := hide (((unhide KWr).alloc (.cells #[.int .i64 k, .int .i64 o, .int .i64 z, .int .i64 bb, .int .i64 r, .int .i64 u, .int .i64 v] 68)).drew)
          have N1 := hide ((unhide NB).alloc (.cells #[.int .i64 k, .int .i64 o, .int .i64 z, .int .i64 bb, .int .i64 r, .int .i64 u, .int .i64 v] 68))
          have N2 := hide (Bk.next (p := wr.heap.size + 1) wa 68 [.int .i64 k, .int .i64 o, .int .i64 z, .int .i64 bb, .int .i64 r, .int .i64 u, .int .i64 v] hw1)
          replace N1 : Hid (Bk (wa.alloc (.cells #[.int .i64 k, .int .i64 o, .int .i64 z, .int .i64 bb, .int .i64 r, .int .i64 u, .int .i64 v] 68)).drew wr.heap.size 40 [.int .i64 pn, .int .i64 ps]) := N1
          replace N2 : Hid (Bk (wa.alloc (.cells #[.int .i64 k, .int .i64 o, .int .i64 z, .int .i64 bb, .int .i64 r, .int .i64 u, .int .i64 v] 68)).drew (wr.heap.size + 1) 68 [.int .i64 k, .int .i64 o, .int .i64 z, .int .i64 bb, .int .i64 r, .int .i64 u, .int .i64 v]) := N2
          generalize (wa.alloc (.cells #[.int .i64 k, .int .i64 o, .int .i64 z, .int .i64 bb, .int .i64 r, .int .i64 u, .int .i64 v] 68)).drew = wx at *
          obtain ⟨W6, hup0, hM6, hK6⟩ := Mp.put_hit (w := wx.drew) ((unhide hMb').kept (unhide K2).drew (by simp)) Try.underlying48 (unhide hmem') (holdV (y.up u v))
          have hup : (Instr.mapUpdate 48 (.map (some b)) (.agg #[.int .i64 pn, .int .i64 ps]) (.agg #[.int .i64 k, .int .i64 o, .int .i64 z, .int .i64 bb, .int .i64 r, .int .i64 u, .int .i64 v])).run Try.prog wx.drew = .ok () W6 := by rw [unhide hV'] at hup0; exact hup0
          have hnb : Hid (t ∉ [b] ∧ wr.heap.size ∉ [b] ∧ wr.heap.size + 1 ∉ [b]) := by
            have q1 := unhide hmt b rfl
            have q2 := (unhide hMb').lt
            unfold Hid
            simp
            exact ⟨fun e => q1 e.symm, by omega, by omega⟩
          have hBx := hide ((unhide hB').kept (unhide K2) (by simp))
          have hS2 : Hid (∀ w', Kp [b] wx w' → (fun w' => w'.cell? ⟨t, 0, none⟩ = some (.map (some b)) ∧ w'.cell? ⟨wr.heap.size, 0, none⟩ = some (.int .i64 pn) ∧ w'.cell? ⟨wr.heap.size, 1, none⟩ = some (.int .i64 ps) ∧ w'.cell? ⟨wr.heap.size + 1, 0, none⟩ = some (.int .i64 k) ∧ w'.cell? ⟨wr.heap.size + 1, 1, none⟩ = some (.int .i64 o) ∧ w'.cell? ⟨wr.heap.size + 1, 2, none⟩ = some (.int .i64 z) ∧ w'.cell? ⟨wr.heap.size + 1, 3, none⟩ = some (.int .i64 bb) ∧ w'.cell? ⟨wr.heap.size + 1, 4, none⟩ = some (.int .i64 r) ∧ w'.cell? ⟨wr.heap.size + 1, 5, none⟩ = some (.int .i64 u) ∧ w'.cell? ⟨wr.heap.size + 1, 6, none⟩ = some (.int .i64 v)) w') := fun w' kk => ⟨((unhide hBx).kept kk (unhide hnb).1).cell rfl, ((unhide N1).kept kk (unhide hnb).2.1).cell rfl, ((unhide N1).kept kk (unhide hnb).2.1).cell rfl, ((unhide N2).kept kk (unhide hnb).2.2).cell rfl, ((unhide N2).kept kk (unhide hnb).2.2).cell rfl, ((unhide N2).kept kk (unhide hnb).2.2).cell rfl, ((unhide N2).kept kk (unhide hnb).2.2).cell rfl, ((unhide N2).kept kk (unhide hnb).2.2).cell rfl, ((unhide N2).kept kk (unhide hnb).2.2).cell rfl, ((unhide N2).kept kk (unhide hnb).2.2).cell rfl⟩
          have K3 := hide (Kp.refl [b] wx).drew
          have K4 := hide ((Kp.refl [b] wx).drew.then hK6)
          replace hM6 := hide hM6
          clear hup0 hK6
          have cc := unhide hS2 _ (unhide K3)
          go_region_held3 (fun w' => w'.cell? ⟨t, 0, none⟩ = some (.map (some b)) ∧ w'.cell? ⟨wr.heap.size, 0, none⟩ = some (.int .i64 pn) ∧ w'.cell? ⟨wr.heap.size, 1, none⟩ = some (.int .i64 ps) ∧ w'.cell? ⟨wr.heap.size + 1, 0, none⟩ = some (.int .i64 k) ∧ w'.cell? ⟨wr.heap.size + 1, 1, none⟩ = some (.int .i64 o) ∧ w'.cell? ⟨wr.heap.size + 1, 2, none⟩ = some (.int .i64 z) ∧ w'.cell? ⟨wr.heap.size + 1, 3, none⟩ = some (.int .i64 bb) ∧ w'.cell? ⟨wr.heap.size + 1, 4, none⟩ = some (.int .i64 r) ∧ w'.cell? ⟨wr.heap.size + 1, 5, none⟩ = some (.int .i64 u) ∧ w'.cell? ⟨wr.heap.size + 1, 6, none⟩ = some (.int .i64 v)) (first | exact unhide hS2 _ (unhide K3) | exact unhide hS2 _ (unhide K4)) (fail)
          all_goals
            go_wp2
            go_roundg (cs.length - (j + 1))
            case measure => omega
            case rel =>
              refine ⟨j + 1, by omega, rfl, by go_num, ?_, ((unhide hKr).trans (unhide K2) (T := [b]) (by simp) (by simp)).then (unhide K4)⟩
              show Mp _ b _
              rw [← unhide hstep]
              exact unhide hM6
    · have b1 : decide ((j : Int) < (cs.length : Int)) = false := decide_eq_false (by omega)
      rw [List.take_of_length_le (show cs.length ≤ j by omega), unhide hall] at hM
      replace hM := hide hM
      replace hK := hide hK
      go_wp2
      go_end0
      refine ⟨rfl, (unhide H).mapped (reF_key n s u v) ((unhide hT).head.kept (unhide hK) ?_) (unhide hM), (unhide K1).trans (unhide hK) (by simp) (fun _ q => .inl q)⟩
      intro hmem
      cases m with
      | none => simp at hmem
      | some b => simp at hmem; exact unhide hmt b rfl hmem.symm
end Go.Proofs.Ytjjgjgncnifjmaa
