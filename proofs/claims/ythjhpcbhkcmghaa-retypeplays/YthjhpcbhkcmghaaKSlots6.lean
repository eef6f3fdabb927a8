/- The program's table: other parents. -/
import Derived.Test.YthjhpcbhkcmghaaKSlots3
import Derived.Test.YthjhpcbhkcmghaaKSlots5
import Derived.Test.YthjhpcbhkcmghaaKSamePl
namespace Go.Proofs.Ythjhpcbhkcmghaa
open Go.RowKit
set_option linter.unusedVariables false
def upBy (Q : List (Int × Int)) (u v : Int) (x : Sl) : Sl := if (x.n, x.s) ∈ Q then x.up u v else x
theorem up_key (x : Sl) (u v : Int) : ppl (x.up u v) = ppl x := rfl
theorem upBy_key (Q : List (Int × Int)) (u v : Int) (x : Sl) : ppl (upBy Q u v x) = ppl x := by
  unfold upBy
  split <;> rfl
theorem rises_nd {ps : List (Int × Int)} (h : Rises ps) : ps.Nodup := h.imp fun hab e => by subst e; unfold beforeP at hab; omega
theorem key_eq {L : List Sl} (hn : (L.map ppl).Nodup) {x y : Sl} (hx : x ∈ L) (hy : y ∈ L) (e : ppl x = ppl y) : x = y := by
  induction L with
  | nil => cases hx
  | cons a L ih =>
    rw [List.map_cons, List.nodup_cons] at hn
    rcases List.mem_cons.1 hx with rfl | m1 <;> rcases List.mem_cons.1 hy with rfl | m2
    · rfl
    · exact absurd (List.mem_map.2 ⟨y, m2, e.symm⟩) hn.1
    · exact absurd (List.mem_map.2 ⟨x, m1, e⟩) hn.1
    · exact ih hn.2 m1 m2
theorem up_step {L : List Sl} (hn : (L.map ppl).Nodup) {Q : List (Int × Int)} {u v : Int} {y : Sl} (hy : y ∈ L) :
    ((L.map (upBy Q u v)).map slKV).map (setF (ppl y) (holdV (y.up u v))) = (L.map (upBy (Q ++ [ppl y]) u v)).map slKV := by
  rw [List.map_map, List.map_map, List.map_map]
  refine List.map_congr_left fun x hx => ?_
  show setF (ppl y) (holdV (y.up u v)) (slKV (upBy Q u v x)) = slKV (upBy (Q ++ [ppl y]) u v x)
  have hk : (slKV (upBy Q u v x)).1 = ppl x := upBy_key Q u v x
  unfold setF
  rw [hk]
  by_cases e : ppl x = ppl y
  · have := key_eq hn hx hy e
    subst this
    rw [if_pos rfl]
    have : upBy (Q ++ [ppl x]) u v x = x.up u v := by
      unfold upBy
      exact if_pos (List.mem_append.2 (.inr (List.mem_singleton.2 rfl)))
    rw [this]
    rfl
  · rw [if_neg e]
    congr 1
    unfold upBy
    have : ((x.n, x.s) ∈ Q ++ [ppl y]) ↔ ((x.n, x.s) ∈ Q) := by
      rw [List.mem_append, List.mem_singleton]
      exact ⟨fun h => h.elim id (fun q => absurd q e), .inl⟩
    by_cases h : (x.n, x.s) ∈ Q
    · rw [if_pos h, if_pos (this.2 h)]
    · rw [if_neg h, if_neg (fun q => h (this.1 q))]
theorem mem_sel {F : Sl → Bool} {L : List Sl} {q : Int × Int} : q ∈ sel F L ↔ ∃ x ∈ L, F x = true ∧ ppl x = q := by
  unfold sel
  rw [List.mem_map]
  constructor
  · rintro ⟨x, hx, e⟩
    exact ⟨x, (List.mem_filter.1 hx).1, (List.mem_filter.1 hx).2, e⟩
  · rintro ⟨x, hx, h, e⟩
    exact ⟨x, List.mem_filter.2 ⟨hx, h⟩, e⟩
theorem up_all {L : List Sl} (hn : (L.map ppl).Nodup) {n s u v : Int} (hz : isN n s = false) : L.map (upBy (sel (kidF n s) L) u v) = L.map (reF n s u v) := by
  refine List.map_congr_left fun x hx => ?_
  unfold upBy reF
  have : ((x.n, x.s) ∈ sel (kidF n s) L) ↔ (x.u = n ∧ x.v = s) := by
    rw [mem_sel]
    constructor
    · rintro ⟨y, hy, hf, e⟩
      have := key_eq hn hy hx e
      subst this
      unfold kidF at hf
      simp at hf
      exact hf.1
    · intro e
      refine ⟨x, hx, ?_, rfl⟩
      unfold isN at hz
      unfold kidF
      rw [hz]
      simp [e.1, e.2]
  by_cases h : x.u = n ∧ x.v = s
  · rw [if_pos h, if_pos (this.2 h)]
  · rw [if_neg h, if_neg (fun q => h (this.1 q))]
theorem up_none (L : List Sl) (u v : Int) : L.map (upBy [] u v) = L := by
  conv => rhs; rw [← List.map_id L]
  refine List.map_congr_left fun x hx => ?_
  unfold upBy
  simp
theorem upBy_not {Q : List (Int × Int)} {u v : Int} {y : Sl} (h : ppl y ∉ Q) : upBy Q u v y = y := by unfold upBy; exact if_neg h
/-- Pl's cells: place j of the list. -/
theorem Pl.at {base : Nat} {w : World} {g cap len : Nat} {ps : List (Int × Int)} (h : Pl base w (.slice (some ⟨g, 0, none⟩) len cap) ps) {j : Nat} {q : Int × Int} (hq : ps[j]? = some q) : w.cell? ⟨g, j * 2, none⟩ = some (.int .i64 q.1) ∧ w.cell? ⟨g, j * 2 + 1, none⟩ = some (.int .i64 q.2) := by
  obtain ⟨h1, h2⟩ := prow_get ps j q hq
  have hj : j < ps.length := (List.getElem?_eq_some_iff.1 hq).1
  obtain ⟨a, c, e⟩ := Pl.form h
  cases e
  exact ⟨(World.ownsRow.cellAt h (j * 2) (by omega)).trans h1, (World.ownsRow.cellAt h (j * 2 + 1) (by omega)).trans h2⟩
theorem Pl.addr {base : Nat} {w : World} {v : Value} {ps : List (Int × Int)} (h : Pl base w v ps) : (v = .slice none 0 0 ∧ ps = []) ∨ ∃ g cap, v = .slice (some ⟨g, 0, none⟩) ps.length cap ∧ ps.length ≤ cap ∧ cap ≤ maxLen := by
  rcases h.2 with ⟨e, hz⟩ | ⟨g, c, cur, e, _, _, h1, h2, _⟩
  · exact .inl ⟨e, List.length_eq_zero_iff.1 hz⟩
  · exact .inr ⟨g, c, e, h1, h2⟩
def RehP (w : World) (t : Nat) (m : Option Nat) (L : List Sl) (e : Ending) (w' : World) : Prop := e = .returned (.tuple #[]) ∧ PT w' t m L ∧ Kp m.toList w w'
theorem PT.mapped {w w' : World} {t : Nat} {m : Option Nat} {L : List Sl} {f : Sl → Sl} (h : PT w t m L) (hf : ∀ x, ppl (f x) = ppl x) (hB : Bk w' t 27 [.map m]) (hM : MO w' m (L.map f)) : PT w' t m (L.map f) := by
  have e : (L.map f).map ppl = L.map ppl := by rw [List.map_map]; exact List.map_congr_left fun x _ => hf x
  refine ⟨hB, hM, ?_, by rw [List.length_map]; exact h.small, ?_⟩
  · show Rises ((L.map f).map ppl)
    rw [e]
    exact h.rises
  · intro x hx
    obtain ⟨y, hy, rfl⟩ := List.mem_map.1 hx
    have := h.ok y hy
    have e := hf y
    have e1 : (f y).n = y.n := congrArg Prod.fst e
    have e2 : (f y).s = y.s := congrArg Prod.snd e
    rw [e1, e2]
    exact this
theorem reF_key (n s u v : Int) (x : Sl) : ppl (reF n s u v x) = ppl x := by
  unfold reF
  split <;> rfl
theorem pin_ok {n s : Int} (h : placeOk n s = true) : PIn (n, s) := by
  rw [placeOk_iff] at h
  unfold placeP at h
  exact ⟨in64_of (by show _ ≤ n; omega) (by show n ≤ _; omega), in64_of (by show _ ≤ s; omega) (by show s ≤ _; omega)⟩
set_option maxRecDepth 4000 in
set_option maxHeartbeats 2000000 in
theorem rehang_calls {w : World} {t : Nat} {m : Option Nat} {L : List Sl} (h : PT w t m L) {n s u v : Int} (hz : isN n s = false) :
    Calls Try.prog 37 #[.pointer (some ⟨t, 0, none⟩), .agg #[.int .i64 n, .int .i64 s], .agg #[.int .i64 u, .int .i64 v]] w (RehP w t m (L.map (reF n s u v))) := by
  have hs := h.small
  have K0 := hide (((Kp.refl [] w).alloc (.cells #[.int .i64 n, .int .i64 s] 40)).alloc (.cells #[.int .i64 u, .int .i64 v] 40))
  have B0 := hide (Bk.next (p := w.heap.size + 1) (w.alloc (.cells #[.int .i64 n, .int .i64 s] 40)) 40 [.int .i64 u, .int .i64 v] (by simp))
  have hlen : (sel (kidF n s) L).length ≤ 65536 := Nat.le_trans (sel_len _ _) hs
  have hnd := hide (rises_nd h.rises')
  have hsub : Hid (∀ q ∈ sel (kidF n s) L, ∃ x ∈ L, ppl x = q) := fun q hq => by
    obtain ⟨x, hx, _, e⟩ := mem_sel.1 hq
    exact ⟨x, hx, e⟩
  have hcn := hide (rises_nd (sel_rises (F := kidF n s) h.rises))
  have hall := hide (up_all (u := u) (v := v) (rises_nd h.rises') hz)
  have hok := hide h.ok
  have H := hide h
  have hmt := hide h.ne
  have hmlt := hide h.lt
  obtain ⟨cs, hcs⟩ : ∃ cs, sel (kidF n s) L = cs := ⟨_, rfl⟩
  have hk := hide (kids_calls (h.grew (unhide K0)) n s)
  rw [hcs] at hk hlen hcn hsub hall
  clear h hs hcs
  go_enter Try.func37, Try.ntmps37
  go_wp2_with fail
  refine (unhide hk).mono ?_
  rintro e W1 ⟨v1, rfl, hP, hK⟩
  have B1 := hide ((unhide B0).kept hK (by simp))
  have K1 := hide ((unhide K0).then hK)
  have hT := hide ((unhide H).grew (unhide K1))
  obtain ⟨a1, cp1, rfl⟩ := hP.form
  replace hP := hide hP
  clear hk K0 B0 hK
  go_wp2_with fail
  go_loopg [13] cs.length (fun mm i wx => ∃ j : Nat, j ≤ cs.length ∧ mm = cs.length - j ∧ i = .int .i64 j ∧ MO wx m (L.map (upBy (cs.take j) u v)) ∧ Kp m.toList W1 wx)
  case atStart => exact ⟨0, Nat.zero_le _, rfl, rfl, by rw [List.take_zero, up_none]; exact (unhide hT).mo, Kp.refl _ _⟩
  case round =>
    obtain ⟨j, hj, rfl, rfl, hM, hK⟩ := hrel
    by_cases hlt : j < cs.length
    · obtain ⟨⟨pn, ps⟩, hq⟩ : ∃ q, cs[j]? = some q := ⟨_, List.getElem?_eq_getElem hlt⟩
      obtain ⟨y, hy, hye⟩ := unhide hsub _ (List.mem_of_getElem? hq)
      cases m with
      | none => have e : L = [] := (unhide H).mo; subst e; cases hy
      | some b =>
        have hB := (unhide hT).head.kept hK (by have := unhide hmt b rfl; simp; exact fun e => this e.symm)
        have hU := (unhide B1).kept hK (by have := unhide hmlt b rfl; simp; omega)
        have hP' := (unhide hP).kept hK (by
          intro gg hgg hmem
          simp at hmem
          obtain ⟨cur, hc⟩ := (unhide hP).cells hgg
          obtain ⟨es, clock, hb, _⟩ := (unhide hT).mo
          rw [hmem, hb] at hc
          cases hc)
        obtain ⟨g, hg⟩ : ∃ g, a1 = some ⟨g, 0, none⟩ := by
          rcases hP'.addr with ⟨_, e⟩ | ⟨g, cap, e, _⟩
          · rw [e] at hlt; simp at hlt
          · cases e; exact ⟨g, rfl⟩
        subst hg
        obtain ⟨x0, x1⟩ := hP'.at hq
        simp only at x0 x1
        have b1 : (j : Int) < (cs.length : Int) := by omega
        have b2 : ((j : Int)).toNat = j := Int.toNat_natCast j
        have hnot : ppl y ∉ cs.take j := by
          rw [hye]
          intro hmem
          obtain ⟨i, hi, e⟩ := List.mem_iff_getElem.1 hmem
          rw [List.length_take] at hi
          rw [List.getElem_take] at e
          have e2 := (List.getElem?_eq_some_iff.1 hq).2
          have := (List.getElem_inj (unhide hcn)).1 (e.trans e2.symm)
          omega
        obtain ⟨k, o, z, bb, r, yu, yv, hV⟩ : ∃ k o z bb r yu yv : Int, y = ⟨pn, ps, yu, yv, k, o, z, bb, r⟩ := by
          obtain ⟨a0, a1, a2, a3, a4, a5, a6, a7, a8⟩ := y
          have e1 : a0 = pn := congrArg Prod.fst hye
          have e2 : a1 = ps := congrArg Prod.snd hye
          subst e1 e2
          exact ⟨_, _, _, _, _, _, _, rfl⟩
        have hmem : ((pn, ps), holdV y) ∈ (L.map (upBy (cs.take j) u v)).map slKV := by
          refine List.mem_map.2 ⟨y, List.mem_map.2 ⟨y, hy, upBy_not hnot⟩, ?_⟩
          unfold slKV
          rw [hV]
        have hstep : Hid (((L.map (upBy (cs.take j) u v)).map slKV).map (setF (pn, ps) (holdV (y.up u v))) = (L.map (upBy (cs.take (j + 1)) u v)).map slKV) := by
          have e := up_step (unhide hnd) (Q := cs.take j) (u := u) (v := v) hy
          rw [hye] at e
          have e3 : cs.take (j + 1) = cs.take j ++ [(pn, ps)] := by
            rw [List.take_succ_eq_append_getElem hlt, (List.getElem?_eq_some_iff.1 hq).2]
          unfold Hid
          rw [e3]
          exact e
        have hMb : Mp wr b ((L.map (upBy (cs.take j) u v)).map slKV) := hM
        have hS : Hid (∀ w', Kp [] (wr.alloc (.cells #[.int .i64 pn, .int .i64 ps] 40)) w' → w'.cell? ⟨t, 0, none⟩ = some (.map (some b)) ∧ w'.cell? ⟨wr.heap.size, 0, none⟩ = some (.int .i64 pn) ∧ w'.cell? ⟨wr.heap.size, 1, none⟩ = some (.int .i64 ps) ∧ (Instr.lookup 25 (.map (some b)) (.agg #[.int .i64 pn, .int .i64 ps]) false).run Try.prog w' = .ok (.agg #[.int .i64 k, .int .i64 o, .int .i64 z, .int .i64 bb, .int .i64 r, .int .i64 yu, .int .i64 yv]) w') := fun w' K => by
          obtain ⟨B, K1⟩ := kp_box K
          refine ⟨(hB.kept K1 (by simp)).cell rfl, B.cell rfl, B.cell rfl, ?_⟩
          have := Mp.hit (hMb.kept K1 (by simp)) Try.underlying25 hmem false
          rw [hV] at this
          exact this
        have hB' := hide hB
        have hMb' := hide hMb
        have hKr := hide hK
        have hmem' := hide hmem
        have hV' := hide hV
        have KA := hide (Kp.refl [] (wr.alloc (.cells #[.int .i64 pn, .int .i64 ps] 40)))
        have NB := hide (Bk.new wr 40 [.int .i64 pn, .int .i64 ps])
        have hw1 : (wr.alloc (.cells #[.int .i64 pn, .int .i64 ps] 40)).heap.size = wr.heap.size + 1 := by simp
        have KWr := hide ((Kp.refl [] wr).alloc (.cells #[.int .i64 pn, .int .i64 ps] 40))
        have u0' : ∀ oo, ((wr.alloc (.cells #[.int .i64 pn, .int .i64 ps] 40)).alloc oo).cell? ⟨w.heap.size + 1, 0, none⟩ = some (.int .i64 u) := fun oo => ((hU.alloc _).alloc oo).cell rfl
        have u1' : ∀ oo, ((wr.alloc (.cells #[.int .i64 pn, .int .i64 ps] 40)).alloc oo).cell? ⟨w.heap.size + 1, 1, none⟩ = some (.int .i64 v) := fun oo => ((hU.alloc _).alloc oo).cell rfl
        clear hV hmem hMb hB hU hM hK hP' hnot hq hy hye
        go_wp2_with fail
        generalize wr.alloc (.cells #[.int .i64 pn, .int .i64 ps] 40) = wa at *
        go_region_held3 (fun w' => w'.cell? ⟨t, 0, none⟩ = some (.map (some b)) ∧ w'.cell? ⟨wr.heap.size, 0, none⟩ = some (.int .i64 pn) ∧ w'.cell? ⟨wr.heap.size, 1, none⟩ = some (.int .i64 ps) ∧ (Instr.lookup 25 (.map (some b)) (.agg #[.int .i64 pn, .int .i64 ps]) false).run Try.prog w' = .ok (.agg #[.int .i64 k, .int .i64 o, .int .i64 z, .int .i64 bb, .int .i64 r, .int .i64 yu, .int .i64 yv]) w') (first | exact unhide hS _ ((unhide KA).drew) | exact unhide hS _ (((unhide KA).alloc _).drew)) (fail)
        all_goals
          go_wp2_with fail
          have K2 := hide (((unhide KWr).alloc (.cells #[.int .i64 k, .int .i64 o, .int .i64 z, .int .i64 bb, .int .i64 r, .int .i64 u, .int .i64 v] 74)).drew)
          have N1 := hide ((unhide NB).alloc (.cells #[.int .i64 k, .int .i64 o, .int .i64 z, .int .i64 bb, .int .i64 r, .int .i64 u, .int .i64 v] 74))
          have N2 := hide (Bk.next (p := wr.heap.size + 1) wa 74 [.int .i64 k, .int .i64 o, .int .i64 z, .int .i64 bb, .int .i64 r, .int .i64 u, .int .i64 v] hw1)
          replace N1 : Hid (Bk (wa.alloc (.cells #[.int .i64 k, .int .i64 o, .int .i64 z, .int .i64 bb, .int .i64 r, .int .i64 u, .int .i64 v] 74)).drew wr.heap.size 40 [.int .i64 pn, .int .i64 ps]) := N1
          replace N2 : Hid (Bk (wa.alloc (.cells #[.int .i64 k, .int .i64 o, .int .i64 z, .int .i64 bb, .int .i64 r, .int .i64 u, .int .i64 v] 74)).drew (wr.heap.size + 1) 74 [.int .i64 k, .int .i64 o, .int .i64 z, .int .i64 bb, .int .i64 r, .int .i64 u, .int .i64 v]) := N2
          generalize (wa.alloc (.cells #[.int .i64 k, .int .i64 o, .int .i64 z, .int .i64 bb, .int .i64 r, .int .i64 u, .int .i64 v] 74)).drew = wx at *
          obtain ⟨W6, hup0, hM6, hK6⟩ := Mp.put_hit (w := wx.drew) ((unhide hMb').kept (unhide K2).drew (by simp)) Try.underlying25 (unhide hmem') (holdV (y.up u v))
          have hup : (Instr.mapUpdate 25 (.map (some b)) (.agg #[.int .i64 pn, .int .i64 ps]) (.agg #[.int .i64 k, .int .i64 o, .int .i64 z, .int .i64 bb, .int .i64 r, .int .i64 u, .int .i64 v])).run Try.prog wx.drew = .ok () W6 := by rw [unhide hV'] at hup0; exact hup0
          have hnb : Hid (t ∉ [b] ∧ wr.heap.size ∉ [b] ∧ wr.heap.size + 1 ∉ [b]) := by
            have q1 := unhide hmt b rfl
            have q2 := (unhide hMb').lt
            unfold Hid
            simp
            exact ⟨fun e => q1 e.symm, by omega, by omega⟩
          have hBx := hide ((unhide hB').kept (unhide K2) (by simp))
          have hS2 : Hid (∀ w', Kp [b] wx w' → (fun w' => w'.cell? ⟨t, 0, none⟩ = some (.map (some b)) ∧ w'.cell? ⟨wr.heap.size, 0, none⟩ = some (.int .i64 pn) ∧ w'.cell? ⟨wr.heap.size, 1, none⟩ = some (.int .i64 ps) ∧ w'.cell? ⟨wr.heap.size + 1, 0, none⟩ = some (.int .i64 k) ∧ w'.cell? ⟨wr.heap.size + 1, 1, none⟩ = some (.int .i64 o) ∧ w'.cell? ⟨wr.heap.size + 1, 2, none⟩ = some (.int .i64 z) ∧ w'.cell? ⟨wr.heap.size + 1, 3, none⟩ = some (.int .i64 bb) ∧ w'.cell? ⟨wr.heap.size + 1, 4, none⟩ = some (.int .i64 r) ∧ w'.cell? ⟨wr.heap.size + 1, 5, none⟩ = some (.int .i64 u) ∧ w'.cell? ⟨wr.heap.size + 1, 6, none⟩ = some (.int .i64 v)) w') := fun w' kk => ⟨((unhide hBx).kept kk (unhide hnb).1).cell rfl, ((unhide N1).kept kk (unhide hnb).2.1).cell rfl, ((unhide N1).kept kk (unhide hnb).2.1).cell rfl, ((unhide N2).kept kk (unhide hnb).2.2).cell rfl, ((unhide N2).kept kk (unhide hnb).2.2).cell rfl, ((unhide N2).kept kk (unhide hnb).2.2).cell rfl, ((unhide N2).kept kk (unhide hnb).2.2).cell rfl, ((unhide N2).kept kk (unhide hnb).2.2).cell rfl, ((unhide N2).kept kk (unhide hnb).2.2).cell rfl, ((unhide N2).kept kk (unhide hnb).2.2).cell rfl⟩
          have K3 := hide (Kp.refl [b] wx).drew
          have K4 := hide ((Kp.refl [b] wx).drew.then hK6)
          replace hM6 := hide hM6
          clear hup0 hK6
          have cc := unhide hS2 _ (unhide K3)
          go_region_held3 (fun w' => w'.cell? ⟨t, 0, none⟩ = some (.map (some b)) ∧ w'.cell? ⟨wr.heap.size, 0, none⟩ = some (.int .i64 pn) ∧ w'.cell? ⟨wr.heap.size, 1, none⟩ = some (.int .i64 ps) ∧ w'.cell? ⟨wr.heap.size + 1, 0, none⟩ = some (.int .i64 k) ∧ w'.cell? ⟨wr.heap.size + 1, 1, none⟩ = some (.int .i64 o) ∧ w'.cell? ⟨wr.heap.size + 1, 2, none⟩ = some (.int .i64 z) ∧ w'.cell? ⟨wr.heap.size + 1, 3, none⟩ = some (.int .i64 bb) ∧ w'.cell? ⟨wr.heap.size + 1, 4, none⟩ = some (.int .i64 r) ∧ w'.cell? ⟨wr.heap.size + 1, 5, none⟩ = some (.int .i64 u) ∧ w'.cell? ⟨wr.heap.size + 1, 6, none⟩ = some (.int .i64 v)) (first | exact unhide hS2 _ (unhide K3) | exact unhide hS2 _ (unhide K4)) (fail)
          all_goals
            go_wp2
            go_roundg (cs.length - (j + 1))
            case measure => omega
            case rel =>
              refine ⟨j + 1, by omega, rfl, by go_num, ?_, ((unhide hKr).trans (unhide K2) (T := [b]) (by simp) (by simp)).then (unhide K4)⟩
              show Mp _ b _
              rw [← unhide hstep]
              exact unhide hM6
    · have b1 : decide ((j : Int) < (cs.length : Int)) = false := decide_eq_false (by omega)
      rw [List.take_of_length_le (show cs.length ≤ j by omega), unhide hall] at hM
      replace hM := hide hM
      replace hK := hide hK
      go_wp2
      go_end0
      refine ⟨rfl, (unhide H).mapped (reF_key n s u v) ((unhide hT).head.kept (unhide hK) ?_) (unhide hM), (unhide K1).trans (unhide hK) (by simp) (fun _ q => .inl q)⟩
      intro hmem
      cases m with
      | none => simp at hmem
      | some b => simp at hmem; exact unhide hmt b rfl hmem.symm
theorem erase_key {L : List Sl} (hn : (L.map ppl).Nodup) {i : Nat} {x : Sl} (hx : L[i]? = some x) : L.eraseIdx i = L.filter fun y => !(ppl y == ppl x) := by
  induction L generalizing i with
  | nil => simp at hx
  | cons a L ih =>
    rw [List.map_cons, List.nodup_cons] at hn
    cases i with
    | zero =>
      simp at hx
      subst hx
      rw [List.eraseIdx_cons_zero, List.filter_cons_of_neg (by simp)]
      symm
      rw [List.filter_eq_self]
      intro y hy
      have : ppl y ≠ ppl a := fun e => hn.1 (List.mem_map.2 ⟨y, hy, e⟩)
      simpa using this
    | succ i =>
      simp at hx
      have hne : ppl a ≠ ppl x := fun e => hn.1 (List.mem_map.2 ⟨x, List.mem_of_getElem? hx, e.symm⟩)
      rw [List.eraseIdx_cons_succ, List.filter_cons_of_pos (by simpa using hne), ih hn.2 hx]
theorem without_map {L : List Sl} {f : Sl → Sl} (hf : ∀ x, ppl (f x) = ppl x) (q : Int × Int) : without q ((L.map f).map slKV) = ((L.filter fun y => !(ppl y == q)).map f).map slKV := by
  unfold without
  rw [List.filter_map, List.filter_map]
  congr 2
  refine List.filter_congr fun y _ => ?_
  show (!((slKV (f y)).1 == q)) = _
  have : (slKV (f y)).1 = ppl y := hf y
  rw [this]
theorem drop_map {L : List Sl} (hn : (L.map ppl).Nodup) {n s : Int} {i : Nat} {x : Sl} (ha : atL L n s = some i) (hx : L[i]? = some x) : without (n, s) ((L.map (reF n s x.u x.v)).map slKV) = (dropL L n s i x).map slKV := by
  rw [without_map (reF_key n s x.u x.v)]
  unfold dropL
  rw [erase_key hn hx]
  obtain ⟨y, hy, e1, e2⟩ := atL_some ha
  rw [hx] at hy
  cases hy
  have : ppl x = (n, s) := by unfold ppl; rw [e1, e2]
  rw [this]
theorem drop_rises {L : List Sl} (h : Rises (L.map ppl)) (n s : Int) (i : Nat) (x : Sl) : Rises ((dropL L n s i x).map ppl) := by
  unfold dropL
  have : ((L.eraseIdx i).map (reF n s x.u x.v)).map ppl = (L.eraseIdx i).map ppl := by rw [List.map_map]; exact List.map_congr_left fun y _ => reF_key n s x.u x.v y
  rw [this]
  unfold Rises at *
  exact List.Pairwise.sublist ((List.eraseIdx_sublist L i).map _) h
theorem drop_len (L : List Sl) (n s : Int) (i : Nat) (x : Sl) : (dropL L n s i x).length ≤ L.length := by
  unfold dropL
  rw [List.length_map]
  exact (List.eraseIdx_sublist L i).length_le
theorem drop_ok {L : List Sl} (h : ∀ x ∈ L, placeOk x.n x.s = true) (n s : Int) (i : Nat) (x : Sl) : ∀ y ∈ dropL L n s i x, placeOk y.n y.s = true := by
  intro y hy
  unfold dropL at hy
  obtain ⟨y0, hy0, rfl⟩ := List.mem_map.1 hy
  have e := reF_key n s x.u x.v y0
  have e1 : (reF n s x.u x.v y0).n = y0.n := congrArg Prod.fst e
  have e2 : (reF n s x.u x.v y0).s = y0.s := congrArg Prod.snd e
  rw [e1, e2]
  exact h y0 ((List.eraseIdx_sublist L i).subset hy0)
theorem ok_notN {n s : Int} (h : placeOk n s = true) : isN n s = false := by
  rw [placeOk_iff] at h
  unfold placeP at h
  unfold isN
  have : n ≠ 0 := by omega
  simp [this]
set_option maxHeartbeats 1000000 in
theorem drop_no {w : World} {t : Nat} {m : Option Nat} {L : List Sl} (h : PT w t m L) {n s : Int} (hi : PIn (n, s)) (hn : atL L n s = none) :
    Calls Try.prog 13 #[.pointer (some ⟨t, 0, none⟩), .agg #[.int .i64 n, .int .i64 s]] w fun e w' => e = .returned (.bool false) ∧ Kp [] w w' := by
  have hS : Hid (∀ w', Kp [] (w.alloc (.cells #[.int .i64 n, .int .i64 s] 40)) w' → w'.cell? ⟨t, 0, none⟩ = some (.map m) ∧ w'.cell? ⟨w.heap.size, 0, none⟩ = some (.int .i64 n) ∧ w'.cell? ⟨w.heap.size, 1, none⟩ = some (.int .i64 s) ∧ (Instr.lookup 25 (.map m) (.agg #[.int .i64 n, .int .i64 s]) true).run Try.prog w' = .ok (.tuple #[.agg #[.int .i64 0, .int .i64 0, .int .i64 0, .int .i64 0, .int .i64 0, .int .i64 0, .int .i64 0], .bool false]) w') := fun w' K => by
    obtain ⟨B, K1⟩ := kp_box K
    have P1 := h.grew K1
    exact ⟨P1.head.cell rfl, B.cell rfl, B.cell rfl, P1.no hi hn true⟩
  have K0 := hide (Kp.refl [] (w.alloc (.cells #[.int .i64 n, .int .i64 s] 40)))
  have KW := hide ((Kp.refl [] w).alloc (.cells #[.int .i64 n, .int .i64 s] 40))
  clear h
  go_enter Try.func13, Try.ntmps13
  go_wp2_with fail
  have hw1 : (w.alloc (.cells #[.int .i64 n, .int .i64 s] 40)).heap.size = w.heap.size + 1 := by simp
  generalize w.alloc (.cells #[.int .i64 n, .int .i64 s] 40) = w1 at *
  go_region_held3 (fun w' => w'.cell? ⟨t, 0, none⟩ = some (.map m) ∧ w'.cell? ⟨w.heap.size, 0, none⟩ = some (.int .i64 n) ∧ w'.cell? ⟨w.heap.size, 1, none⟩ = some (.int .i64 s) ∧ (Instr.lookup 25 (.map m) (.agg #[.int .i64 n, .int .i64 s]) true).run Try.prog w' = .ok (.tuple #[.agg #[.int .i64 0, .int .i64 0, .int .i64 0, .int .i64 0, .int .i64 0, .int .i64 0, .int .i64 0], .bool false]) w') (first | exact unhide hS _ ((unhide K0).drew) | exact unhide hS _ (((unhide K0).alloc _).drew)) (fail)
  all_goals
    go_wp2
    go_ret
    exact ⟨rfl, ((unhide KW).alloc _).drew⟩
def PDropP (w : World) (t : Nat) (m : Option Nat) (L : List Sl) (e : Ending) (w' : World) : Prop := e = .returned (.bool true) ∧ PT w' t m L ∧ Kp m.toList w w'
set_option maxRecDepth 4000 in
set_option maxHeartbeats 2000000 in
theorem drop_yes {w : World} {t : Nat} {m : Option Nat} {L : List Sl} (h : PT w t m L) {n s : Int} {i : Nat} {x : Sl} (ha : atL L n s = some i) (hx : L[i]? = some x) :
    Calls Try.prog 13 #[.pointer (some ⟨t, 0, none⟩), .agg #[.int .i64 n, .int .i64 s]] w (PDropP w t m (dropL L n s i x)) := by
  have hmem := List.mem_of_getElem? hx
  obtain ⟨y, hy, e1, e2⟩ := atL_some ha
  rw [hx] at hy
  cases hy
  have hok := h.ok x hmem
  rw [e1, e2] at hok
  have hi := pin_ok hok
  obtain ⟨b, rfl⟩ : ∃ b, m = some b := by
    cases m with
    | none => have e : L = [] := h.mo; subst e; cases hmem
    | some b => exact ⟨b, rfl⟩
  obtain ⟨k, o, z, bb, r, xu, xv, hV⟩ : ∃ k o z bb r xu xv : Int, x = ⟨n, s, xu, xv, k, o, z, bb, r⟩ := by
    obtain ⟨a0, a1, a2, a3, a4, a5, a6, a7, a8⟩ := x
    subst e1 e2
    exact ⟨_, _, _, _, _, _, _, rfl⟩
  have hS : Hid (∀ w', Kp [] (w.alloc (.cells #[.int .i64 n, .int .i64 s] 40)) w' → w'.cell? ⟨t, 0, none⟩ = some (.map (some b)) ∧ w'.cell? ⟨w.heap.size, 0, none⟩ = some (.int .i64 n) ∧ w'.cell? ⟨w.heap.size, 1, none⟩ = some (.int .i64 s) ∧ (Instr.lookup 25 (.map (some b)) (.agg #[.int .i64 n, .int .i64 s]) true).run Try.prog w' = .ok (.tuple #[.agg #[.int .i64 k, .int .i64 o, .int .i64 z, .int .i64 bb, .int .i64 r, .int .i64 xu, .int .i64 xv], .bool true]) w') := fun w' K => by
    obtain ⟨B, K1⟩ := kp_box K
    have P1 := h.grew K1
    have := P1.yes ha hx true
    rw [hV] at this
    exact ⟨P1.head.cell rfl, B.cell rfl, B.cell rfl, this⟩
  have hN := hide (ok_notN hok)
  have hdm := drop_map (rises_nd h.rises') ha hx
  have hfin : Hid (∀ w', Bk w' t 27 [.map (some b)] → Mp w' b (without (n, s) ((L.map (reF n s xu xv)).map slKV)) → PT w' t (some b) (dropL L n s i x)) := fun w' q1 q2 => by
    have exu : x.u = xu := by rw [hV]
    have exv : x.v = xv := by rw [hV]
    rw [exu, exv] at hdm
    rw [hdm] at q2
    exact ⟨q1, q2, drop_rises h.rises' n s i x, Nat.le_trans (drop_len L n s i x) h.small, drop_ok h.ok n s i x⟩
  have hmemR : Hid (((n, s), holdV (reF n s xu xv x)) ∈ (L.map (reF n s xu xv)).map slKV) := List.mem_map.2 ⟨reF n s xu xv x, List.mem_map.2 ⟨x, hmem, rfl⟩, by
    have := reF_key n s xu xv x
    unfold slKV
    have e3 : ((reF n s xu xv x).n, (reF n s xu xv x).s) = ppl x := this
    rw [e3]
    unfold ppl
    rw [e1, e2]⟩
  have K0 := hide (Kp.refl [] (w.alloc (.cells #[.int .i64 n, .int .i64 s] 40)))
  have KW := hide ((Kp.refl [] w).alloc (.cells #[.int .i64 n, .int .i64 s] 40))
  have NB := hide (Bk.new w 40 [.int .i64 n, .int .i64 s])
  have H := hide h
  have hmt := hide (h.ne b rfl)
  have hmlt := hide (h.lt b rfl)
  have hw1 : (w.alloc (.cells #[.int .i64 n, .int .i64 s] 40)).heap.size = w.heap.size + 1 := by simp
  have n0 : ∀ oo, ((w.alloc (.cells #[.int .i64 n, .int .i64 s] 40)).alloc oo).cell? ⟨w.heap.size, 0, none⟩ = some (.int .i64 n) := fun oo => ((unhide NB).alloc oo).cell rfl
  have n1 : ∀ oo, ((w.alloc (.cells #[.int .i64 n, .int .i64 s] 40)).alloc oo).cell? ⟨w.heap.size, 1, none⟩ = some (.int .i64 s) := fun oo => ((unhide NB).alloc oo).cell rfl
  clear h hV e1 e2 hmem hx ha hok hdm
  go_enter Try.func13, Try.ntmps13
  go_wp2_with fail
  generalize w.alloc (.cells #[.int .i64 n, .int .i64 s] 40) = w1 at *
  go_region_held3 (fun w' => w'.cell? ⟨t, 0, none⟩ = some (.map (some b)) ∧ w'.cell? ⟨w.heap.size, 0, none⟩ = some (.int .i64 n) ∧ w'.cell? ⟨w.heap.size, 1, none⟩ = some (.int .i64 s) ∧ (Instr.lookup 25 (.map (some b)) (.agg #[.int .i64 n, .int .i64 s]) true).run Try.prog w' = .ok (.tuple #[.agg #[.int .i64 k, .int .i64 o, .int .i64 z, .int .i64 bb, .int .i64 r, .int .i64 xu, .int .i64 xv], .bool true]) w') (first | exact unhide hS _ ((unhide K0).drew) | exact unhide hS _ (((unhide K0).alloc _).drew)) (fail)
  all_goals
    have K2 := hide (((unhide KW).alloc (.cells #[.int .i64 k, .int .i64 o, .int .i64 z, .int .i64 bb, .int .i64 r, .int .i64 xu, .int .i64 xv] 74)).drew)
    have N2 := hide ((unhide NB).alloc (.cells #[.int .i64 k, .int .i64 o, .int .i64 z, .int .i64 bb, .int .i64 r, .int .i64 xu, .int .i64 xv] 74))
    go_wp2_with fail
    refine (rehang_calls ((unhide H).grew (unhide K2)) (unhide hN)).mono ?_
    rintro e W3 ⟨rfl, hT3, hK3⟩
    have N3 := hide ((unhide N2).kept (w := (w1.alloc (.cells #[.int .i64 k, .int .i64 o, .int .i64 z, .int .i64 bb, .int .i64 r, .int .i64 xu, .int .i64 xv] 74)).drew) hK3 (by have := unhide hmlt; simp; omega))
    have K4 := hide ((unhide K2).trans hK3 (T := (some b).toList) (by simp) (fun _ q => .inl q))
    obtain ⟨W6, hdl, hM6, hK6⟩ := Mp.del (w := W3.drew) hT3.mo Try.underlying25 (unhide hmemR) 0
    have hdel : ∀ ty, (Builtin.delete_ #[25, 40] ty #[.map (some b), .agg #[.int .i64 n, .int .i64 s]]).run Try.prog W3.drew = .ok (.tuple #[]) W6 := fun ty => hdl
    have hB3 := hide hT3.head
    have hnb : Hid (t ∉ [b] ∧ w.heap.size ∉ [b]) := by
      have q1 := unhide hmt
      have q2 := unhide hmlt
      unfold Hid
      simp
      exact ⟨fun e => q1 e.symm, by omega⟩
    have hS2 : Hid (∀ w', Kp [b] W3 w' → w'.cell? ⟨t, 0, none⟩ = some (.map (some b)) ∧ w'.cell? ⟨w.heap.size, 0, none⟩ = some (.int .i64 n) ∧ w'.cell? ⟨w.heap.size, 1, none⟩ = some (.int .i64 s)) := fun w' kk => ⟨((unhide hB3).kept kk (unhide hnb).1).cell rfl, ((unhide N3).kept kk (unhide hnb).2).cell rfl, ((unhide N3).kept kk (unhide hnb).2).cell rfl⟩
    have K5 := hide (Kp.refl [b] W3).drew
    have K6 := hide ((Kp.refl [b] W3).drew.then hK6)
    replace hM6 := hide hM6
    have cc := unhide hS2 _ (unhide K5)
    clear hdl hK6 hT3 hK3 n0 n1
    go_wp2_with fail
    go_region_held3 (fun w' => w'.cell? ⟨t, 0, none⟩ = some (.map (some b)) ∧ w'.cell? ⟨w.heap.size, 0, none⟩ = some (.int .i64 n) ∧ w'.cell? ⟨w.heap.size, 1, none⟩ = some (.int .i64 s)) (first | exact unhide hS2 _ (unhide K5) | exact unhide hS2 _ (unhide K6)) (fail)
    all_goals
      go_wp2
      go_ret
      exact ⟨rfl, unhide hfin _ ((unhide hB3).kept (unhide K6) (unhide hnb).1) (unhide hM6), (unhide K4).then (unhide K6)⟩
end Go.Proofs.Ythjhpcbhkcmghaa
