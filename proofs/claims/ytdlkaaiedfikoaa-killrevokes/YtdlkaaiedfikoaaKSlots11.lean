/- The program's table: Below. -/
import Derived.Test.YtdlkaaiedfikoaaKGrp
import Derived.Test.YtdlkaaiedfikoaaKTree
namespace Go.Proofs.Ytdlkaaiedfikoaa
open Go.RowKit
set_option linter.unusedVariables false
theorem clone_calls {base : Nat} {w : World} {v : Value} {ps : List (Int × Int)} (h : Pl base w v ps) (hs : ps.length ≤ 65536) :
    Calls Try.prog 36 #[v] w (ListP w ps) := by
  obtain ⟨i0, hi, hinf⟩ := Option.map_eq_some_iff.1 Try.infoPlace
  simp only [Prod.mk.injEq] at hinf
  obtain ⟨hz0, hz1, hz2⟩ := hinf
  rcases h.addr with ⟨e, e2⟩ | ⟨g, cap, e, h1, h2⟩
  · subst e e2
    exact (AnyE.slices_Clone_nil Try.shClone 0 0 w).mono fun e w' ⟨h1, h2⟩ => ⟨_, h1, Pl.nil _ _, by rw [h2]; exact Kp.refl _ _⟩
  · subst e
    have hc : ∀ j u, (prow ps)[j]? = some u → w.cell? ⟨g, 0 + j, none⟩ = some u := fun j u hu => by
      have hj := (List.getElem?_eq_some_iff.1 hu).1
      rw [prow_len] at hj
      rw [Nat.zero_add, World.ownsRow.cellAt h j hj]
      exact hu
    exact (AnyE.slices_Clone Try.shClone i0 _ 2 16 hi hz0 hz1 hz2 rfl (by decide) Try.sizeOf28 g 0 ps.length cap (prow ps) w (prow_len ps) (by omega) (by omega) hc (prow_one ps)).mono fun e w' ⟨v', h1, h2, _, h4⟩ => ⟨v', h1, h2, Kp.ofBelow h4 []⟩
/-- The children of a place, as the map has them. -/
def kidsOf (D : List Sl) (q : Int × Int) : List (Int × Int) := if q = (0, 0) then [] else sel (sonF q.1 q.2) D
theorem kids_of {D L : List Sl} (h : D.Perm L) : Kids L (kidsOf D) := ⟨by unfold kidsOf; rw [if_pos rfl], fun q hq => by unfold kidsOf; rw [if_neg hq]; exact sel_perm h⟩
theorem kidsOf_len (D : List Sl) (q : Int × Int) : (kidsOf D q).length ≤ D.length := by
  unfold kidsOf
  split
  · simp
  · exact sel_len _ _
theorem Grp.look {base : Nat} {w : World} {cb : Nat} {C : List ((Int × Int) × Value)} {D : List Sl} (hM : Mp w cb C) (h : Grp base w cb C D) {u v : Int} (hi : PIn (u, v)) :
    ∃ v0, (Instr.lookup 74 (.map (some cb)) (.agg #[.int .i64 u, .int .i64 v]) false).run Try.prog w = .ok v0 w ∧ Pl base w v0 (kidsOf D (u, v)) := by
  by_cases hq : ∃ v0, ((u, v), v0) ∈ C
  · obtain ⟨v0, hv⟩ := hq
    refine ⟨v0, hM.hit Try.underlying74 hv false, ?_⟩
    obtain ⟨h1, h2⟩ := h.own _ hv
    unfold kidsOf
    rw [if_neg]
    · exact h2
    · intro e
      have e1 : u = 0 := congrArg Prod.fst e
      have e2 : v = 0 := congrArg Prod.snd e
      subst e1 e2
      simp [isN] at h1
  · have hn : ∀ p ∈ C, p.1 ≠ (u, v) := fun p hp e => hq ⟨p.2, by rw [← e]; exact hp⟩
    refine ⟨_, hM.miss Try.underlying74 (Try.zeroPls w) hi hn false, ?_⟩
    have : kidsOf D (u, v) = [] := by
      unfold kidsOf
      split
      · rfl
      · rename_i hne
        cases hs : sel (sonF u v) D with
        | nil => rfl
        | cons a l =>
          exfalso
          obtain ⟨x, hx, hf, _⟩ := mem_sel.1 (show a ∈ sel (sonF u v) D from by rw [hs]; simp)
          have e : parP x = (u, v) := sonF_iff (q := (u, v)) |>.1 hf
          have hz : isN x.u x.v = false := by
            cases hb : isN x.u x.v with
            | false => rfl
            | true =>
              obtain ⟨q1, q2⟩ := isN_iff.1 hb
              exact absurd (e.symm.trans (show parP x = (0, 0) from by unfold parP; rw [q1, q2])) hne
          obtain ⟨c, hc, e2⟩ := h.all x hx hz
          exact hn c hc (e2.trans e)
    rw [this]
    exact Pl.nil _ _
theorem Bfs.step {K : Int × Int → List (Int × Int)} {p : Int × Int} {out : List (Int × Int)} {j : Nat} {q : Int × Int} (h : Bfs K p out j) (hq : out[j]? = some q) : Bfs K p (out ++ K q) (j + 1) := by
  obtain ⟨hj, e⟩ := List.getElem?_eq_some_iff.1 hq
  unfold Bfs at *
  rw [List.take_append_of_le_length (by omega), List.take_succ_eq_append_getElem hj, e, List.flatMap_append]
  conv => lhs; rw [h]
  simp
theorem Bfs.start (K : Int × Int → List (Int × Int)) (p : Int × Int) : Bfs K p (K p) 0 := by unfold Bfs; simp
set_option maxRecDepth 4000 in
set_option maxHeartbeats 4000000 in
theorem below_calls {w : World} {t : Nat} {m : Option Nat} {L : List Sl} (h : PT w t m L) (hF : Forest L) {n s : Int} (hi : PIn (n, s)) :
    Calls Try.prog 13 #[.pointer (some ⟨t, 0, none⟩), .agg #[.int .i64 n, .int .i64 s]] w (ListP w (sel (lowF L n s) L)) := by
  have hs := h.small
  have K0 := hide ((Kp.refl [] w).alloc (.cells #[.int .i64 n, .int .i64 s] 28))
  have B0 := hide (Bk.new w 28 [.int .i64 n, .int .i64 s])
  have hc := hide (byparent_calls (h.grew (unhide K0)) hF.pin)
  have hR := hide (sel_rises (F := lowF L n s) h.rises)
  have hF' := hide hF
  clear h hF
  go_enter Try.func13, Try.ntmps13
  go_wp2_with fail
  refine (unhide hc).mono ?_
  rintro e W1 ⟨cb, C, D, rfl, hDL, hM, hG, hK⟩
  have hlD := hDL.length_eq
  have K1 := hide ((unhide K0).then hK)
  have B1 := (unhide B0).kept hK (by simp)
  have c0 := B1.cell (i := 0) rfl
  have c1 := B1.cell (i := 1) rfl
  obtain ⟨v0, hlk, hP0⟩ := hG.look hM hi
  have hkl := kidsOf_len D (n, s)
  replace hP0 := hide hP0
  replace hM := hide hM
  replace hG := hide hG
  have hkids := hide (kids_of hDL)
  clear hc K0 B0 hK B1 hDL
  go_wp2_with fail
  refine (clone_calls (unhide hP0) (by omega)).mono ?_
  rintro e W2 ⟨v1, rfl, hP, hK⟩
  replace hP := hide hP
  replace hK := hide hK
  clear hlk c0 c1 hP0
  go_wp2_with fail
  go_loopg [6, 7] L.length (fun mm o i wx => ∃ (j : Nat) (out : List (Int × Int)), j ≤ out.length ∧ mm = L.length - j ∧ i = .int .i64 j ∧ Pl W1.heap.size wx o out ∧ Bfs (kidsOf D) (n, s) out j ∧ Kp [] W1 wx)
  case atStart => exact ⟨0, kidsOf D (n, s), Nat.zero_le _, rfl, rfl, unhide hP, Bfs.start _ _, unhide hK⟩
  case round =>
    obtain ⟨j, out, hj, rfl, rfl, hP, hB, hK⟩ := hrel
    have hol := hB.len (unhide hkids) (unhide hF')
    obtain ⟨a1, cp1, rfl⟩ := hP.form
    by_cases hlt : j < out.length
    · obtain ⟨⟨qn, qs⟩, hq⟩ : ∃ q, out[j]? = some q := ⟨_, List.getElem?_eq_getElem hlt⟩
      obtain ⟨g, hg⟩ : ∃ g, a1 = some ⟨g, 0, none⟩ := by
        rcases hP.addr with ⟨_, e⟩ | ⟨g, cap, e, _⟩
        · rw [e] at hlt; simp at hlt
        · cases e; exact ⟨g, rfl⟩
      subst hg
      obtain ⟨x0, x1⟩ := hP.at hq
      simp only at x0 x1
      have b1 : (j : Int) < (out.length : Int) := by omega
      have b2 : ((j : Int)).toNat = j := Int.toNat_natCast j
      have hpi : PIn (qn, qs) := by
        obtain ⟨x, hx, e, _⟩ := hB.sub (unhide hkids) _ (List.mem_of_getElem? hq)
        rw [← e]
        exact pin_ok ((unhide hF').ok x hx)
      obtain ⟨v2, hlk, hP2⟩ := ((unhide hG).kept hK (by simp)).look ((unhide hM).kept hK (by simp)) hpi
      have hkl2 := kidsOf_len D (qn, qs)
      have hstep := hide (hB.step hq)
      replace hP2 := hide hP2
      replace hP := hide hP
      replace hK := hide hK
      have hmeas : Hid (j < L.length) := by unfold Hid; omega
      clear hB hq
      go_wp2_with (first
        | (at_builtin; refine plist_app rfl _ _ rfl W1.heap.size (.slice (some ⟨g, 0, none⟩) out.length cp1) v2 out (kidsOf D (qn, qs)) rfl rfl (unhide hP) (unhide hP2).src ?c1 ?c2 ?_)
        | go_in)
      case c1 => omega
      case c2 => exact (unhide hK).size
      intro v' W5 hP5 hg5 hat5
      have hK5 := hide (kp_grown (unhide hK) hg5 (fun g hg => (World.ownsRow.lt (unhide hP) g hg).1))
      replace hP5 := hide hP5
      clear hg5 hat5 hlk x0 x1 hP2 hP hK
      go_wp2
      go_roundg (L.length - (j + 1))
      case measure => have := unhide hmeas; omega
      case rel => exact ⟨j + 1, out ++ kidsOf D (qn, qs), by rw [List.length_append]; omega, rfl, by go_num, unhide hP5, unhide hstep, unhide hK5⟩
    · have b1 : decide ((j : Int) < (out.length : Int)) = false := decide_eq_false (by omega)
      have ej : j = out.length := by omega
      subst ej
      have hend := hide (psort_is (hB.perm (unhide hkids) (unhide hF')) (unhide hR))
      have hPw := hide (hP.mono (unhide K1).size)
      have hKw := hide ((unhide K1).then hK)
      clear hB hP hK
      go_wp2_with fail
      refine (sort_calls (unhide hPw) (unhide hKw) (by omega)).mono ?_
      rintro e W ⟨rfl, hP, hK⟩
      rw [unhide hend] at hP
      replace hP := hide hP
      replace hK := hide hK
      go_wp2
      go_ret
      exact ⟨_, rfl, unhide hP, unhide hK⟩
end Go.Proofs.Ytdlkaaiedfikoaa
