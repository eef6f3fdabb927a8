/- The program's list: All: round the ring, from the first. -/
import Derived.Test.YtgahekhlbcnmaaaKLst5
namespace Go.Proofs.Ytgahekhlbcnmaaa
open Go.RowKit
set_option linter.unusedVariables false
set_option linter.unusedSimpArgs false
/-- The first ones, and zeros behind them. -/
def fillL (L : List (Int × Int)) (j : Nat) : List (Int × Int) := L.take j ++ List.replicate (L.length - j) (0, 0)
theorem fillL_len {L : List (Int × Int)} {j : Nat} (h : j ≤ L.length) : (fillL L j).length = L.length := by unfold fillL; simp; omega
theorem fillL_at {L : List (Int × Int)} {j : Nat} (h : j < L.length) : (fillL L j)[j]? = some (0, 0) := by
  unfold fillL
  rw [List.getElem?_append_right (by simp; omega), List.length_take, Nat.min_eq_left (by omega), Nat.sub_self, List.getElem?_replicate, if_pos (by omega)]
theorem fillL_set {L : List (Int × Int)} {j : Nat} {x : Int × Int} (h : L[j]? = some x) : (fillL L j).set j x = fillL L (j + 1) := by
  obtain ⟨hj, rfl⟩ := List.getElem?_eq_some_iff.1 h
  unfold fillL
  rw [List.set_append_right _ _ (by simp; omega), List.length_take, Nat.min_eq_left (by omega), Nat.sub_self, show L.length - j = (L.length - (j + 1)) + 1 from by omega, List.replicate_succ, List.set_cons_zero, List.take_succ_eq_append_getElem hj, List.append_assoc]
  rfl
theorem fillL_all (L : List (Int × Int)) : fillL L L.length = L := by unfold fillL; simp
theorem fillL_none (L : List (Int × Int)) : fillL L 0 = List.replicate L.length (0, 0) := by unfold fillL; simp
/-- A list of IDs in new memory, as it comes back. -/
def ListId (w : World) (L : List (Int × Int)) (e : Ending) (w' : World) : Prop := ∃ v, e = .returned v ∧ Gr.Rw idE w.heap.size w' v L ∧ Kp [] w w'
/-- Two cells of the row written. -/
theorem fill_two {w : World} {base g n cap j : Nat} {L : List (Int × Int)} (h : Gr.Rw idE base w (.slice (some ⟨g, 0, none⟩) n cap) (fillL L j)) {x : Int × Int} (hx : L[j]? = some x) : Gr.Rw idE base ((w.setCell ⟨g, j * 2, none⟩ (.int .i64 x.1)).setCell ⟨g, j * 2 + 1, none⟩ (.int .i64 x.2)) (.slice (some ⟨g, 0, none⟩) n cap) (fillL L (j + 1)) := by
  have hj : j < L.length := (List.getElem?_eq_some_iff.1 hx).1
  have h1 := (h.store (i := j) (j := 0) (u := .int .i64 x.1) (y := (x.1, 0)) (fillL_at hj) (by decide) rfl).1
  have hl : j < (fillL L j).length := by rw [fillL_len (by omega)]; exact hj
  have h2 := (h1.store (i := j) (j := 1) (u := .int .i64 x.2) (x := (x.1, 0)) (y := x) (by rw [List.getElem?_set_self hl]) (by decide) rfl).1
  rw [List.set_set, fillL_set hx] at h2
  exact h2
set_option maxRecDepth 4000 in
set_option maxHeartbeats 4000000 in
theorem pall {w : World} {y o : Nat} {U : TypeId} {pre post : List Value} {m : Option Nat} {f : Int × Int} {L : List (Int × Int)} (h : PL w y o U pre post m f L) :
    Calls Try.prog 20 #[.pointer (some ⟨y, o, none⟩)] w (ListId w L) := by
  obtain ⟨f1, f2⟩ := f
  have hsm := h.small
  have hf0 : ∀ x, L[0]? = some x → x = (f1, f2) := by
    intro x hx
    cases L with
    | nil => cases hx
    | cons z T =>
      obtain rfl : z = x := by simpa using hx
      cases m with
      | none => have e : z :: T = [] := h.mo; cases e
      | some b =>
        obtain ⟨p, n, _, hr⟩ := h.mo
        exact hr.1.symm
  replace hf0 := hide hf0
  obtain ⟨len, hlen⟩ : ∃ k : Int, (L.length : Int) = k := ⟨_, rfl⟩
  have hyl := hide h.head.lt
  have hml := hide h.lt
  have hnoc := hide h.noc
  have H := hide h
  replace hlen := hide hlen
  clear h
  go_enter Try.func20, Try.ntmps20
  go_wp2_with fail
  refine (plen (unhide H) (unhide hlen)).mono ?_
  rintro e W1 ⟨rfl, K1⟩
  obtain ⟨W2, hmk, hR2, K2⟩ := make_ids W1 (unhide hlen).symm hsm
  have KW := hide (K1.then K2)
  have H2 := hide (((unhide H).grew K1).grew K2)
  have y1 := (unhide H2).head.cell (i := 1) rfl
  have y2 := (unhide H2).head.cell (i := 2) rfl
  obtain ⟨g, hg⟩ : ∃ g, W1.heap.size = g := ⟨_, rfl⟩
  rw [hg] at hmk hR2
  have hwg : Hid (w.heap.size ≤ g) := by rw [← hg]; exact K1.size
  have hg2 : Hid (g < W2.heap.size) := (hR2.lt rfl).2
  replace hR2 := hide (hR2.mono (unhide hwg))
  clear K1 K2 hg
  go_wp2_with fail
  have B3 := hide (Bk.new W2 27 [.int .i64 f1, .int .i64 f2])
  have K3 := (Kp.refl [] W2).alloc (.cells #[.int .i64 f1, .int .i64 f2] 27)
  have R3 := hide ((unhide hR2).grew K3)
  have KW3 := hide ((unhide KW).then K3)
  have hwB : Hid (w.heap.size ≤ W2.heap.size) := (unhide KW).size
  clear K3 y1 y2 hmk
  generalize W2.alloc (.cells #[.int .i64 f1, .int .i64 f2] 27) = W3 at *
  obtain ⟨B, hB⟩ : ∃ B, W2.heap.size = B := ⟨_, rfl⟩
  rw [hB] at B3 hwB hg2
  simp only [hB]
  clear hB H2 KW hnoc
  go_loopg [15] L.length (fun mm iv wx => ∃ (j : Nat) (i1 i2 : Int), j ≤ L.length ∧ mm = L.length - j ∧ iv = .int .i64 j ∧ (∀ x, L[j]? = some x → x = (i1, i2)) ∧ Bk wx B 27 [.int .i64 i1, .int .i64 i2] ∧ Gr.Rw idE w.heap.size wx (.slice (some ⟨g, 0, none⟩) L.length L.length) (fillL L j) ∧ Kp [] w wx)
  case atStart => exact ⟨0, f1, f2, Nat.zero_le _, rfl, rfl, unhide hf0, unhide B3, by rw [fillL_none]; exact unhide R3, unhide KW3⟩
  case round =>
    obtain ⟨j, i1, i2, hj, rfl, rfl, hx, hB, hR, hK⟩ := hrel
    clear B3 R3 KW3 hf0
    by_cases hlt : j < L.length
    · obtain ⟨x, hLj⟩ : ∃ x, L[j]? = some x := ⟨_, List.getElem?_eq_getElem hlt⟩
      obtain rfl := hx x hLj
      have b1 : (j : Int) < (L.length : Int) := by omega
      have b2 : ((j : Int)).toNat = j := Int.toNat_natCast j
      have hmem : (i1, i2) ∈ L := List.mem_of_getElem? hLj
      have x0 : wr.cell? ⟨g, j * 2, none⟩ = some (.int .i64 0) := hR.cell (i := j) (j := 0) (fillL_at hlt) rfl
      have x1 : wr.cell? ⟨g, j * 2 + 1, none⟩ = some (.int .i64 0) := hR.cell (i := j) (j := 1) (fillL_at hlt) rfl
      have xf := hR.frozen
      have i0 := hB.cell (i := 0) rfl
      have i1' := hB.cell (i := 1) rfl
      have hR4 := hide (fill_two hR hLj)
      have k4 := ((Kp.refl [g] wr).setCell (p := ⟨g, j * 2, none⟩) (.inl (by simp)) (.int .i64 i1)).setCell (p := ⟨g, j * 2 + 1, none⟩) (.inl (by simp)) (.int .i64 i2)
      have hB4 := hide (hB.kept k4 (by have := unhide hg2; simp; omega))
      have hK4 : Hid (Kp [] w _) := hK.trans k4 (by simp) (by have := unhide hwg; simp; omega)
      clear hR hB hK k4 hx
      go_wp2_with fail
      clear x0 x1 xf i0 i1'
      generalize (wr.setCell ⟨g, j * 2, none⟩ (.int .i64 i1)).setCell ⟨g, j * 2 + 1, none⟩ (.int .i64 i2) = W4 at *
      obtain ⟨b, rfl⟩ : ∃ b, m = some b := by
        cases m with
        | none => have e : L = [] := (unhide H).mo; rw [e] at hlt; simp at hlt
        | some b => exact ⟨b, rfl⟩
      have P4 := (unhide H).grew (unhide hK4)
      obtain ⟨p, n, hm, hr⟩ := P4.mo
      obtain ⟨⟨p1, p2⟩, hp⟩ : ∃ z, p (i1, i2) = z := ⟨_, rfl⟩
      obtain ⟨⟨n1, n2⟩, hn⟩ : ∃ z, n (i1, i2) = z := ⟨_, rfl⟩
      have hlk0 := (mp_look (w := W4.drew) (hm.drewN 1) ((unhide H).ok _ hmem) false).1 hmem
      rw [hp, hn] at hlk0
      have hlk : (Instr.lookup 25 (.map (some b)) (.agg #[.int .i64 i1, .int .i64 i2]) false).run Try.prog W4.drew = .ok (.agg #[.int .i64 p1, .int .i64 p2, .int .i64 n1, .int .i64 n2]) W4.drew := hlk0
      have hfb := Try.fieldBehind p1 p2 n1 n2
      have hnx : Hid (∀ x, L[j + 1]? = some x → x = (n1, n2)) := fun x hx => by rw [← hn]; exact (rn_next hr hLj hx).symm
      have hY := hide P4.head
      have hBy : Hid (B ≠ y) := by have := unhide hyl; have := unhide hwB; unfold Hid; omega
      have hS : Hid (∀ w', Kp [B] W4 w' → w'.cell? ⟨y, o, none⟩ = some (.map (some b))) := fun w' k => ((unhide hY).kept k (by have := unhide hBy; simp; omega)).cell0 rfl
      have K0 := hide (Kp.refl [B] W4).drew
      have b3 := (unhide hB4).cell (i := 0) rfl
      have b4 := (unhide hB4).cell (i := 1) rfl
      have b5 := (unhide hB4).frozen
      have k5 := (((Kp.refl [B] W4).setCell (p := ⟨B, 0, none⟩) (.inl (by simp)) (.int .i64 n1)).setCell (p := ⟨B, 1, none⟩) (.inl (by simp)) (.int .i64 n2)).drew
      have B5 := hide ((((unhide hB4).set 0 (.int .i64 n1)).set 1 (.int .i64 n2)).drewN 1)
      have R5 := hide ((unhide hR4).kept k5 (fun g' e => by cases e; have := unhide hg2; simp; omega))
      have K5 : Hid (Kp [] w _) := (unhide hK4).trans k5 (by simp) (by have := unhide hwB; simp; omega)
      replace k5 := hide k5
      clear P4 hm hr hlk0 hp hn
      go_wp2_with fail
      have y0 := (unhide hY).cell0 rfl
      go_region
      clear y0
      clear b3 b4 b5 K0 k5 hS hB4 hR4 hK4
      go_wp2
      go_roundg (L.length - (j + 1))
      case measure => omega
      case rel => exact ⟨j + 1, n1, n2, by omega, rfl, by go_num, unhide hnx, unhide B5, unhide R5, unhide K5⟩
    · have b1 : decide ((j : Int) < (L.length : Int)) = false := decide_eq_false (by omega)
      have e : j = L.length := by omega
      subst e
      rw [fillL_all] at hR
      replace hR := hide hR
      replace hK := hide hK
      go_wp2
      go_ret
      exact ⟨_, rfl, unhide hR, unhide hK⟩
end Go.Proofs.Ytgahekhlbcnmaaa
