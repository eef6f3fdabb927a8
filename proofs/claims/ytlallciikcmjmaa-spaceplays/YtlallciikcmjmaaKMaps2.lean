/- The document's maps: Clear, Drop, Empty. -/
import Derived.Test.YtlallciikcmjmaaKMaps1
namespace Go.Proofs.Ytlallciikcmjmaa
open Go.RowKit
set_option linter.unusedVariables false
/-- What a change of the document's maps leaves. -/
def RPP (base y : Nat) (w : World) (v : Value) (L : List Pg) (e : Ending) (w' : World) : Prop := e = .returned v ∧ (∃ a cap, RP base w' y a cap L) ∧ Kp [y] w w'
theorem Try.infoMapd : (Try.prog.info? 68).map (fun i => (i.zero, i.size, i.bytes)) = some (some (.agg #[.int .i64 0, .int .i64 0, .int .i64 0, .int .i64 0]), 4, 32) := by kernel_rfl
theorem RP.put {base base' : Nat} {w : World} {y : Nat} {v u : Value} {M : List Pg} (hrow : Gr.Rw pgE base' w v M) (hb : base ≤ base') (ht : Bk w y 41 [u]) (hby : base ≤ y) (hlt : y < base') (hs : M.length ≤ 65536) :
    ∃ a cap, RP base (w.setCell ⟨y, 0, none⟩ v) y a cap M := by
  obtain ⟨a, cap, rfl, h1, h2⟩ := hrow.set hb ht hlt
  exact ⟨a, cap, h1, h2, hby, hs⟩
set_option maxHeartbeats 400000 in
theorem rpclear_no {base : Nat} {w : World} {y : Nat} {a : Option Addr} {cap : Nat} {L : List Pg} (h : RP base w y a cap L) {s p : Int} (hn : pgAt L s p = none) :
    Calls Try.prog 14 #[.pointer (some ⟨y, 0, none⟩), .agg #[.int .i64 s, .int .i64 p]] w fun e w' => e = .returned (.bool false) ∧ Kp [] w w' := by
  have K0 := (Kp.refl [] w).alloc (.cells #[.int .i64 s, .int .i64 p] 30)
  have H := hide (h.grew K0)
  have HA := hide (pgI_none hn)
  replace K0 := hide K0
  clear h hn
  go_enter Try.func14, Try.ntmps14
  go_wp2_with fail
  refine (rpat_to (unhide H) (unhide HA)).mono ?_
  rintro e W1 ⟨rfl, K1⟩
  replace K1 := hide ((unhide K0).then K1)
  go_wp2
  go_ret
  exact ⟨rfl, unhide K1⟩
set_option maxHeartbeats 2000000 in
set_option maxRecDepth 20000 in
theorem rpclear_yes {base : Nat} {w : World} {y : Nat} {a : Option Addr} {cap : Nat} {L : List Pg} (h : RP base w y a cap L) {s p : Int} {i : Nat} (hn : pgAt L s p = some i) :
    Calls Try.prog 14 #[.pointer (some ⟨y, 0, none⟩), .agg #[.int .i64 s, .int .i64 p]] w (RPP base y w (.bool true) (L.eraseIdx i)) := by
  obtain ⟨x, hx, _⟩ := pgAt_some hn
  have hi : i < L.length := (List.getElem?_eq_some_iff.1 hx).1
  have hs := h.small
  have hwt := h.head.lt
  have hbt := h.new
  obtain ⟨g, rfl⟩ := h.addr (by omega)
  have hcap := h.own.caps
  have K0 := (Kp.refl [] w).alloc (.cells #[.int .i64 s, .int .i64 p] 30)
  have H := hide (h.grew K0)
  have HA := hide (pgI_some hn)
  have b1 : (i : Int) < (L.length : Int) := by omega
  have b2 : ((i : Int)).toNat = i := Int.toNat_natCast i
  have b3 : decide ((i : Int) < 0) = false := decide_eq_false (by omega)
  have b4 : (i : Int) ≤ (cap : Int) := by omega
  have b5 : (L.length : Int) ≤ (cap : Int) := by omega
  replace K0 := hide K0
  clear h hn hx
  go_enter Try.func14, Try.ntmps14
  go_wp2_with fail
  refine (rpat_to (unhide H) (unhide HA)).mono ?_
  rintro e W1 ⟨rfl, K1⟩
  have R1 := (unhide H).grew K1
  have K1w := (unhide K0).then K1
  have c1 := R1.head.cell (i := 0) rfl
  have hsz : w.heap.size ≤ W1.heap.size := K1w.size
  have ltt : y < W1.heap.size := R1.head.lt
  replace R1 := hide R1
  replace K1w := hide K1w
  clear K1 H
  go_wp2_with (first
    | (at_builtin; refine Gr.list_app (E := pgE) Try.underlying39 Try.infoMapd rfl (by decide) (by decide) rfl _ _ rfl W1.heap.size _ _ [] (L.take i) rfl rfl (Gr.row_empty (Gr.bk_next W1 _ [] rfl) (Nat.le_refl _)) (((unhide R1).grew ((Kp.refl [] W1).alloc _)).own.front i _ (by omega)) ?c3 ?c4 ?_)
    | go_in)
  case c3 => simp; omega
  case c4 => simp
  intro v1 w1 hrow hgrow hat
  have K2 := Gr.kp_grown ((Kp.refl [] W1).alloc _) hgrow (fun q hq => by cases hq; exact Nat.le_refl _)
  have R2 := (unhide R1).grew K2
  have c4 := R2.head.cell (i := 0) rfl
  have f4 := R2.head.frozen
  replace K2 := hide K2
  replace R2 := hide R2
  replace hrow := hide hrow
  clear hgrow hat c1
  have b6 : (i : Int) + 1 ≤ (L.length : Int) := by omega
  have b7 : ((i : Int) + 1).toNat = i + 1 := by omega
  by_cases hck : cap = i + 1
  · have hdr : L.drop (i + 1) = [] := List.drop_eq_nil_of_le (by omega)
    have hle : L.length - (i + 1) = 0 := by omega
    go_wp2_with (first
      | (at_builtin; refine Gr.list_app (E := pgE) Try.underlying39 Try.infoMapd rfl (by decide) (by decide) rfl _ _ rfl W1.heap.size _ _ (L.take i) (L.drop (i + 1)) rfl rfl (unhide hrow) (by rw [hdr]; exact Gr.src_nil (by omega)) ?c3 ?c4 ?_)
      | go_in)
    case c3 => simp; omega
    case c4 => exact (unhide K2).size
    intro v2 w2 hrow2 hgrow2 hat2
    have hrow3 : Gr.Rw pgE W1.heap.size w2 v2 (L.eraseIdx i) := by rw [← Gr.erase_is, hdr, List.append_nil]; exact hrow2
    obtain ⟨a2, c2, rfl⟩ := hrow3.form
    have K3 := Gr.kp_grown (unhide K2) hgrow2 (fun q hq => ((unhide hrow).lt hq).1)
    have ht2 := Gr.bk_grown (unhide R2).head hgrow2 (fun e => by have := ((unhide hrow).lt e.symm).1; omega)
    have c5 := ht2.cell (i := 0) rfl
    have f5 := ht2.frozen
    have hR3 := RP.put (base := base) hrow3 (by omega) ht2 hbt (by omega) (by rw [List.length_eraseIdx]; split <;> omega)
    have K5 := (((unhide K1w).then K3).mono (S' := [y]) (by simp)).setCell (p := ⟨y, 0, none⟩) (.inl (by simp))
    replace hR3 := hide hR3
    replace K5 := hide K5
    clear hrow hrow2 hrow3 hgrow2 hat2 ht2 K2 K3 R2 R1 K1w hdr hle hck b4 b5 b6 b7 c4 f4
    go_wp2
    go_ret
    exact ⟨rfl, unhide hR3, unhide K5 _⟩
  · go_wp2_with (first
      | (at_builtin; refine Gr.list_app (E := pgE) Try.underlying39 Try.infoMapd rfl (by decide) (by decide) rfl _ _ rfl W1.heap.size _ _ (L.take i) (L.drop (i + 1)) rfl rfl (unhide hrow) (((unhide R1).grew (unhide K2)).own.back (i + 1) _ (by omega)) ?c3 ?c4 ?_)
      | go_in)
    case c3 => simp; omega
    case c4 => exact (unhide K2).size
    intro v2 w2 hrow2 hgrow2 hat2
    have hrow3 : Gr.Rw pgE W1.heap.size w2 v2 (L.eraseIdx i) := by rw [← Gr.erase_is]; exact hrow2
    obtain ⟨a2, c2, rfl⟩ := hrow3.form
    have K3 := Gr.kp_grown (unhide K2) hgrow2 (fun q hq => ((unhide hrow).lt hq).1)
    have ht2 := Gr.bk_grown (unhide R2).head hgrow2 (fun e => by have := ((unhide hrow).lt e.symm).1; omega)
    have c5 := ht2.cell (i := 0) rfl
    have f5 := ht2.frozen
    have hR3 := RP.put (base := base) hrow3 (by omega) ht2 hbt (by omega) (by rw [List.length_eraseIdx]; split <;> omega)
    have K5 := (((unhide K1w).then K3).mono (S' := [y]) (by simp)).setCell (p := ⟨y, 0, none⟩) (.inl (by simp))
    replace hR3 := hide hR3
    replace K5 := hide K5
    clear hrow hrow2 hrow3 hgrow2 hat2 ht2 K2 K3 R2 R1 K1w hck b4 b5 b6 b7 c4 f4
    go_wp2
    go_ret
    exact ⟨rfl, unhide hR3, unhide K5 _⟩
theorem filt_yes {L : List Pg} {f : Pg → Bool} {j : Nat} {x : Pg} (hx : L[j]? = some x) (hf : f x = true) : (L.take (j + 1)).filter f = (L.take j).filter f ++ [x] := by
  obtain ⟨hj, rfl⟩ := List.getElem?_eq_some_iff.1 hx
  rw [List.take_succ_eq_append_getElem hj, List.filter_append]
  simp [hf]
theorem filt_no {L : List Pg} {f : Pg → Bool} {j : Nat} {x : Pg} (hx : L[j]? = some x) (hf : f x = false) : (L.take (j + 1)).filter f = (L.take j).filter f := by
  obtain ⟨hj, rfl⟩ := List.getElem?_eq_some_iff.1 hx
  rw [List.take_succ_eq_append_getElem hj, List.filter_append]
  simp [hf]
set_option maxHeartbeats 2000000 in
theorem rpdrop_calls {base : Nat} {w : World} {y : Nat} {a : Option Addr} {cap : Nat} {L : List Pg} (h : RP base w y a cap L) (fr : Int) :
    Calls Try.prog 16 #[.pointer (some ⟨y, 0, none⟩), .int .i64 fr] w (RPP base y w (.int .i64 ((L.length : Int) - ((L.filter fun x => x.f != fr).length : Int))) (L.filter fun x => x.f != fr)) := by
  have hs := h.small
  have hbt := h.new
  have hlt := h.lt
  have H := hide h
  clear h
  go_enter Try.func16, Try.ntmps16
  go_wp2_with fail
  go_loopg [5, 6] L.length (fun m v i wx => ∃ j : Nat, j ≤ L.length ∧ m = L.length - j ∧ i = .int .i64 j ∧ Gr.Rw pgE w.heap.size wx v ((L.take j).filter fun x => x.f != fr) ∧ Kp [] w wx)
  case atStart => exact ⟨0, Nat.zero_le _, rfl, rfl, Gr.Rw.nil _ _, Kp.refl _ _⟩
  case round =>
    obtain ⟨j, hj, rfl, rfl, hP, hK⟩ := hrel
    have hR := (unhide H).grew hK
    have c0 := hR.head.cell (i := 0) rfl
    by_cases hlt : j < L.length
    · obtain ⟨g, rfl⟩ := hR.addr (by omega)
      obtain ⟨x, hx⟩ : ∃ x, L[j]? = some x := ⟨_, List.getElem?_eq_getElem hlt⟩
      obtain ⟨x0, x1, x2, x3⟩ := hR.cells hx
      obtain ⟨xs, xp, xf, xr⟩ := x
      simp only at x0 x1 x2 x3
      have b1 : (j : Int) < (L.length : Int) := by omega
      have b2 : ((j : Int)).toNat = j := Int.toNat_natCast j
      by_cases hf : xf = fr
      · have hmore := hide (filt_no (f := fun x => x.f != fr) hx (by simp [hf]))
        clear hR hx
        replace hP := hide hP
        replace hK := hide hK
        have hf' : (xf != fr) = false := by simp [hf]
        go_wp2_with fail
        go_roundg (L.length - (j + 1))
        case measure => omega
        case rel => exact ⟨j + 1, by omega, rfl, by go_num, by rw [unhide hmore]; exact unhide hP, unhide hK⟩
      · have hmore := hide (filt_yes (f := fun x => x.f != fr) hx (by simp [hf]))
        have hlen : ((L.take j).filter fun x => x.f != fr).length ≤ 1048575 := by have := List.length_filter_le (fun x : Pg => x.f != fr) (L.take j); rw [List.length_take] at this; omega
        obtain ⟨F, hF⟩ : ∃ F, ((L.take j).filter fun x => x.f != fr) = F := ⟨_, rfl⟩
        rw [hF] at hP hlen
        replace hmore : Hid ((L.take (j + 1)).filter (fun x => x.f != fr) = F ++ [⟨xs, xp, xf, xr⟩]) := by unfold Hid; rw [← hF]; exact unhide hmore
        replace hlen := hide hlen
        clear hR hx hF
        replace hP := hide hP
        replace hK := hide hK
        have hf' : (xf != fr) = true := by simp [hf]
        go_wp2_with (first
          | (at_builtin; refine Gr.list_app (E := pgE) Try.underlying39 Try.infoMapd rfl (by decide) (by decide) rfl _ _ rfl w.heap.size _ _ F [⟨xs, xp, xf, xr⟩] rfl rfl ((unhide hP).grew ((Kp.refl [] wr).alloc _)) (Gr.src_one (Bk.new wr 68 [.int .i64 xs, .int .i64 xp, .int .i64 xf, .int .i64 xr]) rfl) ?c2 ?c3 ?_)
          | go_in)
        case c2 => have h9 := unhide hlen; show F.length + 1 ≤ 1048576; omega
        case c3 => have := (unhide hK).size; simp; omega
        intro v' w1 hown' hgrow hnil
        have hP1 : Hid (Gr.Rw pgE w.heap.size w1 v' ((L.take (j + 1)).filter fun x => x.f != fr)) := by
          unfold Hid
          rw [unhide hmore]
          exact hown'
        have hK1 := hide (Gr.kp_grown ((unhide hK).alloc _) hgrow (fun k hk => ((unhide hP).lt hk).1))
        clear hP hK hmore hown' hgrow hnil
        go_wp2
        go_roundg (L.length - (j + 1))
        case measure => omega
        case rel => exact ⟨j + 1, by omega, rfl, by go_num, unhide hP1, unhide hK1⟩
    · have b1 : decide ((j : Int) < (L.length : Int)) = false := decide_eq_false (by omega)
      rw [List.take_of_length_le (show L.length ≤ j by omega)] at hP
      have f0 := hR.head.frozen
      have hl := List.length_filter_le (fun x : Pg => x.f != fr) L
      have hR3 := RP.put (base := base) hP (by omega) hR.head hbt (by omega) (by omega)
      have K5 := (hK.mono (S' := [y]) (by simp)).setCell (p := ⟨y, 0, none⟩) (.inl (by simp))
      obtain ⟨v, c, rfl⟩ := hP.form
      replace hP := hide hP
      replace hK := hide hK
      replace hR3 := hide hR3
      replace K5 := hide K5
      clear hR
      go_wp2
      go_ret
      exact ⟨rfl, unhide hR3, unhide K5 _⟩
set_option maxHeartbeats 2000000 in
theorem rpempty_calls {base : Nat} {w : World} {y : Nat} {a : Option Addr} {cap : Nat} {L : List Pg} (h : RP base w y a cap L) (fr : Int) :
    Calls Try.prog 18 #[.pointer (some ⟨y, 0, none⟩), .int .i64 fr] w (RPP base y w (.int .i64 ((L.length : Int) - ((L.filter fun x => x.s != fr).length : Int))) (L.filter fun x => x.s != fr)) := by
  have hs := h.small
  have hbt := h.new
  have hlt := h.lt
  have H := hide h
  clear h
  go_enter Try.func18, Try.ntmps18
  go_wp2_with fail
  go_loopg [5, 6] L.length (fun m v i wx => ∃ j : Nat, j ≤ L.length ∧ m = L.length - j ∧ i = .int .i64 j ∧ Gr.Rw pgE w.heap.size wx v ((L.take j).filter fun x => x.s != fr) ∧ Kp [] w wx)
  case atStart => exact ⟨0, Nat.zero_le _, rfl, rfl, Gr.Rw.nil _ _, Kp.refl _ _⟩
  case round =>
    obtain ⟨j, hj, rfl, rfl, hP, hK⟩ := hrel
    have hR := (unhide H).grew hK
    have c0 := hR.head.cell (i := 0) rfl
    by_cases hlt : j < L.length
    · obtain ⟨g, rfl⟩ := hR.addr (by omega)
      obtain ⟨x, hx⟩ : ∃ x, L[j]? = some x := ⟨_, List.getElem?_eq_getElem hlt⟩
      obtain ⟨x0, x1, x2, x3⟩ := hR.cells hx
      obtain ⟨xs, xp, xf, xr⟩ := x
      simp only at x0 x1 x2 x3
      have b1 : (j : Int) < (L.length : Int) := by omega
      have b2 : ((j : Int)).toNat = j := Int.toNat_natCast j
      by_cases hf : xs = fr
      · have hmore := hide (filt_no (f := fun x => x.s != fr) hx (by simp [hf]))
        clear hR hx
        replace hP := hide hP
        replace hK := hide hK
        have hf' : (xs != fr) = false := by simp [hf]
        go_wp2_with fail
        go_roundg (L.length - (j + 1))
        case measure => omega
        case rel => exact ⟨j + 1, by omega, rfl, by go_num, by rw [unhide hmore]; exact unhide hP, unhide hK⟩
      · have hmore := hide (filt_yes (f := fun x => x.s != fr) hx (by simp [hf]))
        have hlen : ((L.take j).filter fun x => x.s != fr).length ≤ 1048575 := by have := List.length_filter_le (fun x : Pg => x.s != fr) (L.take j); rw [List.length_take] at this; omega
        obtain ⟨F, hF⟩ : ∃ F, ((L.take j).filter fun x => x.s != fr) = F := ⟨_, rfl⟩
        rw [hF] at hP hlen
        replace hmore : Hid ((L.take (j + 1)).filter (fun x => x.s != fr) = F ++ [⟨xs, xp, xf, xr⟩]) := by unfold Hid; rw [← hF]; exact unhide hmore
        replace hlen := hide hlen
        clear hR hx hF
        replace hP := hide hP
        replace hK := hide hK
        have hf' : (xs != fr) = true := by simp [hf]
        go_wp2_with (first
          | (at_builtin; refine Gr.list_app (E := pgE) Try.underlying39 Try.infoMapd rfl (by decide) (by decide) rfl _ _ rfl w.heap.size _ _ F [⟨xs, xp, xf, xr⟩] rfl rfl ((unhide hP).grew ((Kp.refl [] wr).alloc _)) (Gr.src_one (Bk.new wr 68 [.int .i64 xs, .int .i64 xp, .int .i64 xf, .int .i64 xr]) rfl) ?c2 ?c3 ?_)
          | go_in)
        case c2 => have h9 := unhide hlen; show F.length + 1 ≤ 1048576; omega
        case c3 => have := (unhide hK).size; simp; omega
        intro v' w1 hown' hgrow hnil
        have hP1 : Hid (Gr.Rw pgE w.heap.size w1 v' ((L.take (j + 1)).filter fun x => x.s != fr)) := by
          unfold Hid
          rw [unhide hmore]
          exact hown'
        have hK1 := hide (Gr.kp_grown ((unhide hK).alloc _) hgrow (fun k hk => ((unhide hP).lt hk).1))
        clear hP hK hmore hown' hgrow hnil
        go_wp2
        go_roundg (L.length - (j + 1))
        case measure => omega
        case rel => exact ⟨j + 1, by omega, rfl, by go_num, unhide hP1, unhide hK1⟩
    · have b1 : decide ((j : Int) < (L.length : Int)) = false := decide_eq_false (by omega)
      rw [List.take_of_length_le (show L.length ≤ j by omega)] at hP
      have f0 := hR.head.frozen
      have hl := List.length_filter_le (fun x : Pg => x.s != fr) L
      have hR3 := RP.put (base := base) hP (by omega) hR.head hbt (by omega) (by omega)
      have K5 := (hK.mono (S' := [y]) (by simp)).setCell (p := ⟨y, 0, none⟩) (.inl (by simp))
      obtain ⟨v, c, rfl⟩ := hP.form
      replace hP := hide hP
      replace hK := hide hK
      replace hR3 := hide hR3
      replace K5 := hide K5
      clear hR
      go_wp2
      go_ret
      exact ⟨rfl, unhide hR3, unhide K5 _⟩
end Go.Proofs.Ytlallciikcmjmaa
