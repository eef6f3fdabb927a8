/- The document's queue: Ready, Pick. -/
import Derived.Test.YtennmoaaieedpaaKQue1
namespace Go.Proofs.Ytennmoaaieedpaa
open Go.RowKit
set_option linter.unusedVariables false
/-- Integers, a cell each. -/
def intE : Gr.Enc Int 3 1 := ⟨fun x => [.int .i64 x], fun _ => rfl, fun x v hv => by
  simp only [List.mem_cons, List.not_mem_nil, or_false] at hv
  subst hv; rfl⟩
theorem Try.infoIntG : (Try.prog.info? 3).map (fun i => (i.zero, i.size, i.bytes)) = some (some (.int .i64 0), 1, 8) := by kernel_rfl
def ListI (w : World) (zs : List Int) (e : Ending) (w' : World) : Prop := ∃ v, e = .returned v ∧ Gr.Rw intE w.heap.size w' v zs ∧ Kp [] w w'
theorem qRow_yes {L : List (Int × Int)} {r : Int} {j : Nat} {t : Int} (hx : L[j]? = some (t, r)) : qRow (L.take (j + 1)) r = qRow (L.take j) r ++ [t] := by
  obtain ⟨hj, e⟩ := List.getElem?_eq_some_iff.1 hx
  rw [List.take_succ_eq_append_getElem hj, e, qRow_add, if_pos rfl]
theorem qRow_no {L : List (Int × Int)} {r : Int} {j : Nat} {t p : Int} (hx : L[j]? = some (t, p)) (hp : p ≠ r) : qRow (L.take (j + 1)) r = qRow (L.take j) r := by
  obtain ⟨hj, e⟩ := List.getElem?_eq_some_iff.1 hx
  rw [List.take_succ_eq_append_getElem hj, e, qRow_add, if_neg hp]
set_option maxHeartbeats 2000000 in
theorem rqready {base : Nat} {w : World} {y : Nat} {a : Option Addr} {cap : Nat} {L : List (Int × Int)} {zs : List Int} (h : RQ base w y a cap L) (hz : qReady L = zs) :
    Calls Try.prog 20 #[.pointer (some ⟨y, 0, none⟩)] w (ListI w zs) := by
  subst hz
  have hs := h.small
  have H := hide h
  clear h
  go_enter Try.func20, Try.ntmps20
  go_wp2_with fail
  go_loopg [3, 4] L.length (fun m v i wx => ∃ j : Nat, j ≤ L.length ∧ m = L.length - j ∧ i = .int .i64 j ∧ v = .int .i64 (qMax (-1) (L.take j)) ∧ Kp [] w wx)
  case atStart => exact ⟨0, Nat.zero_le _, rfl, rfl, rfl, Kp.refl _ _⟩
  case round =>
    obtain ⟨j, hj, rfl, rfl, rfl, hK⟩ := hrel
    have hR := (unhide H).grew hK
    have c0 := hR.head.cell (i := 0) rfl
    by_cases hlt : j < L.length
    · obtain ⟨g, rfl⟩ := hR.addr (by omega)
      obtain ⟨x, hx⟩ : ∃ x, L[j]? = some x := ⟨_, List.getElem?_eq_getElem hlt⟩
      obtain ⟨x0, x1⟩ := hR.cells hx
      obtain ⟨xt, xp⟩ := x
      simp only at x0 x1
      have b1 : (j : Int) < (L.length : Int) := by omega
      have b2 : ((j : Int)).toNat = j := Int.toNat_natCast j
      have hM := hide (qMax_take (m := -1) hx)
      obtain ⟨m0, hm0⟩ : ∃ m0, qMax (-1) (L.take j) = m0 := ⟨_, rfl⟩
      rw [hm0] at hM ⊢
      clear hR hx x0 hm0
      replace hK := hide hK
      go_wp2
      all_goals
        go_roundg (L.length - (j + 1))
        case measure => omega
        case rel => exact ⟨j + 1, by omega, rfl, by go_num, by rw [unhide hM]; first | rfl | (congr 1; omega), unhide hK⟩
    · have b1 : decide ((j : Int) < (L.length : Int)) = false := decide_eq_false (by omega)
      have e : L.take j = L := List.take_of_length_le (by omega)
      rw [e]
      have hq : qMax (-1) L = qMost L := rfl
      rw [hq]
      obtain ⟨m0, hm0⟩ : ∃ m0, qMost L = m0 := ⟨_, rfl⟩
      have hrd : Hid (qReady L = qRow L m0) := by unfold Hid qReady; rw [hm0]
      rw [hm0]
      clear hR e hq hm0
      replace hK := hide hK
      go_wp2_with fail
      go_loopg [5, 6] L.length (fun m v i wx => ∃ j : Nat, j ≤ L.length ∧ m = L.length - j ∧ i = .int .i64 j ∧ Gr.Rw intE w.heap.size wx v (qRow (L.take j) m0) ∧ Kp [] w wx)
      case atStart => exact ⟨0, Nat.zero_le _, rfl, rfl, Gr.Rw.nil _ _, unhide hK⟩
      case round =>
        obtain ⟨j1, hj1, rfl, rfl, hP, hK1⟩ := hrel
        clear hK
        have hR := (unhide H).grew hK1
        clear c0
        have c0 := hR.head.cell (i := 0) rfl
        by_cases hlt1 : j1 < L.length
        · obtain ⟨g, rfl⟩ := hR.addr (by omega)
          obtain ⟨x, hx⟩ : ∃ x, L[j1]? = some x := ⟨_, List.getElem?_eq_getElem hlt1⟩
          obtain ⟨x0, x1⟩ := hR.cells hx
          obtain ⟨xt, xp⟩ := x
          simp only at x0 x1
          have b3 : (j1 : Int) < (L.length : Int) := by omega
          have b4 : ((j1 : Int)).toNat = j1 := Int.toNat_natCast j1
          have hlen : (qRow (L.take j1) m0).length ≤ 1048575 := by have := qRow_len (L.take j1) m0; rw [List.length_take] at this; omega
          replace hlen := hide hlen
          replace hP := hide hP
          replace hK1 := hide hK1
          clear hR
          by_cases e1 : xp = m0
          · subst e1
            have hlen' := unhide hlen
            have hmore := hide (qRow_yes hx)
            clear hx
            go_wp2_with (first
              | (at_builtin; refine Gr.list_app (E := intE) Try.underlying24 Try.infoIntG rfl (by decide) (by decide) rfl _ _ rfl w.heap.size _ _ (qRow (L.take j1) xp) [xt] rfl rfl ((unhide hP).grew ((Kp.refl [] wr).alloc _)) (Gr.src_one (Bk.new wr 3 [.int .i64 xt]) rfl) ?c2 ?c3 ?_)
              | go_in)
            case c2 => have := unhide hlen; simp; omega
            case c3 => have := (unhide hK1).size; simp; omega
            intro v' w1 hown' hgrow hnil
            have hP1 : Hid (Gr.Rw intE w.heap.size w1 v' (qRow (L.take (j1 + 1)) xp)) := by
              unfold Hid
              rw [unhide hmore]
              exact hown'
            have hK2 := hide (Gr.kp_grown ((unhide hK1).alloc _) hgrow (fun k hk => ((unhide hP).lt hk).1))
            clear hP hK1 hmore hown' hgrow hnil
            go_wp2
            go_roundg (L.length - (j1 + 1))
            case measure => omega
            case rel => exact ⟨j1 + 1, by omega, rfl, by go_num, unhide hP1, unhide hK2⟩
          · have hmore := hide (qRow_no hx e1)
            have e2 : (xp == m0) = false := beq_eq_false_iff_ne.2 e1
            clear hx e1
            go_wp2
            go_roundg (L.length - (j1 + 1))
            case measure => omega
            case rel => exact ⟨j1 + 1, by omega, rfl, by go_num, by rw [unhide hmore]; exact unhide hP, unhide hK1⟩
        · have b3 : decide ((j1 : Int) < (L.length : Int)) = false := decide_eq_false (by omega)
          rw [List.take_of_length_le (show L.length ≤ j1 by omega), ← unhide hrd] at hP
          replace hP := hide hP
          replace hK1 := hide hK1
          clear hR
          go_wp2
          go_ret
          exact ⟨_, rfl, unhide hP, unhide hK1⟩
set_option maxHeartbeats 1000000 in
theorem rqpick_no {base : Nat} {w : World} {y : Nat} {a : Option Addr} {cap : Nat} {L : List (Int × Int)} (h : RQ base w y a cap L) (hn : qReady L = []) (i : Int) :
    Calls Try.prog 15 #[.pointer (some ⟨y, 0, none⟩), .int .i64 i] w fun e w' => e = .returned (.tuple #[.int .i64 0, .bool false]) ∧ Kp [] w w' := by
  have H := hide h
  replace hn := hide hn
  clear h
  go_enter Try.func15, Try.ntmps15
  go_wp2_with fail
  refine (rqready (unhide H) (unhide hn)).mono ?_
  rintro e W1 ⟨v, rfl, hR, K1⟩
  obtain ⟨a1, c1, rfl⟩ := hR.form
  replace K1 := hide K1
  clear hR
  go_wp2
  exact bodyPost_ret (v := .tuple #[.int .i64 0, .bool false]) (by simp [results, Try.results15, go_sem, *]) rfl ⟨rfl, unhide K1⟩
set_option maxHeartbeats 1000000 in
theorem rqpick_yes {base : Nat} {w : World} {y : Nat} {a : Option Addr} {cap : Nat} {L L' : List (Int × Int)} (hq : QOk L) (h : RQ base w y a cap L) {i t : Int} (ht : (qReady L)[qPlace L i]? = some t) (hL' : qTurn L t = L') :
    Calls Try.prog 15 #[.pointer (some ⟨y, 0, none⟩), .int .i64 i] w (RQP base y w (.tuple #[.int .i64 t, .bool true]) L') := by
  subst hL'
  obtain ⟨R, hR⟩ : ∃ R, qReady L = R := ⟨_, rfl⟩
  have hne : qReady L ≠ [] := by intro e; rw [e] at ht; simp at ht
  have hnL : L ≠ [] := fun e => hne ((qMost_nil hq).2 e)
  have hpl := qPlace_is hne i
  have hmem : (t, qMost L) ∈ L := qRow_mem.1 (List.mem_of_getElem? ht)
  obtain ⟨k, hk⟩ : ∃ k, qPlace L i = k := ⟨_, rfl⟩
  rw [hR, hk] at ht hpl
  have hkl : k < R.length := (List.getElem?_eq_some_iff.1 ht).1
  obtain ⟨ia, hia⟩ := qAt_of hmem
  have hpr : qPr L t = some (qMost L) := by
    cases e : qPr L t with
    | none => rw [qPr_none e] at hia; cases hia
    | some p =>
      obtain ⟨i', _, hi'⟩ := qPr_some e
      rw [q_one hq.nd (List.mem_of_getElem? hi') hmem]
  have hp1 := hide (show (qPr L t).getD 0 = qMost L by rw [hpr]; rfl)
  have hp2 := hide (show (qPr L t).isSome = true by rw [hpr]; rfl)
  have hat := hide (show (qAt L t).isSome = true by rw [hia]; rfl)
  have hadd := hide (show qAdd (qDel L t) t (qMost L) = some (qTurn L t) from if_pos ⟨qDel_gone L t, (prioOk_iff _).2 (qMost_in hq hnL)⟩)
  have hless := hide (qDel_less hmem)
  have hs := h.small
  have H := hide h
  have hR' := hide hR
  have ht' := hide ht
  have b0 : ((R.length : Int) == 0) = false := beq_eq_false_iff_ne.2 (by omega)
  have b1 : decide ((k : Int) < 0) = false := decide_eq_false (by omega)
  have b2 : (k : Int) < (R.length : Int) := by omega
  have b3 : ((k : Int)).toNat = k := Int.toNat_natCast k
  have b4 : ¬ ((R.length : Int) = 0) := by omega
  obtain ⟨mo, hmo⟩ : ∃ mo, qMost L = mo := ⟨_, rfl⟩
  rw [hmo] at hp1 hadd
  clear h hR ht hia hpr hmem hnL hne hk hmo
  go_enter Try.func15, Try.ntmps15
  go_wp2_with fail
  refine (rqready (unhide H) (unhide hR')).mono ?_
  rintro e W1 ⟨v, rfl, hRw, K1⟩
  rcases hRw.addr with ⟨_, e⟩ | ⟨g, c1, rfl, _⟩
  · rw [e] at hkl; simp at hkl
  have ck := hRw.cell (j := 0) (unhide ht') rfl
  rw [Nat.mul_one, Nat.add_zero] at ck
  replace K1 := hide K1
  clear hRw
  by_cases hi : i < 0
  · have hk0 : k = 0 := by
      rw [show max i 0 = 0 by omega, Int.zero_emod] at hpl
      omega
    subst hk0
    clear hpl
    go_wp2_with fail
    refine (rqprio_to ((unhide H).grew (unhide K1)) (unhide hp1) (unhide hp2)).mono ?_
    rintro e W2 ⟨rfl, K2⟩
    replace K2 := hide ((unhide K1).then K2)
    clear K1 ck
    go_wp2_with fail
    refine (rqrem hq ((unhide H).grew (unhide K2)) rfl (unhide hat)).mono ?_
    rintro e W3 ⟨rfl, ⟨a3, c3, R3⟩, K3⟩
    replace R3 := hide R3
    replace K3 := hide (((unhide K2).mono (S' := [y]) (by simp)).then K3)
    go_wp2_with fail
    refine (rqadd (is := true) (L' := qTurn L t) (unhide R3) (by have := unhide hless; omega) (by rw [unhide hadd]; exact Option.getD_some) (by rw [unhide hadd]; exact Option.isSome_some)).mono ?_
    rintro e W4 ⟨rfl, R4, K4⟩
    replace R4 := hide R4
    replace K4 := hide ((unhide K3).then K4)
    go_wp2
    exact bodyPost_ret (v := .tuple #[.int .i64 t, .bool true]) (by simp [results, Try.results15, go_sem, *]) rfl ⟨rfl, unhide R4, unhide K4⟩
  · have hmod : i % (R.length : Int) = (k : Int) := by rw [hpl, show max i 0 = i by omega]
    have hi2 : 0 ≤ i := by omega
    clear hpl
    go_wp2_with fail
    refine (rqprio_to ((unhide H).grew (unhide K1)) (unhide hp1) (unhide hp2)).mono ?_
    rintro e W2 ⟨rfl, K2⟩
    replace K2 := hide ((unhide K1).then K2)
    clear K1 ck
    go_wp2_with fail
    refine (rqrem hq ((unhide H).grew (unhide K2)) rfl (unhide hat)).mono ?_
    rintro e W3 ⟨rfl, ⟨a3, c3, R3⟩, K3⟩
    replace R3 := hide R3
    replace K3 := hide (((unhide K2).mono (S' := [y]) (by simp)).then K3)
    go_wp2_with fail
    refine (rqadd (is := true) (L' := qTurn L t) (unhide R3) (by have := unhide hless; omega) (by rw [unhide hadd]; exact Option.getD_some) (by rw [unhide hadd]; exact Option.isSome_some)).mono ?_
    rintro e W4 ⟨rfl, R4, K4⟩
    replace R4 := hide R4
    replace K4 := hide ((unhide K3).then K4)
    go_wp2
    exact bodyPost_ret (v := .tuple #[.int .i64 t, .bool true]) (by simp [results, Try.results15, go_sem, *]) rfl ⟨rfl, unhide R4, unhide K4⟩
/-- .. by what comes out. -/
def qPick (L : List (Int × Int)) (i : Int) : Option Int := (qReady L)[qPlace L i]?
theorem qPick_none {L : List (Int × Int)} {i : Int} (h : qPick L i = none) : qReady L = [] := by
  cases e : qReady L with
  | nil => rfl
  | cons t M =>
    have := qPlace_lt (L := L) (by rw [e]; simp) i
    unfold qPick at h
    rw [List.getElem?_eq_none_iff] at h
    omega
def qPicked (L : List (Int × Int)) (o : Option Int) : List (Int × Int) := match o with | none => L | some t => qTurn L t
theorem rqpick {base : Nat} {w : World} {y : Nat} {a : Option Addr} {cap : Nat} {L L' : List (Int × Int)} (hq : QOk L) (h : RQ base w y a cap L) {i t : Int} {is : Bool} (h1 : qPicked L (qPick L i) = L') (h2 : (qPick L i).getD 0 = t) (h3 : (qPick L i).isSome = is) :
    Calls Try.prog 15 #[.pointer (some ⟨y, 0, none⟩), .int .i64 i] w (RQP base y w (.tuple #[.int .i64 t, .bool is]) L') := by
  subst h1 h2 h3
  cases e : qPick L i with
  | none => exact (rqpick_no h (qPick_none e) i).mono fun e w' ⟨q, K⟩ => by subst q; exact RQP.same h K
  | some t => exact rqpick_yes hq h e rfl
theorem qPicked_ok {L L' : List (Int × Int)} (h : QOk L) {i : Int} (e : qPicked L (qPick L i) = L') : QOk L' ∧ L'.length ≤ L.length := by
  subst e
  cases e : qPick L i with
  | none => exact ⟨h, Nat.le_refl _⟩
  | some t =>
    have hm : (t, qMost L) ∈ L := qRow_mem.1 (List.mem_of_getElem? e)
    refine ⟨qTurn_ok h (List.ne_nil_of_mem hm) t, ?_⟩
    have := qDel_less hm
    simpa [qPicked, qTurn] using this
end Go.Proofs.Ytennmoaaieedpaa
