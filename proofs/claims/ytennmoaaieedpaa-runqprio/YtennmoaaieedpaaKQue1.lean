/- The document's queue (ringkernref10.Queue): where a thread stands, Add, Remove, Prio, Set. -/
import Derived.Test.YtennmoaaieedpaaKQue0
import Derived.Deep.DeepCutAuto
import Derived.Deep.CutBlock
import Derived.Deep.RegionHeld3
import Derived.Deep.RegionLaw
import Derived.BigRegion
namespace Go.Proofs.Ytennmoaaieedpaa
open Go.RowKit
set_option linter.unusedVariables false
def ruE : Gr.Enc (Int × Int) 47 2 := ⟨fun x => [.int .i64 x.1, .int .i64 x.2], fun _ => rfl, fun x v hv => by
  simp only [List.mem_cons, List.not_mem_nil, or_false] at hv
  rcases hv with rfl | rfl <;> rfl⟩
theorem Try.infoRuns : (Try.prog.info? 47).map (fun i => (i.zero, i.size, i.bytes)) = some (some (.agg #[.int .i64 0, .int .i64 0]), 2, 16) := by kernel_rfl
/-- The queue at block y, in memory that is newer than base. -/
structure RQ (base : Nat) (w : World) (y : Nat) (a : Option Addr) (cap : Nat) (L : List (Int × Int)) : Prop where
  head : Bk w y 30 [.slice a L.length cap]
  own : Gr.Rw ruE base w (.slice a L.length cap) L
  new : base ≤ y
  small : L.length ≤ 65536
theorem RQ.lt {base : Nat} {w : World} {y : Nat} {a : Option Addr} {cap : Nat} {L : List (Int × Int)} (h : RQ base w y a cap L) : y < w.heap.size := h.head.lt
theorem RQ.kept {base : Nat} {w w' : World} {y : Nat} {a : Option Addr} {cap : Nat} {L : List (Int × Int)} {S : List Nat} (h : RQ base w y a cap L) (k : Kp S w w') (hy : y ∉ S) (ha : ∀ g, (Value.slice a L.length cap).ownBlock = some g → g ∉ S) : RQ base w' y a cap L :=
  ⟨h.head.kept k hy, h.own.kept k ha, h.new, h.small⟩
theorem RQ.grew {base : Nat} {w w' : World} {y : Nat} {a : Option Addr} {cap : Nat} {L : List (Int × Int)} (h : RQ base w y a cap L) (k : Kp [] w w') : RQ base w' y a cap L := h.kept k (by simp) (by simp)
theorem RQ.drewN {base : Nat} {w : World} {y : Nat} {a : Option Addr} {cap : Nat} {L : List (Int × Int)} (h : RQ base w y a cap L) (k : Nat) : RQ base (w.drewN k) y a cap L := h.grew ((Kp.refl [] w).drewN k)
theorem RQ.addr {base : Nat} {w : World} {y : Nat} {a : Option Addr} {cap : Nat} {L : List (Int × Int)} (h : RQ base w y a cap L) (hp : 0 < L.length) : ∃ g, a = some ⟨g, 0, none⟩ := by
  rcases h.own.addr with ⟨_, e⟩ | ⟨g, c, e, _⟩
  · rw [e] at hp; simp at hp
  · cases e; exact ⟨g, rfl⟩
theorem RQ.any {base : Nat} {w : World} {y : Nat} {a : Option Addr} {cap : Nat} {L : List (Int × Int)} (h : RQ base w y a cap L) : (a = none ∧ cap = 0 ∧ L = []) ∨ ∃ g, a = some ⟨g, 0, none⟩ := by
  rcases h.own.addr with ⟨e, e2⟩ | ⟨g, c, e, _⟩
  · subst e2
    cases e
    exact .inl ⟨rfl, rfl, rfl⟩
  · cases e; exact .inr ⟨g, rfl⟩
theorem RQ.cells {base : Nat} {w : World} {y g : Nat} {cap : Nat} {L : List (Int × Int)} (h : RQ base w y (some ⟨g, 0, none⟩) cap L) {i : Nat} {x : Int × Int} (hx : L[i]? = some x) : w.cell? ⟨g, i * 2, none⟩ = some (.int .i64 x.1) ∧ w.cell? ⟨g, i * 2 + 1, none⟩ = some (.int .i64 x.2) :=
  ⟨h.own.cell (j := 0) hx rfl, h.own.cell (j := 1) hx rfl⟩
theorem RQ.start (base : Nat) (w : World) (hb : base ≤ w.heap.size) : RQ base (w.alloc (.cells #[.slice none 0 0] 30)) w.heap.size none 0 [] :=
  ⟨Bk.new w _ [.slice none 0 0], .nil _ _, hb, by simp⟩
set_option maxHeartbeats 1000000 in
theorem rqat_calls {base : Nat} {w : World} {y : Nat} {a : Option Addr} {cap : Nat} {L : List (Int × Int)} (h : RQ base w y a cap L) (t : Int) :
    Calls Try.prog 22 #[.pointer (some ⟨y, 0, none⟩), .int .i64 t] w fun e w' => e = .returned (.int .i64 (qI L t)) ∧ Kp [] w w' := by
  have hs := h.small
  have H0 := hide h
  have c0 := h.head.cell (i := 0) rfl
  clear h
  go_enter Try.func22, Try.ntmps22
  go_wp2_with fail
  go_loopg [5] L.length (fun m i wx => ∃ j : Nat, j ≤ L.length ∧ m = L.length - j ∧ i = .int .i64 j ∧ (∀ l, l < j → ∀ x, L[l]? = some x → x.1 ≠ t) ∧ Kp [] w wx)
  case atStart => exact ⟨0, Nat.zero_le _, rfl, rfl, fun l hl => by omega, Kp.refl _ _⟩
  case round =>
    obtain ⟨j, hj, rfl, rfl, hnot, hK⟩ := hrel
    have hR := (unhide H0).grew hK
    clear c0
    have c0 := hR.head.cell (i := 0) rfl
    by_cases hlt : j < L.length
    · obtain ⟨g, rfl⟩ := hR.addr (by omega)
      obtain ⟨x, hx⟩ : ∃ x, L[j]? = some x := ⟨_, List.getElem?_eq_getElem hlt⟩
      obtain ⟨x0, x1⟩ := hR.cells hx
      have b1 : (j : Int) < (L.length : Int) := by omega
      have b2 : ((j : Int)).toNat = j := Int.toNat_natCast j
      obtain ⟨xt, xp⟩ := x
      simp only at x0 x1
      clear x1 hR
      replace hK := hide hK
      replace hnot := hide hnot
      have hx' := hide hx
      clear hx
      by_cases e1 : xt = t
      · subst e1
        go_wp2
        go_ret
        exact ⟨ret_int (qI_some (qAt_hit (unhide hnot) (unhide hx'))).symm, unhide hK⟩
      · have e1' : (xt == t) = false := beq_eq_false_iff_ne.2 e1
        go_wp2
        go_roundg (L.length - (j + 1))
        case measure => omega
        case rel => exact ⟨j + 1, by omega, rfl, by go_num, q_more (unhide hnot) (unhide hx') e1, unhide hK⟩
    · have b1 : decide ((j : Int) < (L.length : Int)) = false := decide_eq_false (by omega)
      clear hR
      replace hK := hide hK
      replace hnot := hide hnot
      go_wp2
      go_ret
      exact ⟨ret_int (qI_none (qAt_miss (fun l hl => unhide hnot l (by omega)))).symm, unhide hK⟩
theorem rqat_to {base : Nat} {w : World} {y : Nat} {a : Option Addr} {cap : Nat} {L : List (Int × Int)} (h : RQ base w y a cap L) {t i : Int} (hi : qI L t = i) :
    Calls Try.prog 22 #[.pointer (some ⟨y, 0, none⟩), .int .i64 t] w fun e w' => e = .returned (.int .i64 i) ∧ Kp [] w w' := by subst hi; exact rqat_calls h t
def prioP (n : Int) : Prop := 0 ≤ n ∧ n < 8
def decPrio (n : Int) : Decidable (prioP n) := by unfold prioP; exact (if h : _ then isTrue h else isFalse h)
def prioOk (n : Int) : Bool := @decide (prioP n) (decPrio n)
theorem prioOk_iff (n : Int) : prioOk n = true ↔ prioP n := by unfold prioOk; exact @decide_eq_true_iff _ (decPrio n)
theorem prioOk_not (n : Int) : prioOk n = false ↔ ¬ prioP n := by rw [← Bool.not_eq_true, prioOk_iff]
set_option maxHeartbeats 400000 in
theorem rprio_calls (n : Int) (w : World) :
    Calls Try.prog 23 #[.int .i64 n] w fun e w' => e = .returned (.bool (prioOk n)) ∧ Kp [] w w' := by
  obtain ⟨v1, h1⟩ : ∃ v, decide (0 ≤ n) = v := ⟨_, rfl⟩
  have HE := hide (show (v1 && decide (n < 8)) = prioOk n from by rw [← h1]; refine Bool.eq_iff_iff.2 ?_; rw [prioOk_iff]; simp [prioP])
  cases v1 <;>
  · go_enter Try.func23, Try.ntmps23
    go_wp2
    go_ret
    exact ⟨ret_bool (unhide HE), Kp.refl _ _⟩
theorem rprio_to {n : Int} {v : Bool} (w : World) (h : prioOk n = v) :
    Calls Try.prog 23 #[.int .i64 n] w fun e w' => e = .returned (.bool v) ∧ Kp [] w w' := by subst h; exact rprio_calls n w
/-- What a change of the document's queue leaves. -/
def RQP (base y : Nat) (w : World) (v : Value) (L : List (Int × Int)) (e : Ending) (w' : World) : Prop := e = .returned v ∧ (∃ a cap, RQ base w' y a cap L) ∧ Kp [y] w w'
theorem RQP.same {base y : Nat} {w w' : World} {a : Option Addr} {cap : Nat} {L : List (Int × Int)} {v : Value} (h : RQ base w y a cap L) (K : Kp [] w w') : RQP base y w v L (.returned v) w' := ⟨rfl, ⟨_, _, h.grew K⟩, K.mono (by simp)⟩
theorem RQ.put {base base' : Nat} {w : World} {y : Nat} {v u : Value} {M : List (Int × Int)} (hrow : Gr.Rw ruE base' w v M) (hb : base ≤ base') (ht : Bk w y 30 [u]) (hby : base ≤ y) (hlt : y < base') (hs : M.length ≤ 65536) :
    ∃ a cap, RQ base (w.setCell ⟨y, 0, none⟩ v) y a cap M := by
  obtain ⟨a, cap, rfl, h1, h2⟩ := hrow.set hb ht hlt
  exact ⟨a, cap, h1, h2, hby, hs⟩
set_option maxHeartbeats 400000 in
theorem rqrem_no {base : Nat} {w : World} {y : Nat} {a : Option Addr} {cap : Nat} {L : List (Int × Int)} (h : RQ base w y a cap L) {t : Int} (hn : qAt L t = none) :
    Calls Try.prog 11 #[.pointer (some ⟨y, 0, none⟩), .int .i64 t] w fun e w' => e = .returned (.bool false) ∧ Kp [] w w' := by
  have H := hide h
  have HA := hide (qI_none hn)
  clear h hn
  go_enter Try.func11, Try.ntmps11
  go_wp2_with fail
  refine (rqat_to (unhide H) (unhide HA)).mono ?_
  rintro e W1 ⟨rfl, K1⟩
  replace K1 := hide K1
  go_wp2
  go_ret
  exact ⟨rfl, unhide K1⟩
set_option maxHeartbeats 2000000 in
set_option maxRecDepth 20000 in
theorem rqrem_yes {base : Nat} {w : World} {y : Nat} {a : Option Addr} {cap : Nat} {L : List (Int × Int)} (h : RQ base w y a cap L) {t : Int} {i : Nat} (hn : qAt L t = some i) :
    Calls Try.prog 11 #[.pointer (some ⟨y, 0, none⟩), .int .i64 t] w (RQP base y w (.bool true) (L.eraseIdx i)) := by
  obtain ⟨x, hx⟩ := qAt_some hn
  have hi : i < L.length := (List.getElem?_eq_some_iff.1 hx).1
  have hs := h.small
  have hwt := h.head.lt
  have hbt := h.new
  obtain ⟨g, rfl⟩ := h.addr (by omega)
  have hcap := h.own.caps
  have H := hide h
  have HA := hide (qI_some hn)
  have b1 : (i : Int) < (L.length : Int) := by omega
  have b2 : ((i : Int)).toNat = i := Int.toNat_natCast i
  have b3 : decide ((i : Int) < 0) = false := decide_eq_false (by omega)
  have b4 : (i : Int) ≤ (cap : Int) := by omega
  have b5 : (L.length : Int) ≤ (cap : Int) := by omega
  clear h hn hx
  go_enter Try.func11, Try.ntmps11
  go_wp2_with fail
  refine (rqat_to (unhide H) (unhide HA)).mono ?_
  rintro e W1 ⟨rfl, K1⟩
  have R1 := (unhide H).grew K1
  have K1w := K1
  have c1 := R1.head.cell (i := 0) rfl
  have hsz : w.heap.size ≤ W1.heap.size := K1w.size
  have ltt : y < W1.heap.size := R1.head.lt
  replace R1 := hide R1
  replace K1w := hide K1w
  clear K1 H
  go_wp2_with (first
    | (at_builtin; refine Gr.list_app (E := ruE) Try.underlying28 Try.infoRuns rfl (by decide) (by decide) rfl _ _ rfl W1.heap.size _ _ [] (L.take i) rfl rfl (Gr.row_empty (Gr.bk_next W1 _ [] rfl) (Nat.le_refl _)) (((unhide R1).grew ((Kp.refl [] W1).alloc _)).own.front i _ (by omega)) ?c3 ?c4 ?_)
    | go_in)
  case c3 => simp; omega
  case c4 => simp
  intro v1 w1 hrow hgrow hat
  have K2 := Gr.kp_grown ((Kp.refl [] W1).alloc _) hgrow (fun q hq => by cases hq; exact Nat.le_refl _)
  have R2 := (unhide R1).grew K2
  have c4 := R2.head.cell (i := 0) rfl
  have f4 := R2.head.frozen
  replace K2 := hide K2
  replace R2 := hide R2
  replace hrow := hide hrow
  clear hgrow hat c1
  have b6 : (i : Int) + 1 ≤ (L.length : Int) := by omega
  have b7 : ((i : Int) + 1).toNat = i + 1 := by omega
  by_cases hck : cap = i + 1
  · have hdr : L.drop (i + 1) = [] := List.drop_eq_nil_of_le (by omega)
    have hle : L.length - (i + 1) = 0 := by omega
    go_wp2_with (first
      | (at_builtin; refine Gr.list_app (E := ruE) Try.underlying28 Try.infoRuns rfl (by decide) (by decide) rfl _ _ rfl W1.heap.size _ _ (L.take i) (L.drop (i + 1)) rfl rfl (unhide hrow) (by rw [hdr]; exact Gr.src_nil (by omega)) ?c3 ?c4 ?_)
      | go_in)
    case c3 => simp; omega
    case c4 => exact (unhide K2).size
    intro v2 w2 hrow2 hgrow2 hat2
    have hrow3 : Gr.Rw ruE W1.heap.size w2 v2 (L.eraseIdx i) := by rw [← Gr.erase_is, hdr, List.append_nil]; exact hrow2
    obtain ⟨a2, c2, rfl⟩ := hrow3.form
    have K3 := Gr.kp_grown (unhide K2) hgrow2 (fun q hq => ((unhide hrow).lt hq).1)
    have ht2 := Gr.bk_grown (unhide R2).head hgrow2 (fun e => by have := ((unhide hrow).lt e.symm).1; omega)
    have c5 := ht2.cell (i := 0) rfl
    have f5 := ht2.frozen
    have hR3 := RQ.put (base := base) hrow3 (by omega) ht2 hbt (by omega) (by rw [List.length_eraseIdx]; split <;> omega)
    have K5 := (((unhide K1w).then K3).mono (S' := [y]) (by simp)).setCell (p := ⟨y, 0, none⟩) (.inl (by simp))
    replace hR3 := hide hR3
    replace K5 := hide K5
    clear hrow hrow2 hrow3 hgrow2 hat2 ht2 K2 K3 R2 R1 K1w hdr hle hck b4 b5 b6 b7 c4 f4
    go_wp2
    go_ret
    exact ⟨rfl, unhide hR3, unhide K5 _⟩
  · go_wp2_with (first
      | (at_builtin; refine Gr.list_app (E := ruE) Try.underlying28 Try.infoRuns rfl (by decide) (by decide) rfl _ _ rfl W1.heap.size _ _ (L.take i) (L.drop (i + 1)) rfl rfl (unhide hrow) (((unhide R1).grew (unhide K2)).own.back (i + 1) _ (by omega)) ?c3 ?c4 ?_)
      | go_in)
    case c3 => simp; omega
    case c4 => exact (unhide K2).size
    intro v2 w2 hrow2 hgrow2 hat2
    have hrow3 : Gr.Rw ruE W1.heap.size w2 v2 (L.eraseIdx i) := by rw [← Gr.erase_is]; exact hrow2
    obtain ⟨a2, c2, rfl⟩ := hrow3.form
    have K3 := Gr.kp_grown (unhide K2) hgrow2 (fun q hq => ((unhide hrow).lt hq).1)
    have ht2 := Gr.bk_grown (unhide R2).head hgrow2 (fun e => by have := ((unhide hrow).lt e.symm).1; omega)
    have c5 := ht2.cell (i := 0) rfl
    have f5 := ht2.frozen
    have hR3 := RQ.put (base := base) hrow3 (by omega) ht2 hbt (by omega) (by rw [List.length_eraseIdx]; split <;> omega)
    have K5 := (((unhide K1w).then K3).mono (S' := [y]) (by simp)).setCell (p := ⟨y, 0, none⟩) (.inl (by simp))
    replace hR3 := hide hR3
    replace K5 := hide K5
    clear hrow hrow2 hrow3 hgrow2 hat2 ht2 K2 K3 R2 R1 K1w hck b4 b5 b6 b7 c4 f4
    go_wp2
    go_ret
    exact ⟨rfl, unhide hR3, unhide K5 _⟩
set_option maxHeartbeats 400000 in
theorem rqprio_no {base : Nat} {w : World} {y : Nat} {a : Option Addr} {cap : Nat} {L : List (Int × Int)} (h : RQ base w y a cap L) {t : Int} (hn : qPr L t = none) :
    Calls Try.prog 17 #[.pointer (some ⟨y, 0, none⟩), .int .i64 t] w fun e w' => e = .returned (.tuple #[.int .i64 0, .bool false]) ∧ Kp [] w w' := by
  have H := hide h
  have HA := hide (qI_none (qPr_none hn))
  clear h hn
  go_enter Try.func17, Try.ntmps17
  go_wp2_with fail
  refine (rqat_to (unhide H) (unhide HA)).mono ?_
  rintro e W1 ⟨rfl, K1⟩
  replace K1 := hide K1
  go_wp2
  exact bodyPost_ret (v := .tuple #[.int .i64 0, .bool false]) (by simp [results, Try.results17, go_sem, *]) rfl ⟨rfl, unhide K1⟩
set_option maxHeartbeats 400000 in
theorem rqprio_yes {base : Nat} {w : World} {y : Nat} {a : Option Addr} {cap : Nat} {L : List (Int × Int)} (h : RQ base w y a cap L) {t p : Int} (hn : qPr L t = some p) :
    Calls Try.prog 17 #[.pointer (some ⟨y, 0, none⟩), .int .i64 t] w fun e w' => e = .returned (.tuple #[.int .i64 p, .bool true]) ∧ Kp [] w w' := by
  obtain ⟨i, hA, hx⟩ := qPr_some hn
  have hi : i < L.length := (List.getElem?_eq_some_iff.1 hx).1
  have hs := h.small
  obtain ⟨g, rfl⟩ := h.addr (by omega)
  have H := hide h
  have HA := hide (qI_some hA)
  have b1 : (i : Int) < (L.length : Int) := by omega
  have b2 : ((i : Int)).toNat = i := Int.toNat_natCast i
  have b3 : decide ((i : Int) < 0) = false := decide_eq_false (by omega)
  have HX := hide hx
  clear h hn hx hA
  go_enter Try.func17, Try.ntmps17
  go_wp2_with fail
  refine (rqat_to (unhide H) (unhide HA)).mono ?_
  rintro e W1 ⟨rfl, K1⟩
  have R1 := (unhide H).grew K1
  have c0 := R1.head.cell (i := 0) rfl
  obtain ⟨_, x1⟩ := R1.cells (unhide HX)
  simp only at x1
  clear R1
  replace K1 := hide K1
  go_wp2
  exact bodyPost_ret (v := .tuple #[.int .i64 p, .bool true]) (by simp [results, Try.results17, go_sem, *]) rfl ⟨rfl, unhide K1⟩
def prV (o : Option Int) : Value := match o with | none => .tuple #[.int .i64 0, .bool false] | some p => .tuple #[.int .i64 p, .bool true]
theorem prV_form (o : Option Int) : prV o = .tuple #[.int .i64 (o.getD 0), .bool o.isSome] := by cases o <;> rfl
theorem rqprio_to {base : Nat} {w : World} {y : Nat} {a : Option Addr} {cap : Nat} {L : List (Int × Int)} (h : RQ base w y a cap L) {t p : Int} {is : Bool} (hp : (qPr L t).getD 0 = p) (hi : (qPr L t).isSome = is) :
    Calls Try.prog 17 #[.pointer (some ⟨y, 0, none⟩), .int .i64 t] w fun e w' => e = .returned (.tuple #[.int .i64 p, .bool is]) ∧ Kp [] w w' := by
  subst hp hi
  cases e : qPr L t with
  | none => exact rqprio_no h e
  | some p => exact rqprio_yes h e
set_option maxHeartbeats 400000 in
theorem rqadd_there {base : Nat} {w : World} {y : Nat} {a : Option Addr} {cap : Nat} {L : List (Int × Int)} (h : RQ base w y a cap L) {t : Int} (p : Int) {i : Nat} (hn : qAt L t = some i) :
    Calls Try.prog 9 #[.pointer (some ⟨y, 0, none⟩), .int .i64 t, .int .i64 p] w fun e w' => e = .returned (.bool false) ∧ Kp [] w w' := by
  have H := hide h
  have HA := hide (qI_some hn)
  clear h hn
  go_enter Try.func9, Try.ntmps9
  go_wp2_with fail
  refine (rqat_to (unhide H) (unhide HA)).mono ?_
  rintro e W1 ⟨rfl, K1⟩
  replace K1 := hide K1
  go_wp2
  go_ret
  exact ⟨rfl, unhide K1⟩
set_option maxHeartbeats 400000 in
theorem rqadd_bad {base : Nat} {w : World} {y : Nat} {a : Option Addr} {cap : Nat} {L : List (Int × Int)} (h : RQ base w y a cap L) {t p : Int} (hn : qAt L t = none) (hp : prioOk p = false) :
    Calls Try.prog 9 #[.pointer (some ⟨y, 0, none⟩), .int .i64 t, .int .i64 p] w fun e w' => e = .returned (.bool false) ∧ Kp [] w w' := by
  have H := hide h
  have HA := hide (qI_none hn)
  replace hp := hide hp
  clear h hn
  go_enter Try.func9, Try.ntmps9
  go_wp2_with fail
  refine (rqat_to (unhide H) (unhide HA)).mono ?_
  rintro e W1 ⟨rfl, K1⟩
  replace K1 := hide K1
  go_wp2_with fail
  refine (rprio_to _ (unhide hp)).mono ?_
  rintro e W2 ⟨rfl, K2⟩
  replace K2 := hide K2
  go_wp2
  go_ret
  exact ⟨rfl, (unhide K1).then (unhide K2)⟩
set_option maxHeartbeats 2000000 in
set_option maxRecDepth 20000 in
theorem rqadd_yes {base : Nat} {w : World} {y : Nat} {a : Option Addr} {cap : Nat} {L : List (Int × Int)} (h : RQ base w y a cap L) {t p : Int} (hn : qAt L t = none) (hp : prioOk p = true) (hL : L.length < 65536) :
    Calls Try.prog 9 #[.pointer (some ⟨y, 0, none⟩), .int .i64 t, .int .i64 p] w (RQP base y w (.bool true) (L ++ [(t, p)])) := by
  have hwt := h.head.lt
  have hbt := h.new
  have H := hide h
  have HA := hide (qI_none hn)
  replace hp := hide hp
  clear h hn
  go_enter Try.func9, Try.ntmps9
  go_wp2_with fail
  refine (rqat_to (unhide H) (unhide HA)).mono ?_
  rintro e W0 ⟨rfl, K0⟩
  replace K0 := hide K0
  go_wp2_with fail
  refine (rprio_to _ (unhide hp)).mono ?_
  rintro e W1 ⟨rfl, K1⟩
  have K1w := (unhide K0).then K1
  have R1 := (unhide H).grew K1w
  have c1 := R1.head.cell (i := 0) rfl
  have hsz : w.heap.size ≤ W1.heap.size := K1w.size
  have ltt : y < W1.heap.size := R1.head.lt
  replace R1 := hide R1
  replace K1w := hide K1w
  clear K0 K1 H HA hp
  go_wp2_with (first
    | (at_builtin; refine Gr.list_app (E := ruE) Try.underlying28 Try.infoRuns rfl (by decide) (by decide) rfl _ _ rfl W1.heap.size _ _ [] L rfl rfl (Gr.row_empty (Gr.bk_next W1 _ [] rfl) (Nat.le_refl _)) (((unhide R1).grew ((Kp.refl [] W1).alloc _)).own.src) ?c3 ?c4 ?_)
    | go_in)
  case c3 => simp; omega
  case c4 => simp
  intro v1 w1 hrow hgrow hat
  have hrow := hrow
  have K2 := Gr.kp_grown ((Kp.refl [] W1).alloc _) hgrow (fun q hq => by cases hq; exact Nat.le_refl _)
  have R2 := (unhide R1).grew K2
  have c4 := R2.head.cell (i := 0) rfl
  have f4 := R2.head.frozen
  replace K2 := hide K2
  replace R2 := hide R2
  replace hrow := hide hrow
  clear hgrow hat c1
  go_wp2_with (first
    | (at_builtin; refine Gr.list_app (E := ruE) Try.underlying28 Try.infoRuns rfl (by decide) (by decide) rfl _ _ rfl W1.heap.size _ _ L [(t, p)] rfl rfl ((unhide hrow).grew ((Kp.refl [] w1).alloc _)) (Gr.src_one (Bk.new w1 47 [.int .i64 t, .int .i64 p]) rfl) ?c3 ?c4 ?_)
    | go_in)
  case c3 => simp; omega
  case c4 => have := (unhide K2).size; simp; omega
  intro v2 w2 hrow2 hgrow2 hat2
  obtain ⟨a2, c2, rfl⟩ := hrow2.form
  have K3 := Gr.kp_grown ((unhide K2).alloc _) hgrow2 (fun q hq => ((unhide hrow).lt hq).1)
  have ht2 := Gr.bk_grown ((unhide R2).head.alloc _) hgrow2 (fun e => by have := ((unhide hrow).lt e.symm).1; omega)
  have c5 := ht2.cell (i := 0) rfl
  have f5 := ht2.frozen
  have hR3 := RQ.put (base := base) hrow2 (by omega) ht2 hbt (by omega) (by simp; omega)
  have el : (L ++ [(t, p)]).length = L.length + 1 := by simp
  rw [el] at hR3
  have K5 := (((unhide K1w).then K3).mono (S' := [y]) (by simp)).setCell (p := ⟨y, 0, none⟩) (.inl (by simp))
  replace hR3 := hide hR3
  replace K5 := hide K5
  clear hrow hrow2 hgrow2 hat2 ht2 K2 K3 R2 R1 K1w c4 f4
  go_wp2
  go_ret
  exact ⟨rfl, unhide hR3, unhide K5 _⟩
/-- .. by what comes out. -/
def qAdd (L : List (Int × Int)) (t p : Int) : Option (List (Int × Int)) := if qAt L t = none ∧ prioOk p = true then some (L ++ [(t, p)]) else none
theorem qAdd_ok {L L' : List (Int × Int)} (h : QOk L) {t p : Int} (ha : qAdd L t p = some L') : QOk L' ∧ L'.length = L.length + 1 := by
  unfold qAdd at ha
  by_cases hp : qAt L t = none ∧ prioOk p = true
  · rw [if_pos hp] at ha
    cases ha
    exact ⟨h.add hp.1 ((prioOk_iff p).1 hp.2), by simp⟩
  · rw [if_neg hp] at ha; cases ha
theorem rqadd {base : Nat} {w : World} {y : Nat} {a : Option Addr} {cap : Nat} {L L' : List (Int × Int)} (h : RQ base w y a cap L) {t p : Int} {is : Bool} (hL : L.length < 65536) (h1 : (qAdd L t p).getD L = L') (h2 : (qAdd L t p).isSome = is) :
    Calls Try.prog 9 #[.pointer (some ⟨y, 0, none⟩), .int .i64 t, .int .i64 p] w (RQP base y w (.bool is) L') := by
  subst h1 h2
  unfold qAdd
  cases e : qAt L t with
  | some i => simp only [reduceCtorEq, false_and, if_false, Option.getD_none, Option.isSome_none]; exact (rqadd_there h p e).mono fun e w' ⟨q, K⟩ => by subst q; exact RQP.same h K
  | none =>
    cases hp : prioOk p with
    | false => simp only [Bool.false_eq_true, and_false, if_false, Option.getD_none, Option.isSome_none]; exact (rqadd_bad h e hp).mono fun e w' ⟨q, K⟩ => by subst q; exact RQP.same h K
    | true => simp only [and_self, if_true, Option.getD_some, Option.isSome_some]; exact rqadd_yes h e hp hL
theorem rqrem {base : Nat} {w : World} {y : Nat} {a : Option Addr} {cap : Nat} {L L' : List (Int × Int)} (hq : QOk L) (h : RQ base w y a cap L) {t : Int} {is : Bool} (h1 : qDel L t = L') (h2 : (qAt L t).isSome = is) :
    Calls Try.prog 11 #[.pointer (some ⟨y, 0, none⟩), .int .i64 t] w (RQP base y w (.bool is) L') := by
  subst h1 h2
  cases e : qAt L t with
  | none => rw [qDel_none e]; exact (rqrem_no h e).mono fun e w' ⟨q, K⟩ => by subst q; exact RQP.same h K
  | some i => rw [← qDel_some hq e]; exact rqrem_yes h e
theorem RQP.trans {base y : Nat} {w w1 w2 : World} {v : Value} {e : Ending} {L : List (Int × Int)} (K : Kp [y] w w1) (h : RQP base y w1 v L e w2) : RQP base y w v L e w2 := ⟨h.1, h.2.1, K.then h.2.2⟩
set_option maxHeartbeats 1000000 in
theorem rqset {base : Nat} {w : World} {y : Nat} {a : Option Addr} {cap : Nat} {L L' : List (Int × Int)} (hq : QOk L) (h : RQ base w y a cap L) {t p : Int} {is : Bool} (h1 : (qSet L t p).getD L = L') (h2 : (qSet L t p).isSome = is) :
    Calls Try.prog 13 #[.pointer (some ⟨y, 0, none⟩), .int .i64 t, .int .i64 p] w (RQP base y w (.bool is) L') := by
  subst h1 h2
  have H := hide h
  cases e : qPr L t with
  | none =>
    have e1 : qSet L t p = none := by unfold qSet; rw [e]
    rw [e1]
    have he := hide (show (qPr L t).getD 0 = 0 by rw [e]; rfl)
    have hi := hide (show (qPr L t).isSome = false by rw [e]; rfl)
    clear h e e1
    go_enter Try.func13, Try.ntmps13
    go_wp2_with fail
    refine (rqprio_to (unhide H) (unhide he) (unhide hi)).mono ?_
    rintro e W0 ⟨rfl, K0⟩
    replace K0 := hide K0
    go_wp2
    go_ret
    exact RQP.same (unhide H) (unhide K0)
  | some q =>
    have he := hide (show (qPr L t).getD 0 = q by rw [e]; rfl)
    have hi := hide (show (qPr L t).isSome = true by rw [e]; rfl)
    obtain ⟨i, hai, hLi⟩ := qPr_some e
    have hless := hide (qDel_less (List.mem_of_getElem? hLi))
    have hs := h.small
    cases hp : prioOk p with
    | false =>
      have e1 : qSet L t p = none := by unfold qSet; rw [e]; exact if_neg ((prioOk_not p).1 hp)
      rw [e1]
      replace hp := hide hp
      clear h e e1 hai hLi
      go_enter Try.func13, Try.ntmps13
      go_wp2_with fail
      refine (rqprio_to (unhide H) (unhide he) (unhide hi)).mono ?_
      rintro e W0 ⟨rfl, K0⟩
      replace K0 := hide K0
      go_wp2_with fail
      refine (rprio_to _ (unhide hp)).mono ?_
      rintro e W1 ⟨rfl, K1⟩
      replace K1 := hide K1
      go_wp2
      go_ret
      exact RQP.same (unhide H) ((unhide K0).then (unhide K1))
    | true =>
      by_cases hqp : q = p
      · have e1 : qSet L t p = some L := by unfold qSet; rw [e]; exact (if_pos ((prioOk_iff p).1 hp)).trans (if_pos hqp)
        rw [e1]
        subst hqp
        replace hp := hide hp
        clear h e e1 hai hLi
        go_enter Try.func13, Try.ntmps13
        go_wp2_with fail
        refine (rqprio_to (unhide H) (unhide he) (unhide hi)).mono ?_
        rintro e W0 ⟨rfl, K0⟩
        replace K0 := hide K0
        go_wp2_with fail
        refine (rprio_to _ (unhide hp)).mono ?_
        rintro e W1 ⟨rfl, K1⟩
        replace K1 := hide K1
        go_wp2
        go_ret
        exact RQP.same (unhide H) ((unhide K0).then (unhide K1))
      · have e1 : qSet L t p = some (qDel L t ++ [(t, p)]) := by unfold qSet; rw [e]; exact (if_pos ((prioOk_iff p).1 hp)).trans (if_neg hqp)
        rw [e1]
        have hqp' : (q == p) = false := beq_eq_false_iff_ne.2 hqp
        have hat := hide (show (qAt L t).isSome = true by rw [hai]; rfl)
        have hadd := hide (show qAdd (qDel L t) t p = some (qDel L t ++ [(t, p)]) from if_pos ⟨qDel_gone L t, hp⟩)
        replace hp := hide hp
        clear h e e1 hai hLi hqp
        go_enter Try.func13, Try.ntmps13
        go_wp2_with fail
        refine (rqprio_to (unhide H) (unhide he) (unhide hi)).mono ?_
        rintro e W0 ⟨rfl, K0⟩
        replace K0 := hide K0
        go_wp2_with fail
        refine (rprio_to _ (unhide hp)).mono ?_
        rintro e W1 ⟨rfl, K1⟩
        replace K1 := hide ((unhide K0).then K1)
        go_wp2_with fail
        refine (rqrem hq ((unhide H).grew (unhide K1)) rfl (unhide hat)).mono ?_
        rintro e W2 ⟨rfl, ⟨a2, c2, R2⟩, K2⟩
        replace R2 := hide R2
        replace K2 := hide (((unhide K1).mono (S' := [y]) (by simp)).then K2)
        go_wp2_with fail
        refine (rqadd (is := true) (unhide R2) (by have := unhide hless; omega) (L' := qDel L t ++ [(t, p)]) (by rw [unhide hadd]; exact Option.getD_some) (by rw [unhide hadd]; exact Option.isSome_some)).mono ?_
        rintro e W3 ⟨rfl, R3, K3⟩
        replace R3 := hide R3
        replace K3 := hide ((unhide K2).then K3)
        go_wp2
        go_ret
        exact ⟨rfl, unhide R3, unhide K3⟩
end Go.Proofs.Ytennmoaaieedpaa
