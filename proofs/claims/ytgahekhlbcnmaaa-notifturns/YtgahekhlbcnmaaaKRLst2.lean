/- The document's list at a block: where one stands, Has, Push, Pop, Drop. -/
import Derived.Test.YtgahekhlbcnmaaaKRLst1
namespace Go.Proofs.Ytgahekhlbcnmaaa
open Go.RowKit
set_option linter.unusedVariables false
set_option linter.unusedSimpArgs false
/-- Where an ID stands. -/
def lAt (L : List (Int × Int)) (q : Int × Int) : Option Nat := L.findIdx? fun x => decide (x = q)
def lI (L : List (Int × Int)) (q : Int × Int) : Int := match lAt L q with | some i => (i : Int) | none => -1
theorem lAt_some {L : List (Int × Int)} {q : Int × Int} {i : Nat} (h : lAt L q = some i) : L[i]? = some q := by
  unfold lAt at h
  obtain ⟨hi, h1, _⟩ := List.findIdx?_eq_some_iff_getElem.1 h
  rw [List.getElem?_eq_getElem hi]
  have e : L[i] = q := by simpa using h1
  rw [e]
theorem lAt_none {L : List (Int × Int)} {q : Int × Int} (h : lAt L q = none) : q ∉ L := by
  intro hp
  unfold lAt at h
  have := List.findIdx?_eq_none_iff.1 h _ hp
  simp at this
theorem lAt_in {L : List (Int × Int)} {q : Int × Int} (h : q ∈ L) : ∃ i, lAt L q = some i := by
  cases e : lAt L q with
  | none => exact (lAt_none e h).elim
  | some i => exact ⟨i, rfl⟩
theorem lAt_out {L : List (Int × Int)} {q : Int × Int} (h : q ∉ L) : lAt L q = none := by
  cases e : lAt L q with
  | none => rfl
  | some i => exact (h (List.mem_of_getElem? (lAt_some e))).elim
theorem lAt_hit {L : List (Int × Int)} {q : Int × Int} {j : Nat} (h : ∀ l, l < j → ∀ x, L[l]? = some x → x ≠ q) (hx : L[j]? = some q) : lAt L q = some j := by
  obtain ⟨hj, hx⟩ := List.getElem?_eq_some_iff.1 hx
  unfold lAt
  refine List.findIdx?_eq_some_iff_getElem.2 ⟨hj, by rw [hx]; simp, fun l hl => ?_⟩
  have := h l hl _ (List.getElem?_eq_getElem (by omega))
  simpa using this
theorem lAt_miss {L : List (Int × Int)} {q : Int × Int} (h : ∀ l, l < L.length → ∀ x, L[l]? = some x → x ≠ q) : lAt L q = none := by
  refine lAt_out fun hq => ?_
  obtain ⟨l, hl, e⟩ := List.mem_iff_getElem.1 hq
  exact h l hl _ (List.getElem?_eq_getElem hl) e
theorem l_more {L : List (Int × Int)} {q : Int × Int} {j : Nat} {x : Int × Int} (h : ∀ l, l < j → ∀ x, L[l]? = some x → x ≠ q) (hx : L[j]? = some x) (hn : x ≠ q) : ∀ l, l < j + 1 → ∀ x, L[l]? = some x → x ≠ q := by
  intro l hl z hz
  by_cases e : l = j
  · subst e; rw [hx] at hz; cases hz; exact hn
  · exact h l (by omega) z hz
theorem lI_some {L : List (Int × Int)} {q : Int × Int} {i : Nat} (h : lAt L q = some i) : lI L q = (i : Int) := by unfold lI; rw [h]
theorem lI_none {L : List (Int × Int)} {q : Int × Int} (h : lAt L q = none) : lI L q = -1 := by unfold lI; rw [h]
theorem lI_has (L : List (Int × Int)) (q : Int × Int) : decide (0 ≤ lI L q) = lHas L q := by
  by_cases h : q ∈ L
  · obtain ⟨i, hi⟩ := lAt_in h
    rw [lI_some hi, lHas_yes h]
    exact decide_eq_true (by omega)
  · rw [lI_none (lAt_out h), lHas_no h]
    rfl
/-- The document's list at block y, in memory newer than base. -/
structure RL (base : Nat) (w : World) (y o : Nat) (U : TypeId) (pre post : List Value) (a : Option Addr) (cap : Nat) (L : List (Int × Int)) : Prop where
  head : Hd w y o U pre post [.slice a L.length cap]
  rd : Gr.Ro idE base w (.slice a L.length cap) L
  new : base ≤ y
  small : L.length ≤ 65536
  ne : 27 ≠ U
theorem RL.kept {base : Nat} {w w' : World} {y o : Nat} {U : TypeId} {pre post : List Value} {a : Option Addr} {cap : Nat} {L : List (Int × Int)} {S : List Nat} (h : RL base w y o U pre post a cap L) (k : Kp S w w') (hy : y ∉ S) (ha : ∀ g, (Value.slice a L.length cap).ownBlock = some g → g ∉ S) : RL base w' y o U pre post a cap L :=
  ⟨h.head.kept k hy, h.rd.kept k ha, h.new, h.small, h.ne⟩
theorem RL.grew {base : Nat} {w w' : World} {y o : Nat} {U : TypeId} {pre post : List Value} {a : Option Addr} {cap : Nat} {L : List (Int × Int)} (h : RL base w y o U pre post a cap L) (k : Kp [] w w') : RL base w' y o U pre post a cap L := h.kept k (by simp) (by simp)
theorem RL.start (base : Nat) (w : World) (hb : base ≤ w.heap.size) : RL base (w.alloc (.cells #[.slice none 0 0] 42)) w.heap.size 0 42 [] [] none 0 [] :=
  ⟨.of (Bk.new w _ [.slice none 0 0]), .nil _ _, hb, by simp, by decide⟩
theorem RL.addr {base : Nat} {w : World} {y o : Nat} {U : TypeId} {pre post : List Value} {a : Option Addr} {cap : Nat} {L : List (Int × Int)} (h : RL base w y o U pre post a cap L) (hp : 0 < L.length) : ∃ g off, a = some ⟨g, off, none⟩ := by
  obtain ⟨g, off, e, _⟩ := h.rd.addr hp
  exact ⟨g, off, e⟩
theorem RL.any {base : Nat} {w : World} {y o : Nat} {U : TypeId} {pre post : List Value} {a : Option Addr} {cap : Nat} {L : List (Int × Int)} (h : RL base w y o U pre post a cap L) : ∀ ad, a = some ad → ∃ b off, ad = ⟨b, off, none⟩ := by
  intro ad e
  subst e
  rcases h.rd with ⟨e, _⟩ | ⟨g, off, c, cs, e, _⟩
  · cases e
  · cases e; exact ⟨g, off, rfl⟩
theorem RL.cells {base : Nat} {w : World} {y o g off : Nat} {U : TypeId} {pre post : List Value} {cap : Nat} {L : List (Int × Int)} (h : RL base w y o U pre post (some ⟨g, off, none⟩) cap L) {i : Nat} {x : Int × Int} (hx : L[i]? = some x) : w.cell? ⟨g, off + i * 2, none⟩ = some (.int .i64 x.1) ∧ w.cell? ⟨g, off + i * 2 + 1, none⟩ = some (.int .i64 x.2) := by
  refine ⟨h.rd.cell (j := 0) hx rfl, ?_⟩
  have := h.rd.cell (j := 1) hx rfl
  rwa [← Nat.add_assoc] at this
set_option maxHeartbeats 1000000 in
theorem rlat {base : Nat} {w : World} {y o : Nat} {U : TypeId} {pre post : List Value} {a : Option Addr} {cap : Nat} {L : List (Int × Int)} (h : RL base w y o U pre post a cap L) {q1 q2 i : Int} (hi : lI L (q1, q2) = i) :
    Calls Try.prog 24 #[.pointer (some ⟨y, o, none⟩), .agg #[.int .i64 q1, .int .i64 q2]] w fun e w' => e = .returned (.int .i64 i) ∧ Kp [] w w' := by
  subst hi
  have hs := h.small
  have H0 := hide h
  have K0 := hide ((Kp.refl [] w).alloc (.cells #[.int .i64 q1, .int .i64 q2] 27))
  have P0 := hide (Bk.new w 27 [.int .i64 q1, .int .i64 q2])
  clear h
  go_enter Try.func24, Try.ntmps24
  go_wp2_with fail
  generalize w.alloc (.cells #[.int .i64 q1, .int .i64 q2] 27) = w1 at *
  go_loopg [5] L.length (fun m i wx => ∃ j : Nat, j ≤ L.length ∧ m = L.length - j ∧ i = .int .i64 j ∧ (∀ l, l < j → ∀ x, L[l]? = some x → x ≠ (q1, q2)) ∧ Kp [] w1 wx)
  case atStart => exact ⟨0, Nat.zero_le _, rfl, rfl, fun l hl => by omega, Kp.refl _ _⟩
  case round =>
    obtain ⟨j, hj, rfl, rfl, hnot, hK⟩ := hrel
    have hR := (unhide H0).grew ((unhide K0).then hK)
    have c0 := hR.head.cell0 rfl
    have p0 := ((unhide P0).kept hK (by simp)).cell (i := 0) rfl
    have p1 := ((unhide P0).kept hK (by simp)).cell (i := 1) rfl
    by_cases hlt : j < L.length
    · obtain ⟨g, off, rfl⟩ := hR.addr (by omega)
      obtain ⟨x, hx⟩ : ∃ x, L[j]? = some x := ⟨_, List.getElem?_eq_getElem hlt⟩
      obtain ⟨x0, x1⟩ := hR.cells hx
      have b1 : (j : Int) < (L.length : Int) := by omega
      have b2 : ((j : Int)).toNat = j := Int.toNat_natCast j
      obtain ⟨xs, xp⟩ := x
      simp only at x0 x1
      obtain ⟨v, hv⟩ : ∃ v : Bool, decide ((xs, xp) = (q1, q2)) = v := ⟨_, rfl⟩
      have heq := fun w' => eq_id xs xp q1 q2 w'
      rw [hv] at heq
      replace hv := hide hv
      clear hR
      replace hK := hide hK
      replace hnot := hide hnot
      have hx' := hide hx
      clear hx
      cases v with
      | true =>
        go_wp2_with fail
        go_quiet (fail)
        go_wp2
        go_ret
        have hq : (xs, xp) = (q1, q2) := of_decide_eq_true (unhide hv)
        have hx2 := unhide hx'
        rw [hq] at hx2
        exact ⟨ret_int (lI_some (lAt_hit (unhide hnot) hx2)).symm, ((unhide K0).then (unhide hK)).drewN _⟩
      | false =>
        go_wp2_with fail
        go_quiet (fail)
        go_wp2
        go_roundg (L.length - (j + 1))
        case measure => omega
        case rel => exact ⟨j + 1, by omega, rfl, by go_num, l_more (unhide hnot) (unhide hx') (of_decide_eq_false (unhide hv)), (unhide hK).drewN _⟩
    · have b1 : decide ((j : Int) < (L.length : Int)) = false := decide_eq_false (by omega)
      clear hR
      replace hK := hide hK
      replace hnot := hide hnot
      go_wp2
      go_ret
      exact ⟨ret_int (lI_none (lAt_miss (fun l hl => unhide hnot l (by omega)))).symm, (unhide K0).then (unhide hK)⟩
set_option maxHeartbeats 1000000 in
theorem rlhas {base : Nat} {w : World} {y o : Nat} {U : TypeId} {pre post : List Value} {a : Option Addr} {cap : Nat} {L : List (Int × Int)} (h : RL base w y o U pre post a cap L) {q1 q2 : Int} {is : Bool} (his : lHas L (q1, q2) = is) :
    Calls Try.prog 30 #[.pointer (some ⟨y, o, none⟩), .agg #[.int .i64 q1, .int .i64 q2]] w fun e w' => e = .returned (.bool is) ∧ Kp [] w w' := by
  rw [← lI_has] at his
  obtain ⟨i, hi⟩ : ∃ i, lI L (q1, q2) = i := ⟨_, rfl⟩
  rw [hi] at his
  replace hi := hide hi
  have K0 := hide ((Kp.refl [] w).alloc (.cells #[.int .i64 q1, .int .i64 q2] 27))
  have H := hide (h.grew (unhide K0))
  have c0 := (Bk.new w 27 [.int .i64 q1, .int .i64 q2]).cell (i := 0) rfl
  have c1 := (Bk.new w 27 [.int .i64 q1, .int .i64 q2]).cell (i := 1) rfl
  clear h
  go_enter Try.func30, Try.ntmps30
  go_wp2_with fail
  refine (rlat (unhide H) (unhide hi)).mono ?_
  rintro e W1 ⟨rfl, K1⟩
  have K2 := hide ((unhide K0).then K1)
  replace his := hide his
  clear c0 c1 K1
  go_wp2
  go_ret
  exact ⟨ret_bool (unhide his), unhide K2⟩
theorem hd_grown {w w' : World} {y o : Nat} {U : TypeId} {pre post vs : List Value} {row : Option Nat} (h : Hd w y o U pre post vs) (hg : w.grownBy w' row) (hn : some y ≠ row) : Hd w' y o U pre post vs := ⟨h.len, Gr.bk_grown h.bk hg hn⟩
/-- What a change of the document's list leaves. -/
def RLP (base y o : Nat) (U : TypeId) (pre post : List Value) (w : World) (v : Value) (L : List (Int × Int)) (e : Ending) (w' : World) : Prop := e = .returned v ∧ (∃ a cap, RL base w' y o U pre post a cap L) ∧ Kp [y] w w'
theorem RLP.same {base y o : Nat} {U : TypeId} {pre post : List Value} {w w' : World} {a : Option Addr} {cap : Nat} {L : List (Int × Int)} {v : Value} (h : RL base w y o U pre post a cap L) (K : Kp [] w w') : RLP base y o U pre post w v L (.returned v) w' := ⟨rfl, ⟨_, _, h.grew K⟩, K.mono (by simp)⟩
theorem RL.put {base base' : Nat} {w : World} {y o : Nat} {U : TypeId} {pre post : List Value} {v u : Value} {M : List (Int × Int)} (hrow : Gr.Ro idE base' w v M) (hb : base ≤ base') (ht : Hd w y o U pre post [u]) (hne : 27 ≠ U) (hby : base ≤ y) (hs : M.length ≤ 65536) :
    ∃ a cap, RL base (w.setCell ⟨y, o, none⟩ v) y o U pre post a cap M := by
  have hyv : ∀ g, v.ownBlock = some g → g ≠ y := fun g hg e => by
    subst e
    obtain ⟨_, cs, hc⟩ := hrow.lt hg
    have hb := ht.bk
    unfold Bk at hb
    rw [hb] at hc
    simp at hc
    exact hne hc.2.symm
  obtain ⟨a, c, rfl⟩ := hrow.form
  exact ⟨a, c, ht.set0 _ (by simp), (hrow.kept ((Kp.refl [y] w).setCell (.inl (by simp)) _) (fun g hg m => hyv g hg (List.mem_singleton.1 m))).mono hb, hby, hs, hne⟩
set_option maxHeartbeats 1000000 in
theorem rlpush_no {base : Nat} {w : World} {y o : Nat} {U : TypeId} {pre post : List Value} {a : Option Addr} {cap : Nat} {L : List (Int × Int)} (h : RL base w y o U pre post a cap L) {q1 q2 : Int} (hq : (q1, q2) ∈ L) :
    Calls Try.prog 22 #[.pointer (some ⟨y, o, none⟩), .agg #[.int .i64 q1, .int .i64 q2]] w fun e w' => e = .returned (.bool false) ∧ Kp [] w w' := by
  have hh := hide (lHas_yes hq)
  have K0 := hide ((Kp.refl [] w).alloc (.cells #[.int .i64 q1, .int .i64 q2] 27))
  have H := hide (h.grew (unhide K0))
  have c0 := (Bk.new w 27 [.int .i64 q1, .int .i64 q2]).cell (i := 0) rfl
  have c1 := (Bk.new w 27 [.int .i64 q1, .int .i64 q2]).cell (i := 1) rfl
  clear h hq
  go_enter Try.func22, Try.ntmps22
  go_wp2_with fail
  refine (rlhas (unhide H) (unhide hh)).mono ?_
  rintro e W1 ⟨rfl, K1⟩
  have K2 := hide ((unhide K0).then K1)
  clear c0 c1 K1
  go_wp2
  go_ret
  exact ⟨rfl, unhide K2⟩
set_option maxRecDepth 10000 in
set_option maxHeartbeats 4000000 in
theorem rlpush_yes {base : Nat} {w : World} {y o : Nat} {U : TypeId} {pre post : List Value} {a : Option Addr} {cap : Nat} {L : List (Int × Int)} (h : RL base w y o U pre post a cap L) {q1 q2 : Int} (hq : (q1, q2) ∉ L) (hL : L.length < 65536) :
    Calls Try.prog 22 #[.pointer (some ⟨y, o, none⟩), .agg #[.int .i64 q1, .int .i64 q2]] w (RLP base y o U pre post w (.bool true) (L ++ [(q1, q2)])) := by
  have hh := hide (lHas_no hq)
  have hyw := h.head.lt
  have hby := h.new
  have hbw : base ≤ w.heap.size := by omega
  replace hbw := hide hbw
  replace hyw := hide hyw
  replace hby := hide hby
  replace hL := hide hL
  have hall := hide h.any
  have hnU := hide h.ne
  have hsm := hide h.small
  have K0 := hide ((Kp.refl [] w).alloc (.cells #[.int .i64 q1, .int .i64 q2] 27))
  have H := hide (h.grew (unhide K0))
  have B0 := hide (Bk.new w 27 [.int .i64 q1, .int .i64 q2])
  have c0 := (unhide B0).cell (i := 0) rfl
  have c1 := (unhide B0).cell (i := 1) rfl
  clear h hq
  go_enter Try.func22, Try.ntmps22
  go_wp2_with fail
  refine (rlhas (unhide H) (unhide hh)).mono ?_
  rintro e W1 ⟨rfl, K1⟩
  have KW := hide ((unhide K0).then K1)
  have H1 := hide ((unhide H).grew K1)
  have B1 := hide ((unhide B0).kept K1 (by simp))
  clear c0 c1 K1 K0 H B0 hh
  go_upto_region 3 with fail
  have y0 := (unhide H1).head.cell0 rfl
  have b0 := (unhide B1).cell (i := 0) rfl
  have b1 := (unhide B1).cell (i := 1) rfl
  have yB := ((unhide H1).head.alloc (.cells #[.int .i64 q1, .int .i64 q2] 27)).cell0 rfl
  have KA := hide ((Kp.refl [] W1).drew)
  have KB := hide (((Kp.refl [] W1).alloc (.cells #[.int .i64 q1, .int .i64 q2] 27)).drew)
  have X1 := hide (Gr.bk_drew (Bk.new W1 27 [.int .i64 q1, .int .i64 q2]))
  have hlb : Hid (L.length + [(q1, q2)].length ≤ 1048576) := by have := unhide hL; unfold Hid; simp; omega
  have hw1 := hide (unhide KW).size
  go_region_law (first
    | (refine Gr.step_app (E := idE) Try.underlying34 Try.infoID rfl (by decide) (by decide) (by rfl) _ _ (by rfl) W1.heap.size (.slice a2 L.length c2) (.slice (some ⟨W2.heap.size, 0, none⟩) 1 1) L [(q1, q2)] (by rfl) (by rfl) ((unhide RA).grew ((Kp.refl [] W2).alloc _)) (Gr.src_one (Bk.new W2 27 [.int .i64 q1, .int .i64 q2]) rfl) (unhide hlb) ((unhide KA2).alloc _).size ?_; intro v3 w3 hrow hgrow hat; obtain ⟨a3, c3, rfl⟩ := hrow.form; have k3 := Gr.kp_grown ((unhide KA2).alloc _) hgrow (fun q hq => ((unhide RA).lt hq).1); have ht := (unhide H1).head.kept k3 (by simp); have f5 := ht.frozen; have c5 := ht.cell0 rfl; have K3 := hide k3; have R3 := hide hrow; have T3 := hide ht; clear hrow hgrow hat k3 ht)
    | (refine Gr.step_app (E := idE) Try.underlying34 Try.infoID rfl (by decide) (by decide) (by rfl) _ _ (by rfl) W1.heap.size (.slice a2 L.length c2) (.slice (some ⟨W1.heap.size, 0, none⟩) 1 1) L [(q1, q2)] (by rfl) (by rfl) (unhide RB) (Gr.src_one (unhide XB) rfl) (unhide hlb) (unhide KB2).size ?_; intro v3 w3 hrow hgrow hat; obtain ⟨a3, c3, rfl⟩ := hrow.form; have k3 := Gr.kp_grown (unhide KB2) hgrow (fun q hq => ((unhide RB).lt hq).1); have ht := (unhide H1).head.kept k3 (by simp); have f5 := ht.frozen; have c5 := ht.cell0 rfl; have K3 := hide k3; have R3 := hide hrow; have T3 := hide ht; clear hrow hgrow hat k3 ht)
    | (go_simp; go_at_call 25; refine (ids_calls ((unhide H1).grew (unhide KA)).rd.src (unhide hall) rfl (unhide hsm)).mono ?_; rintro e W2 ⟨v2, rfl, hrow, K2⟩; obtain ⟨a2, c2, rfl⟩ := hrow.form; have k2 := (unhide KA).then K2; have RA := hide (hrow.mono (Nat.le_refl W1.heap.size)); have b2 := ((unhide B1).kept k2 (by simp)).cell (i := 0) rfl; have b3 := ((unhide B1).kept k2 (by simp)).cell (i := 1) rfl; have KA2 := hide k2; clear hrow k2 K2; go_wp2_with fail)
    | (go_simp; go_at_call 25; refine (ids_calls ((unhide H1).grew (unhide KB)).rd.src (unhide hall) rfl (unhide hsm)).mono ?_; rintro e W2 ⟨v2, rfl, hrow, K2⟩; obtain ⟨a2, c2, rfl⟩ := hrow.form; have k2 := (unhide KB).then K2; have RB := hide (hrow.mono (unhide KB).size); have XB := hide ((unhide X1).kept K2 (by simp)); have KB2 := hide k2; clear hrow k2 K2; go_wp2_with fail))
  all_goals
    obtain ⟨a4, c4, X4⟩ := RL.put (base := base) (unhide R3).ro (by have := unhide hbw; have := unhide hw1; omega) (unhide T3) (unhide hnU) (unhide hby) (len_snoc (q1, q2) (unhide hL))
    have el : (L ++ [(q1, q2)]).length = L.length + 1 := by simp
    have K4 := (((unhide KW).then (unhide K3)).mono (S' := [y]) (by simp)).setCell (p := ⟨y, o, none⟩) (.inl (by simp)) (.slice a3 (L ++ [(q1, q2)]).length c3)
    rw [el] at X4 K4
    replace X4 := hide X4
    replace K4 := hide K4
    clear R3 T3 K3 el
    go_wp2
    go_ret
    exact ⟨rfl, ⟨a4, c4, unhide X4⟩, unhide K4⟩
end Go.Proofs.Ytgahekhlbcnmaaa
