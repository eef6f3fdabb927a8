/- The document's maps: Get, Look, All. -/
import Derived.Test.YtlallciikcmjmaaKMaps0
namespace Go.Proofs.Ytlallciikcmjmaa
open Go.RowKit
set_option linter.unusedVariables false
def unitP (n : Int) : Prop := 1 ≤ n ∧ n ≤ 64
def decUnit (n : Int) : Decidable (unitP n) := by unfold unitP; exact (if h : _ then isTrue h else isFalse h)
def unitOk (n : Int) : Bool := @decide (unitP n) (decUnit n)
theorem unitOk_iff (n : Int) : unitOk n = true ↔ unitP n := by unfold unitOk; exact @decide_eq_true_iff _ (decUnit n)
set_option maxHeartbeats 400000 in
theorem runit_calls (n : Int) (w : World) :
    Calls Try.prog 37 #[.int .i64 n] w fun e w' => e = .returned (.bool (unitOk n)) ∧ Kp [] w w' := by
  obtain ⟨v1, h1⟩ : ∃ v, decide (1 ≤ n) = v := ⟨_, rfl⟩
  have HE := hide (show (v1 && decide (n ≤ 64)) = unitOk n from by rw [← h1]; refine Bool.eq_iff_iff.2 ?_; rw [unitOk_iff]; simp [unitP])
  cases v1 <;>
  · go_enter Try.func37, Try.ntmps37
    go_wp2
    go_ret
    exact ⟨ret_bool (unhide HE), Kp.refl _ _⟩
theorem runit_to {n : Int} {v : Bool} (w : World) (h : unitOk n = v) :
    Calls Try.prog 37 #[.int .i64 n] w fun e w' => e = .returned (.bool v) ∧ Kp [] w w' := by subst h; exact runit_calls n w
/-- What a page is mapped to. -/
def pgGet (L : List Pg) (s p : Int) : Option Pg := match pgAt L s p with | some i => L[i]? | none => none
theorem pgGet_some {L : List Pg} {s p : Int} {x : Pg} (h : pgGet L s p = some x) : ∃ i, pgAt L s p = some i ∧ L[i]? = some x := by
  unfold pgGet at h
  cases e : pgAt L s p with
  | none => rw [e] at h; cases h
  | some i => rw [e] at h; exact ⟨i, rfl, h⟩
theorem pgGet_none {L : List Pg} {s p : Int} (h : pgGet L s p = none) : pgAt L s p = none := by
  unfold pgGet at h
  cases e : pgAt L s p with
  | none => rfl
  | some i =>
    rw [e] at h
    obtain ⟨x, hx, _⟩ := pgAt_some e
    simp only [hx] at h
    cases h
theorem pg_two {w W1 : World} {T T' : TypeId} {a : Array Value} {vs : List Value} (K1 : Kp [] ((w.alloc (.cells a T)).alloc (.cells vs.toArray T')) W1) : Bk W1 (w.heap.size + 1) T' vs ∧ Kp [] w W1 :=
  ⟨Bk.kept (Gr.bk_next (w.alloc (.cells a T)) T' vs (by simp)) K1 (by simp), (((Kp.refl [] w).alloc _).alloc _).then K1⟩
theorem two_st {S : List Nat} {w w' : World} (h : Kp S w w') {p : Nat} (hp : w.heap.size ≤ p) (a b : Value) : Kp S w ((w'.setCell ⟨p, 0, none⟩ a).setCell ⟨p, 1, none⟩ b) := (h.setCell (.inr hp) _).setCell (.inr hp) _
set_option maxHeartbeats 400000 in
theorem rpget_no {base : Nat} {w : World} {y : Nat} {a : Option Addr} {cap : Nat} {L : List Pg} (h : RP base w y a cap L) {s p : Int} (hn : pgGet L s p = none) :
    Calls Try.prog 21 #[.pointer (some ⟨y, 0, none⟩), .agg #[.int .i64 s, .int .i64 p]] w fun e w' => e = .returned (.tuple #[.agg #[.int .i64 0, .int .i64 0], .bool false]) ∧ Kp [] w w' := by
  have H := hide (h.grew (((Kp.refl [] w).alloc (.cells #[.int .i64 s, .int .i64 p] 30)).alloc (.cells #[.int .i64 0, .int .i64 0] 34)))
  have HA := hide (pgI_none (pgGet_none hn))
  clear h hn
  go_enter Try.func21, Try.ntmps21
  go_wp2_with fail
  refine (rpat_to (unhide H) (unhide HA)).mono ?_
  rintro e W1 ⟨rfl, K1⟩
  obtain ⟨B2, K2⟩ := pg_two (vs := [.int .i64 0, .int .i64 0]) K1
  clear K1
  have e0 := B2.cell (i := 0) rfl
  have e1 := B2.cell (i := 1) rfl
  have f0 := B2.frozen
  clear B2
  replace K2 := hide K2
  go_wp2
  exact bodyPost_ret (v := .tuple #[.agg #[.int .i64 0, .int .i64 0], .bool false]) (by simp [results, Try.results21, go_sem, *]) rfl ⟨rfl, two_st (unhide K2) (by simp) _ _⟩
set_option maxHeartbeats 400000 in
theorem rpget_yes {base : Nat} {w : World} {y : Nat} {a : Option Addr} {cap : Nat} {L : List Pg} (h : RP base w y a cap L) {s p : Int} {x : Pg} (hn : pgGet L s p = some x) :
    Calls Try.prog 21 #[.pointer (some ⟨y, 0, none⟩), .agg #[.int .i64 s, .int .i64 p]] w fun e w' => e = .returned (.tuple #[.agg #[.int .i64 x.f, .int .i64 x.r], .bool true]) ∧ Kp [] w w' := by
  obtain ⟨i, hA, hx⟩ := pgGet_some hn
  have hi : i < L.length := (List.getElem?_eq_some_iff.1 hx).1
  have hs := h.small
  obtain ⟨g, rfl⟩ := h.addr (by omega)
  have H := hide h
  have H0 := hide (h.grew (((Kp.refl [] w).alloc (.cells #[.int .i64 s, .int .i64 p] 30)).alloc (.cells #[.int .i64 0, .int .i64 0] 34)))
  have HA := hide (pgI_some hA)
  have b1 : (i : Int) < (L.length : Int) := by omega
  have b2 : ((i : Int)).toNat = i := Int.toNat_natCast i
  have b3 : decide ((i : Int) < 0) = false := decide_eq_false (by omega)
  have HX := hide hx
  obtain ⟨xs, xp, xf, xr⟩ := x
  clear h hn hx hA
  go_enter Try.func21, Try.ntmps21
  go_wp2_with fail
  refine (rpat_to (unhide H0) (unhide HA)).mono ?_
  rintro e W1 ⟨rfl, K1⟩
  obtain ⟨B2, K2⟩ := pg_two (vs := [.int .i64 0, .int .i64 0]) K1
  have R1 := (unhide H).grew K2
  clear K1
  have e0 := B2.cell (i := 0) rfl
  have e1 := B2.cell (i := 1) rfl
  have f0 := B2.frozen
  have c0 := R1.head.cell (i := 0) rfl
  obtain ⟨_, _, x2, x3⟩ := R1.cells (unhide HX)
  clear B2 R1
  replace K2 := hide K2
  go_wp2
  exact bodyPost_ret (v := .tuple #[.agg #[.int .i64 xf, .int .i64 xr], .bool true]) (by simp [results, Try.results21, go_sem, *]) rfl ⟨rfl, two_st (unhide K2) (by simp) _ _⟩
/-- Where n bytes from an address on lead. -/
def pgLook (L : List Pg) (s a n r : Int) : Option (Int × Int) :=
  if a / 512 ≥ 8 then none else match pgGet L s (a / 512) with
  | none => none
  | some x => if n < 0 ∨ n > 512 - a % 512 ∨ bits .and .i64 x.r r ≠ r then none else some (x.f, a % 512)
def lookV (o : Option (Int × Int)) : Value := match o with | none => .tuple #[.int .i64 0, .int .i64 0, .bool false] | some q => .tuple #[.int .i64 q.1, .int .i64 q.2, .bool true]
set_option maxHeartbeats 400000 in
theorem rplook_calls {base : Nat} {w : World} {y : Nat} {ad : Option Addr} {cap : Nat} {L : List Pg} (h : RP base w y ad cap L) (s a n r : Int) (h0 : 0 ≤ a) (h1 : a < 4294967296) :
    Calls Try.prog 25 #[.pointer (some ⟨y, 0, none⟩), .int .i64 s, .int .u32 a, .int .i64 n, .int .i64 r] w fun e w' => e = .returned (lookV (pgLook L s a n r)) ∧ Kp [] w w' := by
  have H := hide h
  clear h
  by_cases ha : a / 512 ≥ 8
  · have hv : Hid (pgLook L s a n r = none) := by unfold pgLook Hid; rw [if_pos ha]
    go_enter Try.func25, Try.ntmps25
    go_wp2_with fail
    exact bodyPost_ret (v := .tuple #[.int .i64 0, .int .i64 0, .bool false]) (by simp [results, Try.results25, go_sem, *]) rfl ⟨by rw [unhide hv]; rfl, Kp.refl _ _⟩
  have hq : decide (8 ≤ a / 512) = false := decide_eq_false (by omega)
  obtain ⟨o, ho⟩ : ∃ o, pgGet L s (a / 512) = o := ⟨_, rfl⟩
  cases o with
  | none =>
    have hv : Hid (pgLook L s a n r = none) := by unfold pgLook Hid; rw [if_neg ha, ho]
    replace ho := hide ho
    go_enter Try.func25, Try.ntmps25
    go_wp2_with fail
    refine (rpget_no (unhide H) (unhide ho)).mono ?_
    rintro e W1 ⟨rfl, K1⟩
    replace K1 := hide K1
    go_wp2
    exact bodyPost_ret (v := .tuple #[.int .i64 0, .int .i64 0, .bool false]) (by simp [results, Try.results25, go_sem, *]) rfl ⟨by rw [unhide hv]; rfl, (unhide K1).alloc _⟩
  | some x =>
    obtain ⟨xs, xp, xf, xr⟩ := x
    have hv : Hid (pgLook L s a n r = if n < 0 ∨ n > 512 - a % 512 ∨ bits .and .i64 xr r ≠ r then none else some (xf, a % 512)) := by unfold pgLook Hid; rw [if_neg ha, ho]
    replace ho := hide ho
    go_enter Try.func25, Try.ntmps25
    go_wp2_with fail
    refine (rpget_yes (unhide H) (unhide ho)).mono ?_
    rintro e W1 ⟨rfl, K1⟩
    replace K1 := hide K1
    clear ho hq ha
    go_wp2_with fail
    all_goals first
      | (refine bodyPost_ret (v := .tuple #[.int .i64 0, .int .i64 0, .bool false]) (by simp [results, Try.results25, go_sem, *]) rfl ⟨?_, (unhide K1).alloc _⟩
         rename_i q
         rw [unhide hv, if_pos (by first | exact .inl q | exact .inr (.inl q) | exact q.elim (fun q => q.elim .inl (fun q => .inr (.inl q))) (fun q => .inr (.inr (by simpa using q))))]
         rfl)
      | (refine bodyPost_ret (v := .tuple #[.int .i64 xf, .int .i64 (a % 512), .bool true]) (by simp [results, Try.results25, go_sem, *]) rfl ⟨?_, (unhide K1).alloc _⟩
         rename_i q
         rw [unhide hv, if_neg (fun H => by rcases H with H | H | H <;> first | omega | exact H (by simpa using q.2))]
         rfl)
/-- The pages of these. -/
def pageE : Gr.Enc (Int × Int) 30 2 := ⟨fun x => [.int .i64 x.1, .int .i64 x.2], fun _ => rfl, fun x v hv => by
  simp only [List.mem_cons, List.not_mem_nil, or_false] at hv
  rcases hv with rfl | rfl <;> rfl⟩
theorem Try.infoPage : (Try.prog.info? 30).map (fun i => (i.zero, i.size, i.bytes)) = some (some (.agg #[.int .i64 0, .int .i64 0]), 2, 16) := by kernel_rfl
def pgs (L : List Pg) : List (Int × Int) := L.map fun x => (x.s, x.p)
def ListG (w : World) (ps : List (Int × Int)) (e : Ending) (w' : World) : Prop := ∃ v, e = .returned v ∧ Gr.Rw pageE w.heap.size w' v ps ∧ Kp [] w w'
theorem pgs_take {L : List Pg} {j : Nat} {x : Pg} (hx : L[j]? = some x) : pgs (L.take (j + 1)) = pgs (L.take j) ++ [(x.s, x.p)] := by
  obtain ⟨hj, rfl⟩ := List.getElem?_eq_some_iff.1 hx
  unfold pgs
  rw [List.take_succ_eq_append_getElem hj, List.map_append]
  rfl
theorem pgs_len (L : List Pg) : (pgs L).length = L.length := by unfold pgs; rw [List.length_map]
set_option maxHeartbeats 1000000 in
theorem rpall_calls {base : Nat} {w : World} {y : Nat} {a : Option Addr} {cap : Nat} {L : List Pg} (h : RP base w y a cap L) :
    Calls Try.prog 23 #[.pointer (some ⟨y, 0, none⟩)] w (ListG w (pgs L)) := by
  have hs := h.small
  have H := hide h
  clear h
  go_enter Try.func23, Try.ntmps23
  go_wp2_with fail
  go_loopg [3, 4] L.length (fun m v i wx => ∃ j : Nat, j ≤ L.length ∧ m = L.length - j ∧ i = .int .i64 j ∧ Gr.Rw pageE w.heap.size wx v (pgs (L.take j)) ∧ Kp [] w wx)
  case atStart => exact ⟨0, Nat.zero_le _, rfl, rfl, Gr.Rw.nil _ _, Kp.refl _ _⟩
  case round =>
    obtain ⟨j, hj, rfl, rfl, hP, hK⟩ := hrel
    have hR := (unhide H).grew hK
    have c0 := hR.head.cell (i := 0) rfl
    by_cases hlt : j < L.length
    · obtain ⟨g, rfl⟩ := hR.addr (by omega)
      obtain ⟨x, hx⟩ : ∃ x, L[j]? = some x := ⟨_, List.getElem?_eq_getElem hlt⟩
      obtain ⟨x0, x1, _, _⟩ := hR.cells hx
      obtain ⟨xs, xp, xf, xr⟩ := x
      simp only at x0 x1
      have b1 : (j : Int) < (L.length : Int) := by omega
      have b2 : ((j : Int)).toNat = j := Int.toNat_natCast j
      have hmore := hide (pgs_take hx)
      have hlen : (pgs (L.take j)).length ≤ 1048575 := by rw [pgs_len, List.length_take]; omega
      replace hlen := hide hlen
      clear hR hx
      replace hP := hide hP
      replace hK := hide hK
      go_wp2_with (first
        | (at_builtin; refine Gr.list_app (E := pageE) Try.underlying27 Try.infoPage rfl (by decide) (by decide) rfl _ _ rfl w.heap.size _ _ (pgs (L.take j)) [(xs, xp)] rfl rfl ((unhide hP).grew ((Kp.refl [] wr).alloc _)) (Gr.src_one (Bk.new wr 30 [.int .i64 xs, .int .i64 xp]) rfl) ?c2 ?c3 ?_)
        | go_in)
      case c2 => exact unhide hlen
      case c3 => have := (unhide hK).size; simp; omega
      intro v' w1 hown' hgrow hnil
      have hP1 : Hid (Gr.Rw pageE w.heap.size w1 v' (pgs (L.take (j + 1)))) := by
        unfold Hid
        rw [unhide hmore]
        exact hown'
      have hK1 := hide (Gr.kp_grown ((unhide hK).alloc _) hgrow (fun k hk => ((unhide hP).lt hk).1))
      clear hP hK hmore hown' hgrow hnil
      go_wp2
      go_roundg (L.length - (j + 1))
      case measure => omega
      case rel => exact ⟨j + 1, by omega, rfl, by go_num, unhide hP1, unhide hK1⟩
    · have b1 : decide ((j : Int) < (L.length : Int)) = false := decide_eq_false (by omega)
      rw [List.take_of_length_le (show L.length ≤ j by omega)] at hP
      replace hP := hide hP
      replace hK := hide hK
      clear hR
      go_wp2
      go_ret
      exact ⟨_, rfl, unhide hP, unhide hK⟩
end Go.Proofs.Ytlallciikcmjmaa
