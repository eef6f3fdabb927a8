/- The program's endpoint: all those out that are this one. -/
import Derived.Test.YthnpkojfkhndoaaKEpL2
import Derived.BigQuiet
import Derived.Shelf.Abstract
namespace Go.Proofs.Ythnpkojfkhndoaa
open Go.RowKit
set_option linter.unusedVariables false
set_option linter.unusedSimpArgs false
/-- These lie there to be read, at a place of a block, or nowhere. -/
def At {α : Type} {T : TypeId} {sz : Nat} (E : Gr.Enc α T sz) (w : World) (v : Value) (L : List α) : Prop :=
  (v = .slice none 0 0 ∧ L = []) ∨ ∃ g off c, v = .slice (some ⟨g, off, none⟩) L.length c ∧ ∀ i j x u, L[i]? = some x → (E.vals x)[j]? = some u → w.cell? ⟨g, off + i * sz + j, none⟩ = some u
theorem At.grew {α : Type} {T : TypeId} {sz : Nat} {E : Gr.Enc α T sz} {w w' : World} {v : Value} {L : List α} (h : At E w v L) (k : Kp [] w w') : At E w' v L := by
  rcases h with h | ⟨g, off, c, e, h⟩
  · exact .inl h
  · exact .inr ⟨g, off, c, e, fun i j x u hx hu => k.cell (h i j x u hx hu)⟩
theorem Gr.Rw.at_drop {α : Type} {T : TypeId} {sz : Nat} {E : Gr.Enc α T sz} {base : Nat} {w : World} {g n cap : Nat} {C : List α} (h : Gr.Rw E base w (.slice (some ⟨g, 0, none⟩) n cap) C) {k : Nat} (hk : k ≤ C.length) (c : Nat) : At E w (.slice (some ⟨g, k * sz, none⟩) (C.length - k) c) (C.drop k) := by
  refine .inr ⟨g, k * sz, c, by rw [List.length_drop], fun i j x u hx hu => ?_⟩
  rw [List.getElem?_drop] at hx
  have := h.cell hx hu
  rwa [Nat.add_mul] at this
theorem at_none {α : Type} {T : TypeId} {sz : Nat} {E : Gr.Enc α T sz} {w : World} {a : Addr} {n c : Nat} {L : List α} (hL : L = []) (hn : n = 0) (ha : ∃ g off, a = ⟨g, off, none⟩) : At E w (.slice (some a) n c) L := by
  obtain ⟨g, off, rfl⟩ := ha
  subst hL hn
  exact .inr ⟨g, off, c, rfl, fun i j x u hx _ => by cases i <;> cases hx⟩
/-- The closure: is it this one? -/
theorem mis {w : World} {q : Nat} {p1 p2 : Int} (hq : Bk w q 39 [.int .i64 p1, .int .i64 p2]) (q1 q2 wd bd : Int) (cl : Bool) :
    Calls Try.prog 20 #[.agg #[.int .i64 q1, .int .i64 q2, .int .u32 wd, .int .i64 bd, .bool cl], .pointer (some ⟨q, 0, none⟩)] w (fun e w' => e = .returned (.bool (decide ((q1, q2) = (p1, p2)))) ∧ Kp [] w w') := by
  have K1 := (Kp.refl [] w).alloc (.cells #[.int .i64 q1, .int .i64 q2, .int .u32 wd, .int .i64 bd, .bool cl] 47)
  have c0 := (hq.kept K1 (by simp)).cell (i := 0) rfl
  have c1 := (hq.kept K1 (by simp)).cell (i := 1) rfl
  have he := fun w' => eqi q1 q2 p1 p2 w'
  replace K1 := hide K1
  clear hq
  go_enter Try.func20, Try.ntmps20
  go_wp2
  go_ret
  have e : decide ((q1, q2) = (p1, p2)) = (decide (q1 = p1) && decide (q2 = p2)) := by by_cases h1 : q1 = p1 <;> by_cases h2 : q2 = p2 <;> simp [h1, h2]
  rw [e]
  exact ⟨rfl, unhide K1⟩
set_option maxRecDepth 8000 in
set_option maxHeartbeats 8000000 in
theorem mdrop {base : Nat} {w : World} {t : Nat} {v u2 u3 : Value} {k : Nat} {C L L' : List Ms} {is : Bool} (h : Bk w t 31 [v, .int .i64 (k : Int), u2, u3]) (hr : Gr.Rw (msE 47) base w v C) (hk : k ≤ C.length) (hd : C.drop k = L) (hl : C.length ≤ 262144) {q : Nat} {p1 p2 : Int} (hq : Bk w q 39 [.int .i64 p1, .int .i64 p2]) (hL' : L.filter (msN (p1, p2)) = L') (his : decide (L'.length < L.length) = is) :
    Calls Try.prog 19 #[.pointer (some ⟨t, 0, none⟩), .func (.func 20) #[] #[.pointer (some ⟨q, 0, none⟩)]] w (fun e w' => e = .returned (.bool is) ∧ ∃ v', Bk w' t 31 [v', .int .i64 0, u2, u3] ∧ Gr.Rw (msE 47) w.heap.size w' v' L' ∧ Kp [t] w w') := by
  have eg : ∀ args w, (callFunc 20 args).run Try.prog w = .ok (.enter 20 args) w := enters_of Try.func20 (by kernel_rfl) rfl
  obtain ⟨n, hn⟩ : ∃ n, C.length - k = n := ⟨_, rfl⟩
  have hLn : L.length = n := by rw [← hn, ← hd, List.length_drop]
  obtain ⟨a0, cc, rfl⟩ := hr.form
  have htl := hide h.lt
  have c0 := h.cell (i := 0) rfl
  have c1 := h.cell (i := 1) rfl
  have b0 : (0 : Int) ≤ (k : Int) := by omega
  have b3 : ((k : Int)).toNat = k := Int.toNat_natCast k
  go_enter Try.func19, Try.ntmps19
  go_upto_region 2 with fail
  go_cut [17, 18, 19] (fun sv nv iv wx => (∃ a c, sv = .slice a n c ∧ At (msE 47) wx (.slice a n c) L) ∧ nv = .int .i64 (n : Int) ∧ iv = .int .i64 0 ∧ Kp [] w wx)
  case first =>
    rcases hr.addr with ⟨e, rfl⟩ | ⟨g, cap, e, _, _, h1, h2⟩ <;> cases e
    · obtain rfl : k = 0 := by simpa using hk
      obtain rfl : n = 0 := by rw [← hn]; rfl
      obtain rfl : L = [] := by rw [← hd]; rfl
      go_quiet (fail)
      go_wp2
      go_meet
      case rel => exact ⟨⟨_, _, rfl, .inl ⟨rfl, rfl⟩⟩, rfl, rfl, (Kp.refl [] w).drewN _⟩
    · have b1 : (k : Int) ≤ (C.length : Int) := by omega
      have b2 : (C.length : Int) ≤ (cc : Int) := by omega
      by_cases hck : cc = k
      · have hA := hide (at_none (E := msE 47) (w := w) (a := ⟨g, 0, none⟩) (n := n) (c := 0) (L := L) (by rw [← hd, List.drop_eq_nil_of_le (by omega)]) (by omega) ⟨_, _, rfl⟩)
        clear h hr hd
        go_quiet (fail)
        go_wp2
        go_meet
        case rel => exact ⟨⟨_, _, rfl, (unhide hA).grew ((Kp.refl [] w).drewN _)⟩, rfl, rfl, (Kp.refl [] w).drewN _⟩
      · have hA := hr.at_drop hk (cc - k)
        rw [hd, hn] at hA
        replace hA := hide hA
        clear h hr hd
        go_quiet (fail)
        go_wp2
        go_meet
        case rel => exact ⟨⟨_, _, rfl, (unhide hA).grew ((Kp.refl [] w).drewN _)⟩, rfl, rfl, (Kp.refl [] w).drewN _⟩
  case rest =>
    obtain ⟨⟨sa, sc, rfl, hA⟩, rfl, rfl, K1⟩ := hcut
    have hA' := fun (W : World) (kk : Kp [] wc W) => hA.grew kk
    have hQ := fun (W : World) (kk : Kp [] wc W) => hq.kept (K1.then kk) (by simp)
    have hH := fun (W : World) (kk : Kp [] wc W) => h.kept (K1.then kk) (by simp)
    replace hA' := hide hA'
    replace hQ := hide hQ
    replace hH := hide hH
    have hl2 : Hid (C.length ≤ 262144 ∧ n ≤ 262144) := ⟨hl, by omega⟩
    have hkc := hide hk
    have hw1 := hide K1.size
    replace K1 := hide K1
    replace hLn := hide hLn
    have hn' : Hid (C.length = n + k) := by unfold Hid; omega
    clear h hr hk hd hl hq hA c0 c1 b0 b3 hn
    go_wp2_with fail
    go_loopg [5, 19] n (fun m v i wx => ∃ j : Nat, j ≤ n ∧ m = n - j ∧ i = .int .i64 j ∧ Gr.Rw (msE 47) wc.heap.size wx v ((L.take j).filter (msN (p1, p2))) ∧ Kp [] wc wx)
    case atStart => exact ⟨0, Nat.zero_le _, rfl, rfl, Gr.Rw.nil _ _, Kp.refl _ _⟩
    case round =>
      obtain ⟨j, hj, rfl, rfl, hP, hK⟩ := hrel
      by_cases hlt : j < n
      · obtain ⟨x, hx⟩ : ∃ x, L[j]? = some x := ⟨_, List.getElem?_eq_getElem (by rw [unhide hLn]; exact hlt)⟩
        rcases unhide hA' _ hK with ⟨_, e⟩ | ⟨g, off, c', e, hc⟩
        · rw [e] at hx; cases hx
        rw [unhide hLn] at e
        cases e
        have xcf := fun (i : Nat) (u : Value) (hu : ((msE 47).vals x)[i]? = some u) => hc j i x u hx hu
        obtain ⟨xs, xp, xw, xb, xc⟩ := x
        have x0 : wr.cell? ⟨g, off + j * 5, none⟩ = some (.int .i64 xs)   := by have := xcf 0 _ rfl; simpa using this
        have x1 : wr.cell? ⟨g, off + j * 5 + 1, none⟩ = some (.int .i64 xp)   := by have := xcf 1 _ rfl; simpa using this
        have x2 : wr.cell? ⟨g, off + j * 5 + 2, none⟩ = some (.int .u32 xw)   := by have := xcf 2 _ rfl; simpa using this
        have x3 : wr.cell? ⟨g, off + j * 5 + 3, none⟩ = some (.int .i64 xb)   := by have := xcf 3 _ rfl; simpa using this
        have x4 : wr.cell? ⟨g, off + j * 5 + 4, none⟩ = some (.bool xc)   := by have := xcf 4 _ rfl; simpa using this
        have b1 : (j : Int) < (n : Int) := by omega
        have b2 : ((j : Int)).toNat = j := Int.toNat_natCast j
        have b4 : decide ((j : Int) < 0) = false := decide_eq_false (by omega)
        have b5 : IntKind.i64.wrap ((j : Int) + 1) = ((j + 1 : Nat) : Int) := by have := (unhide hl2).2; rw [IntKind.wrap_i64]; omega
        clear xcf hc
        have B1 := hide (Bk.new wr 47 [.int .i64 xs, .int .i64 xp, .int .u32 xw, .int .i64 xb, .bool xc])
        have K1r := hide ((Kp.refl [] wr).alloc (.cells #[.int .i64 xs, .int .i64 xp, .int .u32 xw, .int .i64 xb, .bool xc] 47))
        obtain ⟨v, hv⟩ : ∃ v : Bool, decide ((xs, xp) = (p1, p2)) = v := ⟨_, rfl⟩
        have hC := mis (unhide hQ _ (hK.then (unhide K1r))) xs xp xw xb xc
        rw [hv] at hC
        replace hC := hide hC
        replace hP := hide hP
        replace hK := hide hK
        cases v with
        | true =>
          have hmore := hide (filtL_no (f := msN (p1, p2)) hx (by unfold msN; rw [hv]; rfl))
          clear hx hv
          go_wp2_with fail
          refine (unhide hC).mono ?_
          rintro e W5 ⟨rfl, K5⟩
          have k5 := hide ((unhide K1r).then K5)
          clear hC K5
          go_wp2
          go_roundg (n - (j + 1))
          case measure => omega
          case rel => exact ⟨j + 1, by omega, rfl, by go_num, by rw [unhide hmore]; exact (unhide hP).grew (unhide k5), (unhide hK).then (unhide k5)⟩
        | false =>
          have hmore := hide (filtL_yes (f := msN (p1, p2)) hx (by unfold msN; rw [hv]; rfl))
          have hlen : ((L.take j).filter (msN (p1, p2))).length ≤ 1048575 := by have := List.length_filter_le (msN (p1, p2)) (L.take j); have := (unhide hl2).2; rw [List.length_take] at *; omega
          obtain ⟨F, hF⟩ : ∃ F, ((L.take j).filter (msN (p1, p2))) = F := ⟨_, rfl⟩
          rw [hF] at hP hlen
          replace hmore : Hid ((L.take (j + 1)).filter (msN (p1, p2)) = F ++ [(xs, xp, xw, xb, xc)]) := by unfold Hid; rw [← hF]; exact unhide hmore
          replace hlen := hide hlen
          clear hx hv hF
          go_wp2_with fail
          refine (unhide hC).mono ?_
          rintro e W5 ⟨rfl, K5⟩
          have k5 := hide ((unhide K1r).then K5)
          have B5 := (unhide B1).kept K5 (by simp)
          have y0 := B5.cell (i := 0) rfl
          have y1 := B5.cell (i := 1) rfl
          have y2 := B5.cell (i := 2) rfl
          have y3 := B5.cell (i := 3) rfl
          have y4 := B5.cell (i := 4) rfl
          have k6 := hide ((unhide k5).alloc (.cells #[.int .i64 xs, .int .i64 xp, .int .u32 xw, .int .i64 xb, .bool xc] 47))
          have k6' := hide ((unhide hK).then (unhide k6))
          have hP6 := hide ((unhide hP).grew (unhide k6))
          clear hC K5 B1 B5 x0 x1 x2 x3 x4
          go_wp2_with (first
            | (at_builtin; refine Gr.list_app (E := (msE 47)) Try.underlying24 Try.infoMsgP rfl (by decide) (by decide) rfl _ _ rfl wc.heap.size _ _ F [(xs, xp, xw, xb, xc)] rfl rfl (unhide hP6) (Gr.src_one (Bk.new W5 47 [.int .i64 xs, .int .i64 xp, .int .u32 xw, .int .i64 xb, .bool xc]) rfl) ?c2 ?c3 ?_)
            | go_in)
          case c2 => have h9 := unhide hlen; show F.length + 1 ≤ 1048576; omega
          case c3 => exact (unhide k6').size
          intro v' w2 hown' hgrow hnil
          have hP1 : Hid (Gr.Rw (msE 47) wc.heap.size w2 v' ((L.take (j + 1)).filter (msN (p1, p2)))) := by
            unfold Hid
            rw [unhide hmore]
            exact hown'
          have hK1 := hide (Gr.kp_grown (unhide k6') hgrow (fun k hk => ((unhide hP6).lt hk).1))
          clear hP hK hmore hown' hgrow hnil k5 k6 k6' hP6 hlen
          go_wp2
          go_roundg (n - (j + 1))
          case measure => omega
          case rel => exact ⟨j + 1, by omega, rfl, by go_num, unhide hP1, unhide hK1⟩
      · have b1 : decide ((j : Int) < (n : Int)) = false := decide_eq_false (by omega)
        rw [List.take_of_length_le (by rw [unhide hLn]; omega), hL'] at hP
        have hH2 := unhide hH _ hK
        have c0 := hH2.cell (i := 0) rfl
        have c1 := hH2.cell (i := 1) rfl
        have b5 : IntKind.i64.wrap ((C.length : Int) - (k : Int)) = (n : Int) := by have := (unhide hl2).1; have := unhide hkc; have := unhide hn'; rw [IntKind.wrap_i64]; omega
        obtain ⟨va, vc, rfl⟩ := hP.form
        have hle : Hid (L'.length ≤ n) := by unfold Hid; rw [← hL', ← unhide hLn]; exact List.length_filter_le _ _
        replace his : Hid (decide (L'.length < n) = is) := by unfold Hid; rw [← unhide hLn]; exact his
        have hfin : ∀ W : World, Kp [] wr W → Hid (Bk ((W.setCell ⟨t, 0, none⟩ (.slice va L'.length vc)).setCell ⟨t, 1, none⟩ (.int .i64 0)) t 31 [.slice va L'.length vc, .int .i64 0, u2, u3] ∧ Gr.Rw (msE 47) w.heap.size ((W.setCell ⟨t, 0, none⟩ (.slice va L'.length vc)).setCell ⟨t, 1, none⟩ (.int .i64 0)) (.slice va L'.length vc) L' ∧ Kp [t] w ((W.setCell ⟨t, 0, none⟩ (.slice va L'.length vc)).setCell ⟨t, 1, none⟩ (.int .i64 0))) := by
          intro W kk
          have hB := unhide hH _ (hK.then kk)
          have hR := hP.grew kk
          have k5 := ((Kp.refl [t] W).setCell (p := ⟨t, 0, none⟩) (.inl (by simp)) (.slice va L'.length vc)).setCell (p := ⟨t, 1, none⟩) (.inl (by simp)) (.int .i64 0)
          refine ⟨(hB.set 0 _).set 1 _, (hR.kept k5 (fun q hq m => ne_of_row hR hB (by decide) (by rw [hq, List.mem_singleton.1 m]))).mono (unhide hw1), ?_⟩
          exact ((((unhide K1).then hK).then kk).mono (by simp)).then k5
        have hHf := hide (fun (W : World) (kk : Kp [] wr W) => (unhide hH _ (hK.then kk)))
        replace hfin := hide hfin
        clear hH2 hP hH hQ hA' hK K1 hL' hn' hkc hl2
        have f0 := fun (W : World) (kk : Kp [] wr W) => (unhide hHf W kk).frozen
        have d0 := fun (W : World) (kk : Kp [] wr W) => (unhide hHf W kk).cell (i := 0) rfl
        have d1 := fun (W : World) (kk : Kp [] wr W) => (unhide hHf W kk).cell (i := 1) rfl
        by_cases h1 : L'.length < n
        · have g1 : (L'.length : Int) < (n : Int) := by omega
          obtain rfl : true = is := by rw [← unhide his, decide_eq_true h1]
          go_wp2_with fail
          go_quiet (fail)
          have f1 := f0 _ ((Kp.refl [] wr).drewN nq)
          have e0 := d0 _ ((Kp.refl [] wr).drewN nq)
          have e1 := d1 _ ((Kp.refl [] wr).drewN nq)
          have hF := hide (unhide hfin _ ((Kp.refl [] wr).drewN nq))
          clear f0 d0 d1 hfin c0 c1 hHf
          go_wp2
          go_ret
          exact ⟨rfl, _, unhide (unhide hF)⟩
        · have g1 : decide ((L'.length : Int) < (n : Int)) = false := decide_eq_false (by omega)
          obtain rfl : false = is := by rw [← unhide his, decide_eq_false h1]
          go_wp2_with fail
          go_quiet (fail)
          have f1 := f0 _ ((Kp.refl [] wr).drewN nq)
          have e0 := d0 _ ((Kp.refl [] wr).drewN nq)
          have e1 := d1 _ ((Kp.refl [] wr).drewN nq)
          have hF := hide (unhide hfin _ ((Kp.refl [] wr).drewN nq))
          clear f0 d0 d1 hfin c0 c1 hHf
          go_wp2
          go_ret
          exact ⟨rfl, _, unhide (unhide hF)⟩
/-- The closure: is it this one? -/
theorem ris {w : World} {q : Nat} {p1 p2 : Int} (hq : Bk w q 39 [.int .i64 p1, .int .i64 p2]) (q1 q2 rp : Int) :
    Calls Try.prog 22 #[.agg #[.int .i64 q1, .int .i64 q2, .int .i64 rp], .pointer (some ⟨q, 0, none⟩)] w (fun e w' => e = .returned (.bool (decide ((q1, q2) = (p1, p2)))) ∧ Kp [] w w') := by
  have K1 := (Kp.refl [] w).alloc (.cells #[.int .i64 q1, .int .i64 q2, .int .i64 rp] 42)
  have c0 := (hq.kept K1 (by simp)).cell (i := 0) rfl
  have c1 := (hq.kept K1 (by simp)).cell (i := 1) rfl
  have he := fun w' => eqi q1 q2 p1 p2 w'
  replace K1 := hide K1
  clear hq
  go_enter Try.func22, Try.ntmps22
  go_wp2
  go_ret
  have e : decide ((q1, q2) = (p1, p2)) = (decide (q1 = p1) && decide (q2 = p2)) := by by_cases h1 : q1 = p1 <;> by_cases h2 : q2 = p2 <;> simp [h1, h2]
  rw [e]
  exact ⟨rfl, unhide K1⟩
set_option maxRecDepth 8000 in
set_option maxHeartbeats 8000000 in
theorem rdrop {base : Nat} {w : World} {t : Nat} {v u0 u1 : Value} {k : Nat} {C L L' : List Rc} {is : Bool} (h : Bk w t 31 [u0, u1, v, .int .i64 (k : Int)]) (hr : Gr.Rw (rcE 42) base w v C) (hk : k ≤ C.length) (hd : C.drop k = L) (hl : C.length ≤ 262144) {q : Nat} {p1 p2 : Int} (hq : Bk w q 39 [.int .i64 p1, .int .i64 p2]) (hL' : L.filter (rcN (p1, p2)) = L') (his : decide (L'.length < L.length) = is) :
    Calls Try.prog 21 #[.pointer (some ⟨t, 2, none⟩), .func (.func 22) #[] #[.pointer (some ⟨q, 0, none⟩)]] w (fun e w' => e = .returned (.bool is) ∧ ∃ v', Bk w' t 31 [u0, u1, v', .int .i64 0] ∧ Gr.Rw (rcE 42) w.heap.size w' v' L' ∧ Kp [t] w w') := by
  have eg : ∀ args w, (callFunc 22 args).run Try.prog w = .ok (.enter 22 args) w := enters_of Try.func22 (by kernel_rfl) rfl
  obtain ⟨n, hn⟩ : ∃ n, C.length - k = n := ⟨_, rfl⟩
  have hLn : L.length = n := by rw [← hn, ← hd, List.length_drop]
  obtain ⟨a0, cc, rfl⟩ := hr.form
  have htl := hide h.lt
  have c0 := h.cell (i := 2) rfl
  have c1 := h.cell (i := 3) rfl
  have b0 : (0 : Int) ≤ (k : Int) := by omega
  have b3 : ((k : Int)).toNat = k := Int.toNat_natCast k
  go_enter Try.func21, Try.ntmps21
  go_upto_region 2 with fail
  go_cut [17, 18, 19] (fun sv nv iv wx => (∃ a c, sv = .slice a n c ∧ At (rcE 42) wx (.slice a n c) L) ∧ nv = .int .i64 (n : Int) ∧ iv = .int .i64 0 ∧ Kp [] w wx)
  case first =>
    rcases hr.addr with ⟨e, rfl⟩ | ⟨g, cap, e, _, _, h1, h2⟩ <;> cases e
    · obtain rfl : k = 0 := by simpa using hk
      obtain rfl : n = 0 := by rw [← hn]; rfl
      obtain rfl : L = [] := by rw [← hd]; rfl
      go_quiet (fail)
      go_wp2
      go_meet
      case rel => exact ⟨⟨_, _, rfl, .inl ⟨rfl, rfl⟩⟩, rfl, rfl, (Kp.refl [] w).drewN _⟩
    · have b1 : (k : Int) ≤ (C.length : Int) := by omega
      have b2 : (C.length : Int) ≤ (cc : Int) := by omega
      by_cases hck : cc = k
      · have hA := hide (at_none (E := rcE 42) (w := w) (a := ⟨g, 0, none⟩) (n := n) (c := 0) (L := L) (by rw [← hd, List.drop_eq_nil_of_le (by omega)]) (by omega) ⟨_, _, rfl⟩)
        clear h hr hd
        go_quiet (fail)
        go_wp2
        go_meet
        case rel => exact ⟨⟨_, _, rfl, (unhide hA).grew ((Kp.refl [] w).drewN _)⟩, rfl, rfl, (Kp.refl [] w).drewN _⟩
      · have hA := hr.at_drop hk (cc - k)
        rw [hd, hn] at hA
        replace hA := hide hA
        clear h hr hd
        go_quiet (fail)
        go_wp2
        go_meet
        case rel => exact ⟨⟨_, _, rfl, (unhide hA).grew ((Kp.refl [] w).drewN _)⟩, rfl, rfl, (Kp.refl [] w).drewN _⟩
  case rest =>
    obtain ⟨⟨sa, sc, rfl, hA⟩, rfl, rfl, K1⟩ := hcut
    have hA' := fun (W : World) (kk : Kp [] wc W) => hA.grew kk
    have hQ := fun (W : World) (kk : Kp [] wc W) => hq.kept (K1.then kk) (by simp)
    have hH := fun (W : World) (kk : Kp [] wc W) => h.kept (K1.then kk) (by simp)
    replace hA' := hide hA'
    replace hQ := hide hQ
    replace hH := hide hH
    have hl2 : Hid (C.length ≤ 262144 ∧ n ≤ 262144) := ⟨hl, by omega⟩
    have hkc := hide hk
    have hw1 := hide K1.size
    replace K1 := hide K1
    replace hLn := hide hLn
    have hn' : Hid (C.length = n + k) := by unfold Hid; omega
    clear h hr hk hd hl hq hA c0 c1 b0 b3 hn
    go_wp2_with fail
    go_loopg [5, 19] n (fun m v i wx => ∃ j : Nat, j ≤ n ∧ m = n - j ∧ i = .int .i64 j ∧ Gr.Rw (rcE 42) wc.heap.size wx v ((L.take j).filter (rcN (p1, p2))) ∧ Kp [] wc wx)
    case atStart => exact ⟨0, Nat.zero_le _, rfl, rfl, Gr.Rw.nil _ _, Kp.refl _ _⟩
    case round =>
      obtain ⟨j, hj, rfl, rfl, hP, hK⟩ := hrel
      by_cases hlt : j < n
      · obtain ⟨x, hx⟩ : ∃ x, L[j]? = some x := ⟨_, List.getElem?_eq_getElem (by rw [unhide hLn]; exact hlt)⟩
        rcases unhide hA' _ hK with ⟨_, e⟩ | ⟨g, off, c', e, hc⟩
        · rw [e] at hx; cases hx
        rw [unhide hLn] at e
        cases e
        have xcf := fun (i : Nat) (u : Value) (hu : ((rcE 42).vals x)[i]? = some u) => hc j i x u hx hu
        obtain ⟨xs, xp, xr⟩ := x
        have x0 : wr.cell? ⟨g, off + j * 3, none⟩ = some (.int .i64 xs)   := by have := xcf 0 _ rfl; simpa using this
        have x1 : wr.cell? ⟨g, off + j * 3 + 1, none⟩ = some (.int .i64 xp)   := by have := xcf 1 _ rfl; simpa using this
        have x2 : wr.cell? ⟨g, off + j * 3 + 2, none⟩ = some (.int .i64 xr)   := by have := xcf 2 _ rfl; simpa using this
        have b1 : (j : Int) < (n : Int) := by omega
        have b2 : ((j : Int)).toNat = j := Int.toNat_natCast j
        have b4 : decide ((j : Int) < 0) = false := decide_eq_false (by omega)
        have b5 : IntKind.i64.wrap ((j : Int) + 1) = ((j + 1 : Nat) : Int) := by have := (unhide hl2).2; rw [IntKind.wrap_i64]; omega
        clear xcf hc
        have B1 := hide (Bk.new wr 42 [.int .i64 xs, .int .i64 xp, .int .i64 xr])
        have K1r := hide ((Kp.refl [] wr).alloc (.cells #[.int .i64 xs, .int .i64 xp, .int .i64 xr] 42))
        obtain ⟨v, hv⟩ : ∃ v : Bool, decide ((xs, xp) = (p1, p2)) = v := ⟨_, rfl⟩
        have hC := ris (unhide hQ _ (hK.then (unhide K1r))) xs xp xr
        rw [hv] at hC
        replace hC := hide hC
        replace hP := hide hP
        replace hK := hide hK
        cases v with
        | true =>
          have hmore := hide (filtL_no (f := rcN (p1, p2)) hx (by unfold rcN; rw [hv]; rfl))
          clear hx hv
          go_wp2_with fail
          refine (unhide hC).mono ?_
          rintro e W5 ⟨rfl, K5⟩
          have k5 := hide ((unhide K1r).then K5)
          clear hC K5
          go_wp2
          go_roundg (n - (j + 1))
          case measure => omega
          case rel => exact ⟨j + 1, by omega, rfl, by go_num, by rw [unhide hmore]; exact (unhide hP).grew (unhide k5), (unhide hK).then (unhide k5)⟩
        | false =>
          have hmore := hide (filtL_yes (f := rcN (p1, p2)) hx (by unfold rcN; rw [hv]; rfl))
          have hlen : ((L.take j).filter (rcN (p1, p2))).length ≤ 1048575 := by have := List.length_filter_le (rcN (p1, p2)) (L.take j); have := (unhide hl2).2; rw [List.length_take] at *; omega
          obtain ⟨F, hF⟩ : ∃ F, ((L.take j).filter (rcN (p1, p2))) = F := ⟨_, rfl⟩
          rw [hF] at hP hlen
          replace hmore : Hid ((L.take (j + 1)).filter (rcN (p1, p2)) = F ++ [(xs, xp, xr)]) := by unfold Hid; rw [← hF]; exact unhide hmore
          replace hlen := hide hlen
          clear hx hv hF
          go_wp2_with fail
          refine (unhide hC).mono ?_
          rintro e W5 ⟨rfl, K5⟩
          have k5 := hide ((unhide K1r).then K5)
          have B5 := (unhide B1).kept K5 (by simp)
          have y0 := B5.cell (i := 0) rfl
          have y1 := B5.cell (i := 1) rfl
          have y2 := B5.cell (i := 2) rfl
          have k6 := hide ((unhide k5).alloc (.cells #[.int .i64 xs, .int .i64 xp, .int .i64 xr] 42))
          have k6' := hide ((unhide hK).then (unhide k6))
          have hP6 := hide ((unhide hP).grew (unhide k6))
          clear hC K5 B1 B5 x0 x1 x2
          go_wp2_with (first
            | (at_builtin; refine Gr.list_app (E := (rcE 42)) Try.underlying27 Try.infoRcvP rfl (by decide) (by decide) rfl _ _ rfl wc.heap.size _ _ F [(xs, xp, xr)] rfl rfl (unhide hP6) (Gr.src_one (Bk.new W5 42 [.int .i64 xs, .int .i64 xp, .int .i64 xr]) rfl) ?c2 ?c3 ?_)
            | go_in)
          case c2 => have h9 := unhide hlen; show F.length + 1 ≤ 1048576; omega
          case c3 => exact (unhide k6').size
          intro v' w2 hown' hgrow hnil
          have hP1 : Hid (Gr.Rw (rcE 42) wc.heap.size w2 v' ((L.take (j + 1)).filter (rcN (p1, p2)))) := by
            unfold Hid
            rw [unhide hmore]
            exact hown'
          have hK1 := hide (Gr.kp_grown (unhide k6') hgrow (fun k hk => ((unhide hP6).lt hk).1))
          clear hP hK hmore hown' hgrow hnil k5 k6 k6' hP6 hlen
          go_wp2
          go_roundg (n - (j + 1))
          case measure => omega
          case rel => exact ⟨j + 1, by omega, rfl, by go_num, unhide hP1, unhide hK1⟩
      · have b1 : decide ((j : Int) < (n : Int)) = false := decide_eq_false (by omega)
        rw [List.take_of_length_le (by rw [unhide hLn]; omega), hL'] at hP
        have hH2 := unhide hH _ hK
        have c0 := hH2.cell (i := 2) rfl
        have c1 := hH2.cell (i := 3) rfl
        have b5 : IntKind.i64.wrap ((C.length : Int) - (k : Int)) = (n : Int) := by have := (unhide hl2).1; have := unhide hkc; have := unhide hn'; rw [IntKind.wrap_i64]; omega
        obtain ⟨va, vc, rfl⟩ := hP.form
        have hle : Hid (L'.length ≤ n) := by unfold Hid; rw [← hL', ← unhide hLn]; exact List.length_filter_le _ _
        replace his : Hid (decide (L'.length < n) = is) := by unfold Hid; rw [← unhide hLn]; exact his
        have hfin : ∀ W : World, Kp [] wr W → Hid (Bk ((W.setCell ⟨t, 2, none⟩ (.slice va L'.length vc)).setCell ⟨t, 3, none⟩ (.int .i64 0)) t 31 [u0, u1, .slice va L'.length vc, .int .i64 0] ∧ Gr.Rw (rcE 42) w.heap.size ((W.setCell ⟨t, 2, none⟩ (.slice va L'.length vc)).setCell ⟨t, 3, none⟩ (.int .i64 0)) (.slice va L'.length vc) L' ∧ Kp [t] w ((W.setCell ⟨t, 2, none⟩ (.slice va L'.length vc)).setCell ⟨t, 3, none⟩ (.int .i64 0))) := by
          intro W kk
          have hB := unhide hH _ (hK.then kk)
          have hR := hP.grew kk
          have k5 := ((Kp.refl [t] W).setCell (p := ⟨t, 2, none⟩) (.inl (by simp)) (.slice va L'.length vc)).setCell (p := ⟨t, 3, none⟩) (.inl (by simp)) (.int .i64 0)
          refine ⟨(hB.set 2 _).set 3 _, (hR.kept k5 (fun q hq m => ne_of_row hR hB (by decide) (by rw [hq, List.mem_singleton.1 m]))).mono (unhide hw1), ?_⟩
          exact ((((unhide K1).then hK).then kk).mono (by simp)).then k5
        have hHf := hide (fun (W : World) (kk : Kp [] wr W) => (unhide hH _ (hK.then kk)))
        replace hfin := hide hfin
        clear hH2 hP hH hQ hA' hK K1 hL' hn' hkc hl2
        have f0 := fun (W : World) (kk : Kp [] wr W) => (unhide hHf W kk).frozen
        have d0 := fun (W : World) (kk : Kp [] wr W) => (unhide hHf W kk).cell (i := 2) rfl
        have d1 := fun (W : World) (kk : Kp [] wr W) => (unhide hHf W kk).cell (i := 3) rfl
        by_cases h1 : L'.length < n
        · have g1 : (L'.length : Int) < (n : Int) := by omega
          obtain rfl : true = is := by rw [← unhide his, decide_eq_true h1]
          go_wp2_with fail
          go_quiet (fail)
          have f1 := f0 _ ((Kp.refl [] wr).drewN nq)
          have e0 := d0 _ ((Kp.refl [] wr).drewN nq)
          have e1 := d1 _ ((Kp.refl [] wr).drewN nq)
          have hF := hide (unhide hfin _ ((Kp.refl [] wr).drewN nq))
          clear f0 d0 d1 hfin c0 c1 hHf
          go_wp2
          go_ret
          exact ⟨rfl, _, unhide (unhide hF)⟩
        · have g1 : decide ((L'.length : Int) < (n : Int)) = false := decide_eq_false (by omega)
          obtain rfl : false = is := by rw [← unhide his, decide_eq_false h1]
          go_wp2_with fail
          go_quiet (fail)
          have f1 := f0 _ ((Kp.refl [] wr).drewN nq)
          have e0 := d0 _ ((Kp.refl [] wr).drewN nq)
          have e1 := d1 _ ((Kp.refl [] wr).drewN nq)
          have hF := hide (unhide hfin _ ((Kp.refl [] wr).drewN nq))
          clear f0 d0 d1 hfin c0 c1 hHf
          go_wp2
          go_ret
          exact ⟨rfl, _, unhide (unhide hF)⟩
end Go.Proofs.Ythnpkojfkhndoaa
