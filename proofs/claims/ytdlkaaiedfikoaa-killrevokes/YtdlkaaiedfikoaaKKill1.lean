/- The document's Revoke of chapter 8. -/
import Derived.Test.YtdlkaaiedfikoaaKKill0
import Derived.Test.YtdlkaaiedfikoaaKSamePl
namespace Go.Proofs.Ytdlkaaiedfikoaa
open Go.RowKit
set_option linter.unusedVariables false
theorem sel_at {f : Sl → Bool} {L : List Sl} {q : Int × Int} {qs : List (Int × Int)} (h : sel f L = q :: qs) : ∃ i, atL L q.1 q.2 = some i := by
  have hm : q ∈ sel f L := by rw [h]; simp
  unfold sel at hm
  obtain ⟨x, hx, rfl⟩ := List.mem_map.1 hm
  have hxL := (List.mem_filter.1 hx).1
  cases ha : atL L x.n x.s with
  | some i => exact ⟨i, rfl⟩
  | none =>
    unfold atL at ha
    have := List.findIdx?_eq_none_iff.1 ha x hxL
    simp at this
theorem delF_less {L : List Sl} {n s : Int} {i : Nat} (ha : atL L n s = some i) : (delF L.length L n s).2.1.length < L.length := by
  obtain ⟨y, hy, _⟩ := atL_some ha
  have hi := (List.getElem?_eq_some_iff.1 hy).1
  obtain ⟨k, hk⟩ : ∃ k, L.length = k + 1 := ⟨L.length - 1, by omega⟩
  have hd := drop_len1 (n := n) (s := s) hy
  have h2 := delS_len (delF_len k) y.o 16 0 (dropL L n s i y)
  rw [hk, delF_some ha hy]
  split
  · simp only; omega
  · split
    · simp only; omega
    · simp only; omega
/-- What Revoke comes to. -/
def revR (m : Nat) (L : List Sl) (n s : Int) : List (Int × Int) × List Sl × Int := if (lkS L n s).isSome = true then ((revF m L n s).1, (revF m L n s).2, 0) else ([], L, 4)
theorem revF_more {m : Nat} {L : List Sl} {n s : Int} {q : Int × Int} {qs : List (Int × Int)} (h : sel (lowF L n s) L = q :: qs) : revF (m + 1) L n s = if (lkS (delF L.length L q.1 q.2).2.1 n s).isSome = true then ((delF L.length L q.1 q.2).1 ++ (revF m (delF L.length L q.1 q.2).2.1 n s).1, (revF m (delF L.length L q.1 q.2).2.1 n s).2) else ((delF L.length L q.1 q.2).1, (delF L.length L q.1 q.2).2.1) := by
  rw [revF, h]
theorem revF_end {m : Nat} {L : List Sl} {n s : Int} (h : sel (lowF L n s) L = []) : revF m L n s = ([], L) := by
  cases m with
  | zero => rfl
  | succ m => rw [revF, h]
theorem rget_any {base x : Nat} {wr : World} {ra : Option Addr} {rc : Nat} {L : List Sl} (h : RT base wr x ra rc L) (n s : Int) {b : Bool} (hb : (lkS L n s).isSome = b) :
    ∃ k o z bb r : Int, Calls Try.prog 22 #[.pointer (some ⟨x, 0, none⟩), .agg #[.int .i64 n, .int .i64 s]] wr fun e w' => e = .returned (.tuple #[.agg #[.int .i64 k, .int .i64 o, .int .i64 z, .int .i64 bb, .int .i64 r], .bool b]) ∧ Kp [] wr w' := by
  rcases rget_lk h n s with ⟨hn, hc⟩ | ⟨y, hy, hc⟩
  · rw [hn] at hb; subst hb; exact ⟨0, 0, 0, 0, 0, hc⟩
  · rw [hy] at hb; subst hb; exact ⟨_, _, _, _, _, hc⟩
set_option maxRecDepth 4000 in
set_option maxHeartbeats 8000000 in
theorem rrevoke {m base x : Nat} {w : World} {ra : Option Addr} {rc : Nat} {L : List Sl} (h : RT base w x ra rc L) (hm : L.length ≤ m) (n s : Int) :
    Calls Try.prog 19 #[.pointer (some ⟨x, 0, none⟩), .agg #[.int .i64 n, .int .i64 s]] w (DelP base x w (revR m L n s)) := by
  obtain ⟨b0, hb0⟩ : ∃ b, (lkS L n s).isSome = b := ⟨_, rfl⟩
  obtain ⟨R, hR⟩ : ∃ R, revR m L n s = R := ⟨_, rfl⟩
  rw [hR]
  unfold revR at hR
  rw [hb0] at hR
  replace hR := hide hR
  have xlt := h.head.lt
  have hsm := h.small
  have K0 := hide ((Kp.refl [] w).alloc (.cells #[.int .i64 n, .int .i64 s] 28))
  have P0 := hide (Bk.new w 28 [.int .i64 n, .int .i64 s])
  obtain ⟨k1, o1, z1, b1, r1, hget⟩ := rget_any (h.grew (unhide K0)) n s hb0
  have H := hide h
  replace hget := hide hget
  replace xlt := hide xlt
  clear h
  go_enter Try.func19, Try.ntmps19
  go_wp2_with fail
  refine (unhide hget).mono ?_
  rintro e W1 ⟨rfl, K1⟩
  have K2 := hide (((unhide K0).then K1).alloc (.cells #[.int .i64 k1, .int .i64 o1, .int .i64 z1, .int .i64 b1, .int .i64 r1] 31))
  have P2 := hide (((unhide P0).kept K1 (by simp)).alloc (.cells #[.int .i64 k1, .int .i64 o1, .int .i64 z1, .int .i64 b1, .int .i64 r1] 31))
  have H2 := hide ((unhide H).grew (unhide K2))
  clear K1 hget K0 P0
  cases b0
  · have e : R = ([], L, 4) := (unhide hR).symm
    subst e
    go_wp2
    refine bodyPost_ret (v := .tuple #[.slice none 0 0, .int .i64 4]) (by simp [results, Try.results19, go_sem, *]) rfl ⟨_, rfl, Ol.nil _ _, ⟨ra, rc, unhide H2⟩, (unhide K2).mono (by simp)⟩
  · have hR1 : ((revF m L n s).1, (revF m L n s).2, (0 : Int)) = R := unhide hR
    clear hR
    have hR := hide hR1
    clear hR1
    replace hb0 := hide hb0
    have hB : Hid (w.heap.size < (W1.alloc (.cells #[.int .i64 k1, .int .i64 o1, .int .i64 z1, .int .i64 b1, .int .i64 r1] 31)).heap.size) := (unhide P2).lt
    go_wp2_with fail
    generalize W1.alloc (.cells #[.int .i64 k1, .int .i64 o1, .int .i64 z1, .int .i64 b1, .int .i64 r1] 31) = W2 at *
    obtain ⟨B, eB⟩ : ∃ B, W2.heap.size = B := ⟨_, rfl⟩
    rw [eB] at hB
    have hBs : Hid (B ≤ W2.heap.size) := by unfold Hid; omega
    clear eB H
    go_loopg [7, 8] L.length (fun mm iv v wr => ∃ isb L' os ra rc f, mm = L'.length ∧ iv = .bool isb ∧ (lkS L' n s).isSome = isb ∧ Ol B wr v os ∧ RT base wr x ra rc L' ∧ Bk wr w.heap.size 28 [.int .i64 n, .int .i64 s] ∧ Kp [x] w wr ∧ B ≤ wr.heap.size ∧ os.length + L'.length ≤ 65540 ∧ L'.length ≤ f ∧ (if isb = true then (os ++ (revF f L' n s).1, (revF f L' n s).2, (0 : Int)) else (os, L', 0)) = R)
    case atStart => exact ⟨true, L, [], ra, rc, m, rfl, rfl, unhide hb0, Ol.nil _ _, unhide H2, unhide P2, (unhide K2).mono (by simp), unhide hBs, by simp; omega, hm, by rw [if_pos rfl]; exact unhide hR⟩
    case round =>
      obtain ⟨isb, L', os, ra', rc', f, rfl, rfl, his, hO, hT, hP, hK, hBr, hol, hlf, hRR⟩ := hrel
      clear H2 P2 K2 hBs hb0 hR
      obtain ⟨av, cv, ev⟩ := hO.form
      subst ev
      cases isb
      · rw [if_neg (by decide)] at hRR
        subst hRR
        have hO2 := hide (hO.mono (base' := w.heap.size) (by have := unhide hB; omega))
        replace hT := hide hT
        replace hK := hide hK
        clear hO hP his
        go_wp2
        refine bodyPost_ret (v := .tuple #[.slice av os.length cv, .int .i64 0]) (by simp [results, Try.results19, go_sem, *]) rfl ⟨_, rfl, unhide hO2, ⟨ra', rc', unhide hT⟩, unhide hK⟩
      · rw [if_pos rfl] at hRR
        have p0 := hP.cell (i := 0) rfl
        have p1 := hP.cell (i := 1) rfl
        replace hO := hide hO
        replace hT := hide hT
        replace hP := hide hP
        replace hK := hide hK
        replace hRR := hide hRR
        replace his := hide his
        go_wp2_with fail
        refine (rbelow_calls (unhide hT) n s).mono ?_
        rintro e W3 ⟨v3, rfl, P3, K3⟩
        have hsl := sel_len (lowF L' n s) L'
        have hsm2 := (unhide hT).small
        obtain ⟨a3, c3, e3, _, hv3⟩ := P3.view (by omega)
        subst e3
        have O3 := hide ((unhide hO).kept K3 (by simp))
        have T3 := hide ((unhide hT).grew K3)
        have B3 := hide ((unhide hP).kept K3 (by simp))
        have KK3 := hide ((unhide hK).trans K3 (T := [x]) (by simp) (by simp))
        have hB3 : B ≤ W3.heap.size := by have := K3.size; omega
        clear K3 P3 hO hT hP hK p0 p1
        cases hs : sel (lowF L' n s) L' with
        | nil =>
          have e := unhide hRR
          rw [revF_end hs] at e
          simp only [List.append_nil] at e
          subst e
          have hO2 := hide ((unhide O3).mono (base' := w.heap.size) (by have := unhide hB; omega))
          clear hv3 hRR
          replace hs := hide hs
          go_wp2
          refine bodyPost_ret (v := .tuple #[.slice av os.length cv, .int .i64 0]) (by simp [results, Try.results19, go_sem, *]) rfl ⟨_, rfl, unhide hO2, ⟨ra', rc', unhide T3⟩, unhide KK3⟩
        | cons q qs =>
          obtain ⟨i, hi⟩ := sel_at hs
          have hless := delF_less hi
          have hsh := delF_len L'.length L' q.1 q.2
          obtain ⟨k, hk⟩ : ∃ k, f = k + 1 := ⟨f - 1, by omega⟩
          have eR := unhide hRR
          rw [hk, revF_more hs] at eR
          have hdel := rdelete L'.length (unhide T3) (Nat.le_refl _) q.1 q.2
          obtain ⟨⟨r2, L2, cc⟩, hr⟩ : ∃ r, delF L'.length L' q.1 q.2 = r := ⟨_, rfl⟩
          rw [hr] at hdel hsh hless eR
          simp only at hsh hless eR
          rw [hs] at hv3 hsl
          obtain ⟨g, rfl, hc⟩ := hv3.resolve_left (by simp)
          obtain ⟨x0, x1⟩ := hc 0 q rfl
          obtain ⟨qn, qss⟩ := q
          simp only [Nat.zero_mul, Nat.zero_add] at x0 x1
          obtain ⟨b2, hb2⟩ : ∃ b, (lkS L2 n s).isSome = b := ⟨_, rfl⟩
          rw [hb2] at eR
          have hlen : (qs.length : Int) + 1 ≠ 0 := by omega
          replace hdel := hide hdel
          replace eR := hide eR
          clear hRR hr hi hc hs
          go_wp2_with fail
          refine (unhide hdel).mono ?_
          rintro e W6 ⟨v6, rfl, O7, ⟨ra6, rc6, H6⟩, K6⟩
          simp only at O7 H6 ⊢
          have O6 := hide ((unhide O3).kept K6 (fun g hg => by have := ((unhide O3).lt hg).1; have := unhide hB; have := unhide xlt; simp; omega))
          have B6 := hide ((unhide B3).kept K6 (by have := unhide xlt; simp; omega))
          have KK6 := hide ((unhide KK3).trans K6 (T := [x]) (by simp) (by simp))
          have hB6 : Hid (B ≤ W6.heap.size) := by have := K6.size; unfold Hid; omega
          replace H6 := hide H6
          replace O7 := hide O7
          clear K6 O3 T3 B3 KK3 hdel x0 x1
          go_wp2_with (first
            | (at_builtin; refine olist_app rfl _ _ rfl _ (.slice av os.length cv) _ os r2 rfl rfl (unhide O6) (unhide O7).src ?c1 ?c2 ?_)
            | go_in)
          case c1 => omega
          case c2 => exact unhide hB6
          intro v' W8 hO8 hg8 hat8
          have kb := kp_by hg8
          have H8 : Hid (RT base W8 x ra6 rc6 L2) := by
            refine (unhide H6).kept kb (fun mm => ?_) (fun g hg mm => ?_)
            · have := ((unhide O6).lt (Option.mem_toList.1 mm)).1
              have := unhide hB
              have := unhide xlt
              omega
            · exact rt_apart (unhide H6) (unhide O6) (Option.mem_toList.1 mm) hg rfl
          have B8 : Hid (Bk W8 w.heap.size 28 [.int .i64 n, .int .i64 s]) := (unhide B6).kept kb (fun mm => by
            have := ((unhide O6).lt (Option.mem_toList.1 mm)).1
            have := unhide hB
            omega)
          have K8 : Hid (Kp [x] w W8) := (unhide KK6).trans kb (by simp) (fun g mm => by
            have := ((unhide O6).lt (Option.mem_toList.1 mm)).1
            have := unhide hB
            omega)
          have hB8 : B ≤ W8.heap.size := Nat.le_trans (unhide hB6) kb.size
          have O8 := hide hO8
          obtain ⟨k2, o2, z2, bb2, rr2, hget⟩ := rget_any (unhide H8) n s hb2
          replace hget := hide hget
          replace hb2 := hide hb2
          clear hO8 hg8 hat8 kb O6 O7 H6 B6 KK6 hB6
          have p0 := (unhide B8).cell (i := 0) rfl
          have p1 := (unhide B8).cell (i := 1) rfl
          go_wp2_with fail
          refine (unhide hget).mono ?_
          rintro e W9 ⟨rfl, K9⟩
          have O9 := hide ((unhide O8).kept K9 (by simp))
          have H9 := hide ((unhide H8).grew K9)
          have B9 := hide ((unhide B8).kept K9 (by simp))
          have K10 := hide ((unhide K8).trans K9 (T := [x]) (by simp) (by simp))
          have hB9 : B ≤ W9.heap.size := Nat.le_trans hB8 K9.size
          clear K9 O8 H8 B8 K8 hget p0 p1
          go_wp2
          go_roundg L2.length
          case measure => omega
          case rel =>
            refine ⟨b2, L2, os ++ r2, ra6, rc6, k, rfl, rfl, unhide hb2, unhide O9, unhide H9, unhide B9, unhide K10, hB9, by rw [List.length_append]; omega, by omega, ?_⟩
            have e' := unhide eR
            cases b2
            · simpa using e'
            · simpa [List.append_assoc] using e'
end Go.Proofs.Ytdlkaaiedfikoaa
