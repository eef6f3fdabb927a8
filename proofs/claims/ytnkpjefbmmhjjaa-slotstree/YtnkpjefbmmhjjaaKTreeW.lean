/- The walk of SlotsTree. -/
import Derived.Test.YtnkpjefbmmhjjaaKTwo5
import Derived.Test.YtnkpjefbmmhjjaaKPlace5
import Derived.Test.YtnkpjefbmmhjjaaKTreeM
import Derived.Test.YtnkpjefbmmhjjaaKArgs
import Derived.Deep.DeepCutAuto
import Derived.Deep.CutBlock
namespace Go.Proofs.Ytnkpjefbmmhjjaa
open Go.RowKit
set_option linter.unusedVariables false
set_option maxRecDepth 4000 in
set_option maxHeartbeats 400000 in
theorem tree_long (a0 a1 : Option Addr) (len0 cap0 len1 cap1 : Nat) (w : World) (hl : 40 < len0 ∨ 60 < len1) :
    Calls Try.prog 4 #[.slice a0 len0 cap0, .slice a1 len1 cap1] w fun e w' => e = .returned (.bool true) ∧ Below w.heap.size w w' := by
  by_cases h1 : 40 < len0
  · have h2 : (40 : Int) < (len0 : Int) := by omega
    go_enter Try.func4, Try.ntmps4
    go_wp2_with fail
    refine (first_calls _).mono ?_
    rintro e W0 ⟨rfl, K0⟩
    go_wp2
    go_ret
    exact ⟨rfl, K0.below (Nat.le_refl _) (by simp)⟩
  · have h2 : decide ((40 : Int) < (len0 : Int)) = false := by simp; omega
    have h3 : (60 : Int) < (len1 : Int) := by omega
    go_enter Try.func4, Try.ntmps4
    go_wp2_with fail
    refine (first_calls _).mono ?_
    rintro e W0 ⟨rfl, K0⟩
    go_wp2
    go_ret
    exact ⟨rfl, K0.below (Nat.le_refl _) (by simp)⟩
/-- One thing's numbers. -/
theorem do_cells {w w' : World} {a : Option Addr} {len : Nat} {V : Nat → Nat → Value} (h : Recs w a len 4 V) (k : Kp [] w w') {j : Nat} (hj : j < len) : ∃ b off, a = some ⟨b, off, none⟩ ∧ ∀ i, i < 4 → w'.cell? ⟨b, off + (j * 4 + i), none⟩ = some (V j i) := by
  obtain ⟨_, hz | ⟨b, off, rfl, hc⟩⟩ := h
  · omega
  · exact ⟨b, off, rfl, fun i hi => k.cell (hc j i hj hi)⟩
theorem capT_form (o : Option Sl) : ∃ k ob z b r : Int, capO o = .agg #[.int .i64 k, .int .i64 ob, .int .i64 z, .int .i64 b, .int .i64 r] := by
  cases o with
  | none => exact ⟨0, 0, 0, 0, 0, rfl⟩
  | some x => exact ⟨_, _, _, _, _, rfl⟩
/-- The table and the numbers. -/
structure Ty (w : World) (t p : Nat) (a : Option Addr) (cap : Nat) (zs : List Int) (L : List Sl) (k : Nat) (wx : World) : Prop where
  tab : TabIn w t L wx
  sq : Sq w wx p a cap zs k
theorem ty_start {w W : World} {a : Option Addr} {cap : Nat} {zs : List Int} (K : Kp [] w W) (hI : Ints .i64 w a zs) :
    Ty w W.heap.size (W.heap.size + 1) a cap zs [] 0 ((W.alloc (.cells #[.map none] 27)).alloc (.cells #[.slice a zs.length cap, .int .i64 0] 33)) :=
  ⟨TabIn.of (T := []) K rfl ((Kp.refl [] _).alloc _), ⟨Bk.next (p := W.heap.size + 1) _ _ [.slice a zs.length cap, .int .i64 0] (by simp), by have := K.size; omega, (K.alloc _).alloc _, hI, by omega⟩⟩
theorem Ty.grew {w : World} {t p : Nat} {a : Option Addr} {cap : Nat} {zs : List Int} {L : List Sl} {k : Nat} {wx wy : World} (h : Ty w t p a cap zs L k wx) (kp : Kp [] wx wy) : Ty w t p a cap zs L k wy := ⟨h.tab.grew kp, h.sq.kept kp (by simp) (by simp)⟩
theorem Ty.turnT {w : World} {t p : Nat} {a : Option Addr} {cap : Nat} {zs : List Int} {L L' : List Sl} {k : Nat} {wx wy : World} (h : Ty w t p a cap zs L k wx) (T : Tch w t wx wy) (X : TabIn w t L' wy) : Ty w t p a cap zs L' k wy ∧ Ch wx wy := by
  obtain ⟨m, hp, _⟩ := h.tab.tab
  have n2 := h.sq.bk.apart hp.head (by decide)
  refine ⟨?_, fun g T' vs b h1 h2 h3 => T.bk b (b.apart hp.head h1)⟩
  obtain ⟨S, kS, hS⟩ := T
  refine ⟨X, h.sq.kept kS (fun m => ?_) (fun i m => (hS i m).1)⟩
  rcases (hS p m).2 with e | e
  · exact n2 e
  · exact e _ _ _ h.sq.bk
theorem Ty.turnS {w : World} {t p : Nat} {a : Option Addr} {cap : Nat} {zs : List Int} {L : List Sl} {k k' : Nat} {wx wy : World} (h : Ty w t p a cap zs L k wx) (ks : Kp [p] wx wy) (X : Sq w wy p a cap zs k') : Ty w t p a cap zs L k' wy ∧ Ch wx wy := by
  obtain ⟨m, hp, _⟩ := h.tab.tab
  exact ⟨⟨h.tab.beside ks h.sq.bk (h.sq.bk.apart hp.head (by decide)) h.sq.new, X⟩, fun g T' vs b h1 h2 h3 => b.kept ks (by simpa using b.apart h.sq.bk h3)⟩
structure Tz (w : World) (t p : Nat) (a : Option Addr) (cap : Nat) (zs : List Int) (L : List Sl) (k A B : Nat) (an as1 bn bs : Int) (wx : World) : Prop where
  ty : Ty w t p a cap zs L k wx
  pa : Bk wx A 35 [.int .i64 an, .int .i64 as1]
  pb : Bk wx B 35 [.int .i64 bn, .int .i64 bs]
theorem Tz.grew {w : World} {t p : Nat} {a : Option Addr} {cap : Nat} {zs : List Int} {L : List Sl} {k A B : Nat} {an as1 bn bs : Int} {wx wy : World} (h : Tz w t p a cap zs L k A B an as1 bn bs wx) (kp : Kp [] wx wy) : Tz w t p a cap zs L k A B an as1 bn bs wy := ⟨h.ty.grew kp, h.pa.kept kp (by simp), h.pb.kept kp (by simp)⟩
theorem Tz.turned {w : World} {t p : Nat} {a : Option Addr} {cap : Nat} {zs : List Int} {L L' : List Sl} {k k' A B : Nat} {an as1 bn bs : Int} {wx wy : World} (h : Tz w t p a cap zs L k A B an as1 bn bs wx) (q : Ty w t p a cap zs L' k' wy ∧ Ch wx wy) : Tz w t p a cap zs L' k' A B an as1 bn bs wy := ⟨q.1, q.2.box h.pa, q.2.box h.pb⟩
theorem Tz.cells {w : World} {t p : Nat} {a : Option Addr} {cap : Nat} {zs : List Int} {L : List Sl} {k A B : Nat} {an as1 bn bs : Int} {wx : World} (h : Tz w t p a cap zs L k A B an as1 bn bs wx) : wx.cell? ⟨A, 0, none⟩ = some (.int .i64 an) ∧ wx.cell? ⟨A, 1, none⟩ = some (.int .i64 as1) ∧ wx.cell? ⟨B, 0, none⟩ = some (.int .i64 bn) ∧ wx.cell? ⟨B, 1, none⟩ = some (.int .i64 bs) := ⟨h.pa.cell rfl, h.pa.cell rfl, h.pb.cell rfl, h.pb.cell rfl⟩
set_option maxRecDepth 4000 in
set_option maxHeartbeats 8000000 in
theorem tree_in (a0 a1 : Option Addr) (len cap0 cap1 : Nat) (V : Nat → Nat → Value) (zs : List Int) (w : World) (hl : len ≤ 40) (hz : zs.length ≤ 60) (hR : Recs w a0 len 4 V)
   (y1 : ∀ i, i < len → (∃ n, V i 0 = .int .i64 n ∧ (Lit.int .i64 n).wf = true) ∧ (∃ n, V i 1 = .int .i64 n ∧ (Lit.int .i64 n).wf = true) ∧ (∃ n, V i 2 = .int .i64 n ∧ (Lit.int .i64 n).wf = true) ∧ (∃ n, V i 3 = .int .i64 n ∧ (Lit.int .i64 n).wf = true)) (hI : Ints .i64 w a1 zs) :
    Calls Try.prog 4 #[.slice a0 len cap0, .slice a1 zs.length cap1] w fun e w' => e = .returned (.bool true) ∧ Below w.heap.size w w' := by
  have h2 : decide ((40 : Int) < (len : Int)) = false := by simp; omega
  have h3 : decide ((60 : Int) < (zs.length : Int)) = false := by simp; omega
  have HR := hide hR
  have HI := hide hI
  replace y1 := hide y1
  clear hR hI
  go_enter Try.func4, Try.ntmps4
  go_wp2_with fail
  refine (first_calls _).mono ?_
  rintro e w1 ⟨rfl, K0⟩
  have X0 := hide (ty_start (cap := cap1) K0 (unhide HI))
  obtain ⟨t, et⟩ : ∃ t, w1.heap.size = t := ⟨_, rfl⟩
  rw [et] at X0
  clear K0
  go_wp2_with fail
  generalize (w1.alloc (.cells #[.map none] 27)).alloc (.cells #[.slice a1 zs.length cap1, .int .i64 0] 33) = w2 at *
  clear et
  go_loopg [8] len (fun m i wr => ∃ j : Nat, j ≤ len ∧ m = len - j ∧ i = .int .i64 j ∧ ∃ L k, Ty w t (t + 1) a1 cap1 zs L k wr ∧ L.length ≤ j * 2 ∧ k ≤ j * 18)
  case atStart => exact ⟨0, Nat.zero_le _, by omega, rfl, [], 0, unhide X0, by simp, by omega⟩
  case round =>
    obtain ⟨j, hj, rfl, rfl, L, k, hP, hLn, hkn⟩ := hrel
    clear X0
    by_cases hlt : j < len
    · have b1 : (j : Int) < (len : Int) := by omega
      have tj : ((j : Int)).toNat = j := Int.toNat_natCast j
      obtain ⟨⟨kd, e0, q0⟩, ⟨na, e1, q1⟩, ⟨nb, e2, q2⟩, ⟨nc, e3, q3⟩⟩ := unhide y1 j hlt
      obtain ⟨b, off, ea, ce⟩ := do_cells (unhide HR) (Kp.refl [] w) hlt
      subst ea
      obtain ⟨⟨an, as1⟩, hpa⟩ : ∃ p, plN na = p := ⟨_, rfl⟩
      obtain ⟨⟨bn, bs⟩, hpb⟩ : ∃ p, plN nb = p := ⟨_, rfl⟩
      have ia := hide (plN_in q1)
      have ib := hide (plN_in q2)
      rw [hpa] at ia
      rw [hpb] at ib
      have hC : Hid (∀ w', Kp [] w w' → w'.cell? ⟨b, off + j * 4, none⟩ = some (.int .i64 kd) ∧ w'.cell? ⟨b, off + j * 4 + 1, none⟩ = some (.int .i64 na) ∧ w'.cell? ⟨b, off + j * 4 + 2, none⟩ = some (.int .i64 nb) ∧ w'.cell? ⟨b, off + j * 4 + 3, none⟩ = some (.int .i64 nc)) := fun w' K => by
        refine ⟨K.cell ?_, K.cell ?_, K.cell ?_, K.cell ?_⟩
        · rw [← e0]; exact ce 0 (by omega)
        · rw [← e1]; exact ce 1 (by omega)
        · rw [← e2]; exact ce 2 (by omega)
        · rw [← e3]; exact ce 3 (by omega)
      obtain ⟨d0, d1, d2, d3⟩ := unhide hC _ hP.tab.kp
      replace hpa := hide hpa
      replace hpb := hide hpb
      replace hP := hide hP
      clear ce e0 e1 e2 e3 q1 q2 q3 q0
      go_wp2_with fail
      refine (place_to _ (unhide hpa)).mono ?_
      rintro e W2 ⟨rfl, K2⟩
      have K3 := hide (K2.alloc (.cells #[.int .i64 an, .int .i64 as1] 35))
      have A3 := hide (Bk.new W2 35 [.int .i64 an, .int .i64 as1])
      clear d0 d1 d2 d3
      obtain ⟨d0, d1, d2, d3⟩ := unhide hC _ ((unhide hP).tab.kp.then (unhide K3))
      obtain ⟨A, hA⟩ : ∃ A, W2.heap.size = A := ⟨_, rfl⟩
      rw [hA] at A3
      clear K2
      go_wp2_with fail
      generalize W2.alloc (.cells #[.int .i64 an, .int .i64 as1] 35) = W3 at *
      clear hA
      refine (place_to _ (unhide hpb)).mono ?_
      rintro e W4 ⟨rfl, K4⟩
      have K5 := hide (((unhide K3).then K4).alloc (.cells #[.int .i64 bn, .int .i64 bs] 35))
      have A5 := hide (((unhide A3).kept K4 (by simp)).alloc (.cells #[.int .i64 bn, .int .i64 bs] 35))
      have B5 := hide (Bk.new W4 35 [.int .i64 bn, .int .i64 bs])
      clear d0 d1 d2 d3
      obtain ⟨d0, d1, d2, d3⟩ := unhide hC _ ((unhide hP).tab.kp.then (unhide K5))
      obtain ⟨B, hB⟩ : ∃ B, W4.heap.size = B := ⟨_, rfl⟩
      rw [hB] at B5
      obtain ⟨kk, hkk⟩ : ∃ kk, kd % 6 = kk := ⟨_, rfl⟩
      have kk0 : 0 ≤ kk ∧ kk < 6 := by omega
      replace hkk := hide hkk
      clear K4 K3 A3
      go_wp2_with fail
      generalize W4.alloc (.cells #[.int .i64 bn, .int .i64 bs] 35) = W5 at *
      clear hB
      refine (number_to _ _ _ _ (by omega) (by omega) (unhide hkk)).mono ?_
      rintro e wx ⟨rfl, rfl⟩
      have Z : Hid (Tz w t (t + 1) a1 cap1 zs L k A B an as1 bn bs wx) := ⟨(unhide hP).grew (unhide K5), unhide A5, unhide B5⟩
      clear A5 B5 hP
      have hcase : kk = 4 ∨ kk = 5 ∨ ((kk == 4) = false ∧ (kk == 5) = false) := by
        by_cases h0 : kk = 4
        · exact .inl h0
        · by_cases h3 : kk = 5
          · exact .inr (.inl h3)
          · exact .inr (.inr ⟨beq_eq_false_iff_ne.2 h0, beq_eq_false_iff_ne.2 h3⟩)
      obtain ⟨c0, c1, c2, c3⟩ := (unhide Z).cells
      rcases hcase with rfl | rfl | ⟨f4, f5⟩
      · obtain ⟨v, L', hB⟩ := both_drop (w := w) (t := t) (x := t + 1) (L := L) (unhide ia)
        have hlen := hB.len
        replace hB := hide hB
        go_wp2_with fail
        refine ((unhide hB).prog _ (unhide Z).ty.tab).mono ?_
        rintro e W6 ⟨rfl, X6, T6⟩
        have Z1 := hide ((unhide Z).ty.turnT T6 X6).1
        clear X6 T6
        go_wp2
        go_roundg (len - (j + 1))
        case measure => omega
        case rel => exact ⟨j + 1, by omega, rfl, by go_num, L', k, unhide Z1, by omega, by omega⟩
      · obtain ⟨v, L', hB⟩ := both_move (w := w) (t := t) (x := t + 1) (L := L) (unhide ia) (unhide ib)
        have hlen := hB.len
        replace hB := hide hB
        go_wp2_with fail
        refine ((unhide hB).prog _ (unhide Z).ty.tab).mono ?_
        rintro e W6 ⟨rfl, X6, T6⟩
        have Z1 := hide ((unhide Z).ty.turnT T6 X6).1
        clear X6 T6
        go_wp2
        go_roundg (len - (j + 1))
        case measure => omega
        case rel => exact ⟨j + 1, by omega, rfl, by go_num, L', k, unhide Z1, by omega, by omega⟩
      · have Z0 := hide ((unhide Z).grew (Kp.refl [] wx).drew)
        clear Z
        go_wp2_with fail
        go_region_held3 (fun w' => w'.cell? ⟨A, 0, none⟩ = some (.int .i64 an) ∧ w'.cell? ⟨A, 1, none⟩ = some (.int .i64 as1) ∧ w'.cell? ⟨B, 0, none⟩ = some (.int .i64 bn) ∧ w'.cell? ⟨B, 1, none⟩ = some (.int .i64 bs)) (first | exact (unhide Z2).cells | exact (unhide Z1).cells | exact (unhide Z0).cells) (first
          | (go_at_call 16; obtain ⟨v, L', hB⟩ := both_put (w := w) (t := t) (x := t + 1) (L := L) (k := ck) (o := co) (z := cz) (b := cb) (r := cr) (by omega) (unhide ia) (unhide ib); have hlen := hB.len; refine (hB.prog _ (unhide Z1).ty.tab).mono ?_; rintro e W7 ⟨rfl, X7, T7⟩; have Z2 := hide ((unhide Z1).turned ((unhide Z1).ty.turnT T7 X7)); clear X7 T7 hB)
          | (go_at_call 15; refine (mkcap_calls (unhide Z0).ty.sq (by omega)).mono ?_; rintro e W6 ⟨ck, co, cz, cb, cr, k', rfl, hS6, hk6, K6, hci⟩; have Z1 := hide ((unhide Z0).turned ((unhide Z0).ty.turnS K6 hS6)); clear hS6 K6 hci))
        cases v
        · have Z3 := hide ((unhide Z2).grew (Kp.refl [] _).drew)
          obtain ⟨e0, e1, e2, e3⟩ := (unhide Z2).cells
          clear Z2 Z1 Z0 c0 c1 c2 c3
          go_wp2_with fail
          go_region_held3 (fun w' => w'.cell? ⟨A, 0, none⟩ = some (.int .i64 an) ∧ w'.cell? ⟨A, 1, none⟩ = some (.int .i64 as1) ∧ w'.cell? ⟨B, 0, none⟩ = some (.int .i64 bn) ∧ w'.cell? ⟨B, 1, none⟩ = some (.int .i64 bs)) (first | exact (unhide Z5).cells | exact (unhide Z4).cells | exact (unhide Z3).cells) (first
            | (go_at_call 16; obtain ⟨v2, L2, hB2⟩ := both_put (w := w) (t := t) (x := t + 1) (L := L') (k := ck2) (o := co2) (z := cz2) (b := cb2) (r := cr2) (by omega) (unhide ia) pin_zero; have hlen2 := hB2.len; refine (hB2.prog _ (unhide Z4).ty.tab).mono ?_; rintro e W9 ⟨rfl, X9, T9⟩; have Z5 := hide ((unhide Z4).turned ((unhide Z4).ty.turnT T9 X9)); clear X9 T9 hB2)
            | (go_at_call 15; refine (mkcap_calls (unhide Z3).ty.sq (by omega)).mono ?_; rintro e W8 ⟨ck2, co2, cz2, cb2, cr2, k2, rfl, hS8, hk8, K8, hci2⟩; have Z4 := hide ((unhide Z3).turned ((unhide Z3).ty.turnS K8 hS8)); clear hS8 K8 hci2))
          go_wp2
          go_roundg (len - (j + 1))
          case measure => omega
          case rel => exact ⟨j + 1, by omega, rfl, by go_num, L2, k2, (unhide Z5).ty, by omega, by omega⟩
        · go_wp2
          go_roundg (len - (j + 1))
          case measure => omega
          case rel => exact ⟨j + 1, by omega, rfl, by go_num, L', k', (unhide Z2).ty, by omega, by omega⟩
    · have b1 : decide ((j : Int) < (len : Int)) = false := by simp; omega
      have hLl : L.length ≤ 80 := by omega
      have hT := hide hP.tab
      obtain ⟨ps, hps⟩ : ∃ ps, sel (fun _ => true) L = ps := ⟨_, rfl⟩
      have hpl : ps.length ≤ 80 := by
        have := sel_len (fun _ => true) L
        rw [hps] at this
        omega
      have hpi : Hid (∀ q ∈ ps, PIn q ∧ q ≠ (0, 0)) := fun q hq => by
        rw [← hps] at hq
        unfold sel at hq
        obtain ⟨y, hy, rfl⟩ := List.mem_map.1 hq
        have := (unhide hT).fo.ok y (List.mem_filter.1 hy).1
        exact ⟨pin_ok this, ok_ne this⟩
      clear hP y1 HR HI
      go_wp2_with fail
      refine (tall (unhide hT)).mono ?_
      rintro e W4 ⟨v4, rfl, P4, K4⟩
      rw [hps] at P4
      obtain ⟨a4, c4, e4⟩ := P4.form
      subst e4
      have hT4 := hide ((unhide hT).grew K4)
      have hri : Hid (Rises (L.map ppl)) := by obtain ⟨m, hp, _⟩ := (unhide hT).tab; exact hp.rises'
      replace P4 := hide P4
      replace hps := hide hps
      clear K4 hT
      go_wp2_with fail
      go_loopg [12] ps.length (fun m i wr => ∃ l : Nat, l ≤ ps.length ∧ m = ps.length - l ∧ i = .int .i64 l ∧ Kp [] W4 wr)
      case atStart => exact ⟨0, Nat.zero_le _, by omega, rfl, Kp.refl _ _⟩
      case round =>
        obtain ⟨l, hl1, rfl, rfl, KR⟩ := hrel
        by_cases hlt2 : l < ps.length
        · have b2 : (l : Int) < (ps.length : Int) := by omega
          have tl : ((l : Int)).toNat = l := Int.toNat_natCast l
          obtain ⟨⟨qn, qs⟩, hq⟩ : ∃ q, ps[l]? = some q := ⟨_, List.getElem?_eq_getElem hlt2⟩
          obtain ⟨hqi, hq0⟩ := unhide hpi _ (List.mem_of_getElem? hq)
          replace hqi := hide hqi
          replace hq0 := hide hq0
          obtain ⟨g, hg⟩ : ∃ g, a4 = some ⟨g, 0, none⟩ := by
            rcases (unhide P4).addr with ⟨_, e⟩ | ⟨g, cap, e, _⟩
            · rw [e] at hlt2; simp at hlt2
            · cases e; exact ⟨g, rfl⟩
          subst hg
          have hX : Hid (∀ w', Kp [] W4 w' → w'.cell? ⟨g, l * 2, none⟩ = some (.int .i64 qn) ∧ w'.cell? ⟨g, l * 2 + 1, none⟩ = some (.int .i64 qs)) := fun w' K => by
            obtain ⟨x0, x1⟩ := (unhide P4).at hq
            exact ⟨K.cell x0, K.cell x1⟩
          obtain ⟨x0, x1⟩ := unhide hX _ KR
          replace KR := hide KR
          replace hq := hide hq
          obtain ⟨C, hC⟩ : ∃ C, sel (kidF qn qs) L = C := ⟨_, rfl⟩
          obtain ⟨D, hD⟩ : ∃ D, sel (lowF L qn qs) L = D := ⟨_, rfl⟩
          have hCl : C.length ≤ 80 := by
            have := sel_len (kidF qn qs) L
            rw [hC] at this
            omega
          have hDl : D.length ≤ 80 := by
            have := sel_len (lowF L qn qs) L
            rw [hD] at this
            omega
          have hCp : Hid (∀ c ∈ C, parL L c.1 c.2 = (qn, qs) ∧ PIn c) := fun c hc => kid_par (unhide hT4).fo (by rw [hC]; exact hc)
          have hDn : Hid (∀ c ∈ D, c ≠ (qn, qs)) := fun c hc => low_ne (unhide hT4).fo (by rw [hD]; exact hc)
          have hDr : Hid (Rises D) := by rw [← hD]; exact sel_rises (unhide hri)
          have hsum : Hid (C.length + psum L C C.length = D.length) := by rw [← hD, ← psum_all (unhide hT4).fo (unhide hq0), hC]; rfl
          replace hC := hide hC
          replace hD := hide hD
          go_wp2_with fail
          refine (tkids ((unhide hT4).grew (unhide KR)) qn qs).mono ?_
          rintro e W5 ⟨v5, rfl, P5, K5⟩
          rw [unhide hC] at P5
          obtain ⟨a5, c5, e5⟩ := P5.form
          subst e5
          have K6 := hide ((unhide KR).then K5)
          replace P5 := hide P5
          clear KR K5 x0 x1
          obtain ⟨x0, x1⟩ := unhide hX _ (unhide K6)
          go_wp2_with fail
          refine (tbelow ((unhide hT4).grew (unhide K6)) (unhide hqi)).mono ?_
          rintro e W7 ⟨v7, rfl, P7, K7⟩
          rw [unhide hD] at P7
          obtain ⟨a7, c7, e7⟩ := P7.form
          subst e7
          have P8 := hide ((unhide P5).kept K7 (by simp))
          have K8 := hide ((unhide K6).then K7)
          replace P7 := hide P7
          clear K6 K7 P5 x0 x1
          go_wp2_with fail
          go_loopg [15, 16] C.length (fun m nv i wr => ∃ h : Nat, h ≤ C.length ∧ m = C.length - h ∧ i = .int .i64 h ∧ nv = .int .i64 ((C.length + psum L C h : Nat) : Int) ∧ Kp [] W7 wr)
          case atStart => exact ⟨0, Nat.zero_le _, by omega, rfl, by rw [psum_zero]; rfl, Kp.refl _ _⟩
          case round =>
            obtain ⟨h, hh1, rfl, rfl, rfl, KS⟩ := hrel
            have hpb := psum_le (L := L) C h (by omega) (by omega)
            obtain ⟨nn, hnn⟩ : ∃ nn, C.length + psum L C h = nn := ⟨_, rfl⟩
            rw [hnn]
            have nb1 : nn ≤ 20000 := by omega
            by_cases hlt3 : h < C.length
            · have b3 : (h : Int) < (C.length : Int) := by omega
              have th : ((h : Int)).toNat = h := Int.toNat_natCast h
              obtain ⟨⟨kn, ks⟩, hc⟩ : ∃ q, C[h]? = some q := ⟨_, List.getElem?_eq_getElem hlt3⟩
              obtain ⟨hpar, hki⟩ := unhide hCp _ (List.mem_of_getElem? hc)
              obtain ⟨g5, hg5⟩ : ∃ g, a5 = some ⟨g, 0, none⟩ := by
                rcases (unhide P8).addr with ⟨_, e⟩ | ⟨g, cap, e, _⟩
                · rw [e] at hlt3; simp at hlt3
                · cases e; exact ⟨g, rfl⟩
              subst hg5
              have hS : Hid (∀ w', Kp [] W7 w' → (fun w' => w'.cell? ⟨g5, h * 2, none⟩ = some (.int .i64 kn) ∧ w'.cell? ⟨g5, h * 2 + 1, none⟩ = some (.int .i64 ks) ∧ w'.cell? ⟨g, l * 2, none⟩ = some (.int .i64 qn) ∧ w'.cell? ⟨g, l * 2 + 1, none⟩ = some (.int .i64 qs)) w') := fun w' K => by
                obtain ⟨x0, x1⟩ := unhide hX _ ((unhide K8).then K)
                obtain ⟨z0, z1⟩ := (unhide P8).at hc
                exact ⟨K.cell z0, K.cell z1, x0, x1⟩
              have hparO := hide (parL_is L kn ks)
              rw [hpar] at hparO
              have hst := hide (psum_step L C hc)
              replace hki := hide hki
              replace hc := hide hc
              obtain ⟨lb, hlb⟩ : ∃ lb, (sel (lowF L kn ks) L).length = lb := ⟨_, rfl⟩
              have lb1 : lb ≤ 80 := by
                have := sel_len (lowF L kn ks) L
                omega
              have KK := hide KS.drew
              replace hnn := hide hnn
              replace hlb := hide hlb
              clear hpar KS
              go_wp2_with fail
              go_region_held3 (fun w' => w'.cell? ⟨g5, h * 2, none⟩ = some (.int .i64 kn) ∧ w'.cell? ⟨g5, h * 2 + 1, none⟩ = some (.int .i64 ks) ∧ w'.cell? ⟨g, l * 2, none⟩ = some (.int .i64 qn) ∧ w'.cell? ⟨g, l * 2 + 1, none⟩ = some (.int .i64 qs)) (exact unhide hS _ (unhide KK)) (first
                | (go_at_call 23; refine (tparent ((unhide hT4).grew ((unhide K8).then (unhide KK))) (unhide hki) (unhide hparO)).mono ?_; rintro e V ⟨rfl, kk⟩; replace KK := hide ((unhide KK).then kk); clear kk))
              obtain ⟨x0, x1, x2, x3⟩ := unhide hS _ (unhide KK)
              go_wp2_with fail
              refine (tbelow ((unhide hT4).grew ((unhide K8).then (unhide KK))) (unhide hki)).mono ?_
              rintro e W9 ⟨v9, rfl, P9, K9⟩
              obtain ⟨a9, c9, e9⟩ := P9.form
              rw [unhide hlb] at e9
              subst e9
              replace KK := hide ((unhide KK).then K9)
              clear P9 K9 x0 x1 x2 x3
              go_wp2
              go_roundg (C.length - (h + 1))
              case measure => omega
              case rel =>
                refine ⟨h + 1, by omega, rfl, by go_num, ?_, unhide KK⟩
                have e1 := unhide hst
                have e2 := unhide hnn
                have e3 := unhide hlb
                have e4 : C.length + psum L C (h + 1) = nn + lb := by omega
                rw [e4]
                go_num
            · have b3 : decide ((h : Int) < (C.length : Int)) = false := by simp; omega
              obtain rfl : h = C.length := by omega
              rw [unhide hsum] at hnn
              subst hnn
              replace KS := hide KS
              clear P8 hCp hC hsum
              go_wp2_with fail
              go_loopg [17] D.length (fun m i wr => ∃ h : Nat, h ≤ D.length ∧ m = D.length - h ∧ i = .int .i64 h ∧ Kp [] W7 wr)
              case atStart => exact ⟨0, Nat.zero_le _, by omega, rfl, unhide KS⟩
              case round =>
                obtain ⟨h, hh1, rfl, rfl, KT⟩ := hrel
                clear KS
                by_cases hlt4 : h < D.length
                · have b4 : (h : Int) < (D.length : Int) := by omega
                  have th : ((h : Int)).toNat = h := Int.toNat_natCast h
                  obtain ⟨⟨kn, ks⟩, hc⟩ : ∃ q, D[h]? = some q := ⟨_, List.getElem?_eq_getElem hlt4⟩
                  have hne := unhide hDn _ (List.mem_of_getElem? hc)
                  obtain ⟨g7, hg7⟩ : ∃ g, a7 = some ⟨g, 0, none⟩ := by
                    rcases (unhide P7).addr with ⟨_, e⟩ | ⟨g, cap, e, _⟩
                    · rw [e] at hlt4; simp at hlt4
                    · cases e; exact ⟨g, rfl⟩
                  subst hg7
                  have hS : Hid (∀ w', Kp [] W7 w' → (fun w' => w'.cell? ⟨g7, h * 2, none⟩ = some (.int .i64 kn) ∧ w'.cell? ⟨g7, h * 2 + 1, none⟩ = some (.int .i64 ks) ∧ w'.cell? ⟨g, l * 2, none⟩ = some (.int .i64 qn) ∧ w'.cell? ⟨g, l * 2 + 1, none⟩ = some (.int .i64 qs)) w') := fun w' K => by
                    obtain ⟨x0, x1⟩ := unhide hX _ ((unhide K8).then K)
                    obtain ⟨z0, z1⟩ := (unhide P7).at hc
                    exact ⟨K.cell z0, K.cell z1, x0, x1⟩
                  have KK := hide KT.drew
                  have hcase : (kn == qn) = false ∨ (kn = qn ∧ (ks == qs) = false) := by
                    by_cases e : kn = qn
                    · refine .inr ⟨e, beq_eq_false_iff_ne.2 fun e2 => hne ?_⟩
                      rw [e, e2]
                    · exact .inl (beq_eq_false_iff_ne.2 e)
                  clear hne
                  by_cases h0 : h = 0
                  · subst h0
                    obtain ⟨x0, x1, x2, x3⟩ := unhide hS _ KT
                    replace KT := hide KT
                    replace hc := hide hc
                    rcases hcase with f1 | ⟨rfl, f1⟩
                    · go_wp2_with fail
                      go_big_region
                      go_wp2
                      go_roundg (D.length - (0 + 1))
                      case measure => omega
                      case rel => exact ⟨0 + 1, by omega, rfl, by go_num, unhide KK⟩
                    · go_wp2_with fail
                      go_big_region
                      go_wp2
                      go_roundg (D.length - (0 + 1))
                      case measure => omega
                      case rel => exact ⟨0 + 1, by omega, rfl, by go_num, unhide KK⟩
                  · obtain ⟨h2, hh2⟩ : ∃ h2, h = h2 + 1 := ⟨h - 1, by omega⟩
                    obtain ⟨⟨jn, js⟩, hc2⟩ : ∃ q, D[h2]? = some q := ⟨_, List.getElem?_eq_getElem (by omega)⟩
                    have hbf := hide (rises_at (unhide hDr) hc2 (by rw [← hh2]; exact hc))
                    have hS2 : Hid (∀ w', Kp [] W7 w' → (fun w' => w'.cell? ⟨g7, h * 2, none⟩ = some (.int .i64 kn) ∧ w'.cell? ⟨g7, h * 2 + 1, none⟩ = some (.int .i64 ks) ∧ w'.cell? ⟨g7, h2 * 2, none⟩ = some (.int .i64 jn) ∧ w'.cell? ⟨g7, h2 * 2 + 1, none⟩ = some (.int .i64 js) ∧ w'.cell? ⟨g, l * 2, none⟩ = some (.int .i64 qn) ∧ w'.cell? ⟨g, l * 2 + 1, none⟩ = some (.int .i64 qs)) w') := fun w' K => by
                      obtain ⟨x0, x1, x2, x3⟩ := unhide hS _ K
                      obtain ⟨z0, z1⟩ := (unhide P7).at hc2
                      exact ⟨x0, x1, K.cell z0, K.cell z1, x2, x3⟩
                    have w1' : IntKind.i64.wrap ((h : Int) - 1) = (h2 : Int) := by rw [IntKind.wrap_i64]; omega
                    have w3' : ((h2 : Int)).toNat = h2 := Int.toNat_natCast h2
                    have b5 : (h2 : Int) < (D.length : Int) := by omega
                    have b6 : decide (0 < (h : Int)) = true := by simp; omega
                    have b7 : (0 : Int) ≤ (h : Int) := by omega
                    have b9 : 0 < h := by omega
                    have b10 : decide (0 < h) = true := decide_eq_true b9
                    have b8 : (0 : Int) ≤ (h2 : Int) := by omega
                    replace hc := hide hc
                    replace hc2 := hide hc2
                    replace hh2 := hide hh2
                    replace h0 := hide h0
                    clear hS
                    replace KT := hide KT
                    rcases hcase with f1 | ⟨rfl, f1⟩
                    · go_wp2_with fail
                      go_region_held3 (fun w' => w'.cell? ⟨g7, h * 2, none⟩ = some (.int .i64 kn) ∧ w'.cell? ⟨g7, h * 2 + 1, none⟩ = some (.int .i64 ks) ∧ w'.cell? ⟨g7, h2 * 2, none⟩ = some (.int .i64 jn) ∧ w'.cell? ⟨g7, h2 * 2 + 1, none⟩ = some (.int .i64 js) ∧ w'.cell? ⟨g, l * 2, none⟩ = some (.int .i64 qn) ∧ w'.cell? ⟨g, l * 2 + 1, none⟩ = some (.int .i64 qs)) (exact unhide hS2 _ (unhide KK)) (first
                        | (go_at_call 31; refine (rbefore_to _ _ _ _ _ _ (unhide hbf)).mono ?_; rintro e V ⟨rfl, kk⟩; replace KK := hide ((unhide KK).then kk); clear kk))
                      go_wp2
                      go_roundg (D.length - (h + 1))
                      case measure => omega
                      case rel => exact ⟨h + 1, by omega, rfl, by go_num, unhide KK⟩
                    · go_wp2_with fail
                      go_region_held3 (fun w' => w'.cell? ⟨g7, h * 2, none⟩ = some (.int .i64 kn) ∧ w'.cell? ⟨g7, h * 2 + 1, none⟩ = some (.int .i64 ks) ∧ w'.cell? ⟨g7, h2 * 2, none⟩ = some (.int .i64 jn) ∧ w'.cell? ⟨g7, h2 * 2 + 1, none⟩ = some (.int .i64 js) ∧ w'.cell? ⟨g, l * 2, none⟩ = some (.int .i64 kn) ∧ w'.cell? ⟨g, l * 2 + 1, none⟩ = some (.int .i64 qs)) (exact unhide hS2 _ (unhide KK)) (first
                        | (go_at_call 31; refine (rbefore_to _ _ _ _ _ _ (unhide hbf)).mono ?_; rintro e V ⟨rfl, kk⟩; replace KK := hide ((unhide KK).then kk); clear kk))
                      go_wp2
                      go_roundg (D.length - (h + 1))
                      case measure => omega
                      case rel => exact ⟨h + 1, by omega, rfl, by go_num, unhide KK⟩
                · have b4 : decide ((h : Int) < (D.length : Int)) = false := by simp; omega
                  obtain ⟨x0, x1⟩ := unhide hX _ ((unhide K8).then KT)
                  replace KT := hide KT
                  obtain ⟨⟨pu, pv⟩, hpar⟩ : ∃ q, parL L qn qs = q := ⟨_, rfl⟩
                  have hpt := par_there (unhide hT4).fo hpar
                  have hparO := hide (parL_is L qn qs)
                  rw [hpar] at hparO
                  have hpin : Hid (PIn (pu, pv)) := by
                    rcases hpt with ⟨q1, q2⟩ | q
                    · rw [q1, q2]; exact pin_zero
                    · rw [look_iff] at q
                      obtain ⟨y, hy, e⟩ := List.mem_map.1 (in_of q)
                      rw [← e]
                      exact pin_ok ((unhide hT4).fo.ok y hy)
                  have hcase : (pu = 0 ∧ pv = 0) ∨ ((pu == 0) = false ∧ (lookS L pu pv).isSome = true) ∨ (pu = 0 ∧ (pv == 0) = false ∧ (lookS L pu pv).isSome = true) := by
                    by_cases e1 : pu = 0
                    · by_cases e2 : pv = 0
                      · exact .inl ⟨e1, e2⟩
                      · exact .inr (.inr ⟨e1, beq_eq_false_iff_ne.2 e2, hpt.resolve_left (fun z => e2 z.2)⟩)
                    · exact .inr (.inl ⟨beq_eq_false_iff_ne.2 e1, hpt.resolve_left (fun z => e1 z.1)⟩)
                  clear hpt hpar
                  go_wp2_with fail
                  refine (tparent ((unhide hT4).grew ((unhide K8).then (unhide KT))) (unhide hqi) (unhide hparO)).mono ?_
                  rintro e V1 ⟨rfl, kk⟩
                  have KU := hide (((unhide KT).then kk).alloc (.cells #[.int .i64 pu, .int .i64 pv] 35))
                  have PU := hide (Bk.new V1 35 [.int .i64 pu, .int .i64 pv])
                  clear kk x0 x1
                  go_wp2_with fail
                  refine (tget ((unhide hT4).grew ((unhide K8).then (unhide KU))) (unhide hpin)).mono ?_
                  rintro e V2 ⟨he, kk2⟩
                  obtain ⟨ck, co, cz, cb, cr, hcap⟩ := capT_form (lookS L pu pv)
                  rw [hcap] at he
                  have KV := hide (((unhide KU).then kk2).alloc (.cells #[.int .i64 ck, .int .i64 co, .int .i64 cz, .int .i64 cb, .int .i64 cr] 43))
                  have PV := ((unhide PU).kept kk2 (by simp)).alloc (.cells #[.int .i64 ck, .int .i64 co, .int .i64 cz, .int .i64 cb, .int .i64 cr] 43)
                  have u0 := PV.cell (i := 0) rfl
                  have u1 := PV.cell (i := 1) rfl
                  clear PV kk2 hcap PU
                  rcases hcase with ⟨rfl, rfl⟩ | ⟨f1, f2⟩ | ⟨rfl, f1, f2⟩
                  · obtain ⟨is, his⟩ : ∃ is, (lookS L 0 0).isSome = is := ⟨_, rfl⟩
                    rw [his] at he
                    subst he
                    replace his := hide his
                    go_wp2
                    go_roundg (ps.length - (l + 1))
                    case measure => omega
                    case rel => exact ⟨l + 1, by omega, rfl, by go_num, (unhide K8).then (unhide KV)⟩
                  · rw [f2] at he
                    subst he
                    replace f2 := hide f2
                    go_wp2
                    go_roundg (ps.length - (l + 1))
                    case measure => omega
                    case rel => exact ⟨l + 1, by omega, rfl, by go_num, (unhide K8).then (unhide KV)⟩
                  · rw [f2] at he
                    subst he
                    replace f2 := hide f2
                    go_wp2
                    go_roundg (ps.length - (l + 1))
                    case measure => omega
                    case rel => exact ⟨l + 1, by omega, rfl, by go_num, (unhide K8).then (unhide KV)⟩
        · have b2 : decide ((l : Int) < (ps.length : Int)) = false := by simp; omega
          have hT5 := hide ((unhide hT4).grew KR)
          clear KR
          go_wp2_with fail
          refine (tkids (unhide hT5) 0 0).mono ?_
          rintro e W6 ⟨v6, rfl, P6, K6⟩
          rw [sel_none 0 0 rfl] at P6
          obtain ⟨a6, c6, e6⟩ := P6.form
          have e6' : v6 = .slice a6 0 c6 := e6
          subst e6'
          have hT6 := hide ((unhide hT5).grew K6)
          clear P6 K6 e6
          go_wp2
          go_ret
          exact ⟨rfl, (unhide hT6).kp.below (Nat.le_refl _) (by simp)⟩
end Go.Proofs.Ytnkpjefbmmhjjaa
