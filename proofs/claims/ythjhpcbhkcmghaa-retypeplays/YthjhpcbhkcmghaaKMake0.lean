/- The document's Make. -/
import Derived.Test.YthjhpcbhkcmghaaKMakeM
import Derived.Deep.DeepCutAuto
namespace Go.Proofs.Ythjhpcbhkcmghaa
open Go.RowKit
set_option linter.unusedVariables false
set_option linter.unusedSimpArgs false
theorem bothC_some {L : List Sl} {n s n' s' : Int} {y : Sl} (h : lkS L n s = some y) : bothC L n s n' s' = 0 ∨ bothC L n s n' s' = 3 ∨ bothC L n s n' s' = 7 := by
  unfold bothC
  rw [h]
  simp only
  split
  · exact .inr (.inr rfl)
  · split
    · exact .inr (.inl rfl)
    · exact .inl rfl
set_option maxRecDepth 4000 in
set_option maxHeartbeats 4000000 in
theorem rmake_calls {base x y : Nat} {L : List Sl} {F : Int × Int → Int} {m : Nat} {w : World} (h : RD base x y L F m w) (hc : ∀ q ∈ L, CapNs q.k q.o q.z) (hF : FB F) (n s n' s' k z : Int) (hL : L.length < 65536) (hm : m < 65530) {R : MkR} (hR : mkR L F n s n' s' k z = R) :
    Calls Try.prog 20 #[.pointer (some ⟨x, 0, none⟩), .pointer (some ⟨y, 0, none⟩), .agg #[.int .i64 n, .int .i64 s], .agg #[.int .i64 n', .int .i64 s'], .int .i64 k, .int .i64 z] w (RKP base x y R k z (m + 2) w) := by
  have B0 := hide (mb_start w n s n' s').1
  have K0 := hide (mb_start w n s n' s').2
  obtain ⟨t, et⟩ : ∃ t, w.heap.size = t := ⟨_, rfl⟩
  rw [et] at B0
  have ht : Hid (w.heap.size ≤ t) := by unfold Hid; omega
  have hxy := hide h.lt
  have hxt : Hid (x < t ∧ y < t) := by rw [← et]; exact hxy
  have H := hide (h.grew (unhide K0))
  obtain ⟨ra0, rc0, r0⟩ := (unhide H).rt
  have hN := rget_lk r0 n s
  replace hc := hide hc
  replace hF := hide hF
  clear h r0
  rcases hN with ⟨hn, hg⟩ | ⟨q, hq, hg⟩
  · rw [mkR_none hn] at hR
    subst hR
    replace hg := hide hg
    clear hn
    go_enter Try.func20, Try.ntmps20
    go_wp2_with fail
    refine (unhide hg).mono ?_
    rintro e W1 ⟨rfl, K1⟩
    have KK := hide (K1.alloc (.cells #[.int .i64 0, .int .i64 0, .int .i64 0, .int .i64 0, .int .i64 0] 38))
    have B1 := hide ((unhide B0).grew (unhide KK))
    have H1 := hide ((unhide H).grew (unhide KK))
    obtain ⟨f1, ⟨u0, u1, u2, u3, u4⟩, ⟨p0, p1⟩, v0, v1⟩ := (unhide B1).facts
    clear et hg K1
    go_wp2
    exact bodyPost_ret (v := .tuple #[.agg #[.int .i64 0, .int .i64 0, .int .i64 0, .int .i64 0, .int .i64 0], .int .i64 4]) (by simp [results, Try.results20, go_sem, *]) rfl ((unhide B1).no1 (unhide H1) ((unhide K0).then (unhide KK)) (unhide ht) (unhide hxy) (by omega) (by decide))
  · have hcap : capOf (lkS L n s) = .agg #[.int .i64 q.k, .int .i64 q.o, .int .i64 q.z, .int .i64 q.b, .int .i64 q.r] := by rw [hq]; rfl
    have hqn := unhide hc q (by obtain ⟨_, e, _⟩ := lk_at hq; exact e)
    obtain ⟨yn, ys, yu, yv, yk, yo, yz, yb, yr⟩ := q
    simp only at hg hcap hqn
    replace hq := hide hq
    replace hg := hide hg
    replace hcap := hide hcap
    have q1 := hqn.o1
    have q2 := hqn.o64
    have q3 := hqn.z0
    have q4 := hqn.z64
    replace hqn := hide hqn
    go_enter Try.func20, Try.ntmps20
    go_wp2_with fail
    refine (unhide hg).mono ?_
    rintro e W1 ⟨rfl, K1⟩
    have KK := hide (K1.alloc (.cells #[.int .i64 yk, .int .i64 yo, .int .i64 yz, .int .i64 yb, .int .i64 yr] 38))
    have C1 := hide (Bk.new W1 38 [.int .i64 yk, .int .i64 yo, .int .i64 yz, .int .i64 yb, .int .i64 yr])
    obtain ⟨C, eC⟩ : ∃ C, W1.heap.size = C := ⟨_, rfl⟩
    rw [eC] at C1
    have hCt : Hid (t + 1 + 1 < C) := by have := (unhide B0).res.lt; have := K1.size; unfold Hid; omega
    have B1 := hide ((unhide B0).grew (unhide KK))
    have H1 := hide ((unhide H).grew (unhide KK))
    replace KK := hide ((unhide K0).then (unhide KK))
    obtain ⟨f1, ⟨u0, u1, u2, u3, u4⟩, ⟨p0, p1⟩, v0, v1⟩ := (unhide B1).facts
    have c0 := (unhide C1).cell (i := 0) rfl
    clear et hg K1 B0 H K0
    by_cases hk : yk = 1
    · subst hk
      rcases bothC_some (n' := n') (s' := s') (unhide hq) with hb | hb
      · replace hb := hide hb
        go_wp2_with fail
        generalize W1.alloc (.cells #[.int .i64 1, .int .i64 yo, .int .i64 yz, .int .i64 yb, .int .i64 yr] 38) = W2 at *
        clear eC
        obtain ⟨ra, rc, r⟩ := (unhide H1).rt
        refine (rboth_to r n s n' s' (unhide hcap) (unhide hb)).mono ?_
        rintro e W3 ⟨rfl, K3⟩
        have K4 := hide (K3.alloc (.cells #[.int .i64 1, .int .i64 yo, .int .i64 yz, .int .i64 yb, .int .i64 yr] 38))
        have C4 := hide ((unhide C1).kept (unhide K4) (by simp))
        have B4 := hide ((unhide B1).grew (unhide K4))
        have H4 := hide ((unhide H1).grew (unhide K4))
        have KK4 := hide ((unhide KK).then (unhide K4))
        clear r K3 K4 C1 B1 H1 KK f1 u0 u1 u2 u3 u4 p0 p1 v0 v1 c0
        go_upto_region 9 with fail
        generalize W3.alloc (.cells #[.int .i64 1, .int .i64 yo, .int .i64 yz, .int .i64 yb, .int .i64 yr] 38) = W4 at *
        obtain ⟨kb, hkb⟩ : ∃ b, kindB k = b := ⟨_, rfl⟩
        go_cut [66] (fun v wx => v = .bool kb ∧ wx = W4)
        case first =>
          by_cases a1 : k = 1
          · subst a1
            have : kb = false := by rw [← hkb]; decide
            subst this
            clear hkb
            go_wp2
            go_meet
            case rel => exact ⟨rfl, rfl⟩
          have b1 : (k != 1) = true := by simp [a1]
          by_cases a2 : k = 2
          · subst a2
            have : kb = false := by rw [← hkb]; decide
            subst this
            clear hkb
            go_wp2
            go_meet
            case rel => exact ⟨rfl, rfl⟩
          have b2 : (k != 2) = true := by simp [a2]
          by_cases a3 : k = 3
          · subst a3
            have : kb = false := by rw [← hkb]; decide
            subst this
            clear hkb
            go_wp2
            go_meet
            case rel => exact ⟨rfl, rfl⟩
          have b3 : (k != 3) = true := by simp [a3]
          by_cases a4 : k = 4
          · subst a4
            have : kb = false := by rw [← hkb]; decide
            subst this
            clear hkb
            go_wp2
            go_meet
            case rel => exact ⟨rfl, rfl⟩
          have b4 : (k != 4) = true := by simp [a4]
          by_cases a5 : k = 5
          · subst a5
            have : kb = false := by rw [← hkb]; decide
            subst this
            clear hkb
            go_wp2
            go_meet
            case rel => exact ⟨rfl, rfl⟩
          have b5 : (k != 5) = true := by simp [a5]
          have : kb = (k != 7) := by rw [← hkb]; unfold kindB; rw [b1, b2, b3, b4, b5]; rfl
          subst this
          clear hkb a1 a2 a3 a4 a5
          go_wp2
          go_meet
          case rel => exact ⟨rfl, rfl⟩
        case rest =>
          obtain ⟨rfl, rfl⟩ := hcut
          obtain ⟨f1, ⟨u0, u1, u2, u3, u4⟩, ⟨p0, p1⟩, v0, v1⟩ := (unhide B4).facts
          cases kb
          · replace hkb := hide hkb
            go_upto_region 11 with fail
            obtain ⟨sb, hsb⟩ : ∃ b, sizeB k z = b := ⟨_, rfl⟩
            go_cut [85] (fun v wx => v = .bool sb ∧ wx = wc)
            case first =>
              by_cases a1 : k = 1
              · subst a1
                by_cases z1 : z < 1
                · have : sb = true := by rw [← hsb]; unfold sizeB; simp [z1]
                  subst this
                  clear hsb
                  go_wp2
                  go_meet
                  case rel => exact ⟨rfl, rfl⟩
                · have z1' : decide (z < 1) = false := decide_eq_false z1
                  by_cases z2 : 64 < z
                  · have : sb = true := by rw [← hsb]; unfold sizeB; simp [z2]
                    subst this
                    clear hsb z1
                    go_wp2
                    go_meet
                    case rel => exact ⟨rfl, rfl⟩
                  · have z2' : decide (64 < z) = false := decide_eq_false z2
                    have : sb = false := by rw [← hsb]; unfold sizeB; rw [z1', z2']; simp
                    subst this
                    clear hsb z1 z2
                    go_wp2
                    go_meet
                    case rel => exact ⟨rfl, rfl⟩
              · have b1 : (k != 1) = true := by simp [a1]
                have b2 : (k == 1) = false := by simp [a1]
                have : sb = (z != 0) := by rw [← hsb]; unfold sizeB; rw [b1, b2]; simp
                subst this
                clear hsb a1
                go_wp2
                go_meet
                case rel => exact ⟨rfl, rfl⟩
            case rest =>
              obtain ⟨rfl, rfl⟩ := hcut
              cases sb
              · have hun := hide (un_fine (unhide hkb) hsb)
                have hzs := size_fine hsb
                obtain ⟨v, hv⟩ : ∃ v, unN k z = v := ⟨_, rfl⟩
                obtain ⟨vlo, vhi⟩ : 1 ≤ v ∧ v ≤ 64 := by
                  rw [← hv]
                  unfold unN
                  rcases hzs with ⟨e, h1, h2⟩ | ⟨e, h1⟩
                  · rw [if_pos e]; omega
                  · rw [if_neg e]; omega
                have hmax : max z 1 = v := by
                  rw [← hv]
                  unfold unN
                  rcases hzs with ⟨e, h1, h2⟩ | ⟨e, h1⟩
                  · rw [if_pos e]; omega
                  · rw [if_neg e]; omega
                replace hzs := hide hzs
                replace hv := hide hv
                obtain ⟨G, hG⟩ : ∃ G, F1 L F yo yz = G := ⟨_, rfl⟩
                have hGB := hide (by rw [← hG]; exact F1_FB (unhide hF) yo yz : FB G)
                obtain ⟨ra, rc, r⟩ := (unhide H4).rt
                obtain ⟨fb, hfb⟩ : ∃ b, freeL L yo yz = b := ⟨_, rfl⟩
                have hfr := rfree_calls r (unhide hc) (b := yb) (r := yr) (unhide hqn)
                rw [hfb] at hfr
                have d1 := (unhide C4).cell (i := 1) rfl
                have d2 := (unhide C4).cell (i := 2) rfl
                have d3 := (unhide C4).cell (i := 3) rfl
                have d4 := (unhide C4).cell (i := 4) rfl
                have d0 := (unhide C4).cell (i := 0) rfl
                clear hsb r
                replace hfr := hide hfr
                replace hmax := hide hmax
                go_wp2_with fail
                refine (unhide hfr).mono ?_
                rintro e W5 ⟨rfl, K5⟩
                have C5 := hide ((unhide C4).kept K5 (by simp))
                have B5 := hide ((unhide B4).grew K5)
                have H5 := hide ((unhide H4).grew K5)
                have KK5 := hide ((unhide KK4).then K5)
                clear K5 C4 B4 H4 KK4 f1 u0 u1 u2 u3 u4 p0 p1 v0 v1 d0 d1 d2 d3 d4 hfr
                have d1 := (unhide C5).cell (i := 1) rfl
                have d2 := (unhide C5).cell (i := 2) rfl
                have d3 := (unhide C5).cell (i := 3) rfl
                have d4 := (unhide C5).cell (i := 4) rfl
                have d0 := (unhide C5).cell (i := 0) rfl
                go_upto_if 89 with fail
                go_cut [] (fun wx => ∃ m1, m1 ≤ m + 1 ∧ RD base x y L G m1 wx ∧ Mb t n s n' s' wx ∧ Bk wx C 38 [.int .i64 1, .int .i64 yo, .int .i64 yz, .int .i64 yb, .int .i64 yr] ∧ Dmc base x y w wx)
                case first =>
                  cases fb
                  · have : G = F := by rw [← hG]; unfold F1; rw [hfb]; simp
                    subst this
                    clear hG
                    go_wp2
                    go_meet
                    case rel => exact ⟨m, by omega, unhide H5, unhide B5, unhide C5, .of (unhide KK5)⟩
                  · have : G = upF F (yo, yz) 0 := by rw [← hG]; unfold F1; rw [hfb]; simp
                    subst this
                    clear hG
                    go_wp2_with fail
                    refine (rrange_calls 1 yo yz yb yr _ yo yz (if_pos rfl) (if_pos rfl)).mono ?_
                    rintro e W6 ⟨rfl, K6⟩
                    have C6 := hide ((unhide C5).kept K6 (by simp))
                    have B6 := hide ((unhide B5).grew K6)
                    have H6 := hide ((unhide H5).grew K6)
                    have KK6 := hide ((unhide KK5).then K6)
                    clear K6 d0 d1 d2 d3 d4
                    go_wp2_with fail
                    refine ((unhide H6).rm.reset (by omega) yo yz).mono ?_
                    rintro e W7 ⟨rfl, hR7, D7⟩
                    have C7 := hide (D7.bk (y := y) (unhide C6) (by have := unhide hCt; have := unhide hxt; omega) (by decide))
                    have B7 := hide ((unhide B6).dmc (Dmc.ofM (x := x) D7) (unhide hxt).1 (unhide hxt).2)
                    have H7 := hide ((unhide H6).turnM D7 hR7)
                    have KK7 := hide ((Dmc.of (base := base) (x := x) (y := y) (unhide KK6)).trans (Dmc.ofM D7))
                    clear hR7 D7
                    go_wp2
                    go_meet
                    case rel => exact ⟨m + 1, by omega, unhide H7, unhide B7, unhide C7, unhide KK7⟩
                case rest =>
                  obtain ⟨m1, hm1, hH6, hB6, hC6, hD6⟩ := hcut
                  have H6 := hide hH6
                  have B6 := hide hB6
                  have C6 := hide hC6
                  have D6 := hide hD6
                  have d0 := hC6.cell (i := 0) rfl
                  have d1 := hC6.cell (i := 1) rfl
                  have d2 := hC6.cell (i := 2) rfl
                  have d3 := hC6.cell (i := 3) rfl
                  have d4 := hC6.cell (i := 4) rfl
                  clear hH6 hB6 hC6 hD6 H5 B5 C5 KK5 hfb
                  go_wp2_with fail
                  refine (rrange_calls 1 yo yz yb yr _ yo yz (if_pos rfl) (if_pos rfl)).mono ?_
                  rintro e W7 ⟨rfl, K7⟩
                  have B7 := hide ((unhide B6).grew K7)
                  have H7 := hide ((unhide H6).grew K7)
                  have D7 := hide ((unhide D6).trans (.of K7))
                  clear K7 d0 d1 d2 d3 d4 B6 H6 D6
                  go_wp2_with fail
                  rw [unhide hmax]
                  obtain ⟨u, hu⟩ : ∃ u, G (yo, yz) = u := ⟨_, rfl⟩
                  obtain ⟨u0', u64⟩ : 0 ≤ u ∧ u ≤ 64 := by rw [← hu]; exact unhide hGB _
                  have w1 : IntKind.i64.wrap (yz - u) = yz - u := by rw [IntKind.wrap_i64]; omega
                  have w2 : IntKind.i64.wrap (u + v) = u + v := by rw [IntKind.wrap_i64]; omega
                  have w3 : IntKind.i64.wrap (yo + u) = yo + u := by rw [IntKind.wrap_i64]; omega
                  by_cases hno : yz - u < v
                  · rw [mkR_mem (unhide hq) rfl (unhide hb) (unhide hun) hG (by rw [hu, unhide hv]; exact hno)] at hR
                    subst hR
                    refine ((unhide H7).rm.no hu w1 (.inr hno)).mono ?_
                    rintro e W8 ⟨rfl, K8⟩
                    have B8 := hide ((unhide B7).grew K8)
                    have H8 := hide ((unhide H7).grew K8)
                    have D8 := hide ((unhide D7).trans (.of K8))
                    obtain ⟨f1, ⟨u0, u1, u2, u3, u4⟩, ⟨p0, p1⟩, v0, v1'⟩ := (unhide B8).facts
                    clear K8 B7 H7 D7 w1 w2 w3 hno hG hu
                    go_wp2
                    exact bodyPost_ret (v := .tuple #[.agg #[.int .i64 0, .int .i64 0, .int .i64 0, .int .i64 0, .int .i64 0], .int .i64 8]) (by simp [results, Try.results20, go_sem, *]) rfl (RKP.no (unhide B8) (unhide H8) (unhide D8) (unhide ht) (unhide hxy) (by omega) (by decide))
                  · rw [mkR_yes (unhide hq) rfl (unhide hb) (unhide hun) hG hu (unhide hv) hno] at hR
                    subst hR
                    refine ((unhide H7).rm.yes (by omega) hu w1 w2 w3 (by omega) (by omega)).mono ?_
                    rintro e W8 ⟨rfl, hR8, T8⟩
                    have B8 := hide ((unhide B7).dmc (Dmc.ofM (x := x) T8) (unhide hxt).1 (unhide hxt).2)
                    have H8 := hide ((unhide H7).turnM T8 hR8)
                    have D8 := hide ((unhide D7).trans (Dmc.ofM T8))
                    obtain ⟨o, ho⟩ : ∃ o, yo + u = o := ⟨_, rfl⟩
                    rw [ho]
                    have E9 := hide (Bk.new W8 38 [.int .i64 k, .int .i64 o, .int .i64 z, .int .i64 0, .int .i64 7])
                    have B9 := hide ((unhide B8).grew ((Kp.refl [] W8).alloc (.cells #[.int .i64 k, .int .i64 o, .int .i64 z, .int .i64 0, .int .i64 7] 38)))
                    have H9 := hide ((unhide H8).grew ((Kp.refl [] W8).alloc (.cells #[.int .i64 k, .int .i64 o, .int .i64 z, .int .i64 0, .int .i64 7] 38)))
                    have D9 := hide ((unhide D8).trans (.of ((Kp.refl [] W8).alloc (.cells #[.int .i64 k, .int .i64 o, .int .i64 z, .int .i64 0, .int .i64 7] 38))))
                    have hE : Hid (x < W8.heap.size ∧ y < W8.heap.size ∧ t + 1 + 1 < W8.heap.size) := ⟨(unhide H8).lt.1, (unhide H8).lt.2, (unhide B8).res.lt⟩
                    replace ho := hide ho
                    obtain ⟨f1, ⟨u0, u1, u2, u3, u4⟩, ⟨p0, p1⟩, v0, v1'⟩ := (unhide B9).facts
                    clear hR8 T8 B7 H7 D7 w1 w2 w3 hno hG hu
                    go_wp2_with fail
                    generalize W8.alloc (.cells #[.int .i64 k, .int .i64 o, .int .i64 z, .int .i64 0, .int .i64 7] 38) = W9 at *
                    obtain ⟨ra, rc, r⟩ := (unhide H9).rt
                    refine (rput_any r n' s' k o z 0 7 n s hL).mono ?_
                    rintro e W10 ⟨rfl, hT, K10⟩
                    have B10 := hide ((unhide B9).dmc (Dmc.ofT (base := base) (y := y) K10) (unhide hxt).1 (unhide hxt).2)
                    have H10 := hide ((unhide H9).turnT K10 hT)
                    have D10 := hide ((unhide D9).trans (Dmc.ofT K10))
                    have E10 := hide ((unhide E9).kept K10 (by have := (unhide hE).1; simp; omega))
                    clear r hT K10 B9 H9 D9 E9 B8 H8 D8 f1 u0 u1 u2 u3 u4 p0 p1 v0 v1'
                    obtain ⟨f1, ⟨u0, u1, u2, u3, u4⟩, ⟨p0, p1⟩, v0, v1'⟩ := (unhide B10).facts
                    have e0 := (unhide E10).cell (i := 0) rfl
                    have e1 := (unhide E10).cell (i := 1) rfl
                    have e2 := (unhide E10).cell (i := 2) rfl
                    have e3 := (unhide E10).cell (i := 3) rfl
                    have e4 := (unhide E10).cell (i := 4) rfl
                    go_wp2
                    refine bodyPost_ret (v := .tuple #[.agg #[.int .i64 k, .int .i64 o, .int .i64 z, .int .i64 0, .int .i64 7], .int .i64 0]) (by simp [results, Try.results20, go_sem, *]) rfl ?_
                    rw [unhide ho]
                    exact RKP.yes (unhide B10) (unhide H10) (unhide D10) (unhide ht) (unhide hxy) (by omega)
              · rw [mkR_un (unhide hq) rfl (unhide hb) (un_size (unhide hkb) hsb) (by decide)] at hR
                subst hR
                clear hsb
                go_wp2
                exact bodyPost_ret (v := .tuple #[.agg #[.int .i64 0, .int .i64 0, .int .i64 0, .int .i64 0, .int .i64 0], .int .i64 7]) (by simp [results, Try.results20, go_sem, *]) rfl ((unhide B4).no1 (unhide H4) (unhide KK4) (unhide ht) (unhide hxy) (by omega) (by decide))
          · rw [mkR_un (unhide hq) rfl (unhide hb) (un_bad hkb) (by decide)] at hR
            subst hR
            clear hkb
            go_wp2
            exact bodyPost_ret (v := .tuple #[.agg #[.int .i64 0, .int .i64 0, .int .i64 0, .int .i64 0, .int .i64 0], .int .i64 5]) (by simp [results, Try.results20, go_sem, *]) rfl ((unhide B4).no1 (unhide H4) (unhide KK4) (unhide ht) (unhide hxy) (by omega) (by decide))
      · have hbz : bothC L n s n' s' ≠ 0 := by rcases hb with e | e <;> rw [e] <;> decide
        clear hb
        obtain ⟨bc, hb⟩ : ∃ bc, bothC L n s n' s' = bc := ⟨_, rfl⟩
        rw [hb] at hbz
        rw [mkR_both (unhide hq) rfl hb hbz] at hR
        subst hR
        replace hb := hide hb
        have hbz' : (bc != 0) = true := by simp [hbz]
        replace hbz := hide hbz
        go_wp2_with fail
        obtain ⟨ra, rc, r⟩ := (unhide H1).rt
        refine (rboth_to r n s n' s' (unhide hcap) (unhide hb)).mono ?_
        rintro e W3 ⟨rfl, K3⟩
        have K4 := hide (K3.alloc (.cells #[.int .i64 1, .int .i64 yo, .int .i64 yz, .int .i64 yb, .int .i64 yr] 38))
        have B4 := hide ((unhide B1).grew (unhide K4))
        have H4 := hide ((unhide H1).grew (unhide K4))
        have KK4 := hide ((unhide KK).then (unhide K4))
        clear r K3 K4 C1 B1 H1 KK f1 u0 u1 u2 u3 u4 p0 p1 v0 v1 c0
        obtain ⟨f1, ⟨u0, u1, u2, u3, u4⟩, ⟨p0, p1⟩, v0, v1⟩ := (unhide B4).facts
        go_wp2
        exact bodyPost_ret (v := .tuple #[.agg #[.int .i64 0, .int .i64 0, .int .i64 0, .int .i64 0, .int .i64 0], .int .i64 bc]) (by simp [results, Try.results20, go_sem, *]) rfl ((unhide B4).no1 (unhide H4) (unhide KK4) (unhide ht) (unhide hxy) (by omega) (unhide hbz))
    · rw [mkR_kind (unhide hq) hk] at hR
      subst hR
      have hk' : (yk != 1) = true := by simp [hk]
      clear hk
      go_wp2
      exact bodyPost_ret (v := .tuple #[.agg #[.int .i64 0, .int .i64 0, .int .i64 0, .int .i64 0, .int .i64 0], .int .i64 5]) (by simp [results, Try.results20, go_sem, *]) rfl ((unhide B1).no1 (unhide H1) (unhide KK) (unhide ht) (unhide hxy) (by omega) (by decide))
end Go.Proofs.Ythjhpcbhkcmghaa
