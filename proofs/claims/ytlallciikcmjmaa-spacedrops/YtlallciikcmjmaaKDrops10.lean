/- The walk of SpaceDrops. -/
import Derived.Test.YtlallciikcmjmaaKSameG
import Derived.Test.YtlallciikcmjmaaKSpIn
import Derived.Test.YtlallciikcmjmaaKArgs
import Derived.Test.YtlallciikcmjmaaKRef
namespace Go.Proofs.Ytlallciikcmjmaa
open Go.RowKit
set_option linter.unusedVariables false
set_option linter.unusedSimpArgs false
theorem Ints.cellDr {w w' : World} {a : Option Addr} {zs : List Int} (h : Ints .i64 w a zs) (k : Kp [] w w') {j : Nat} (hj : j < zs.length) : ∃ b off, a = some ⟨b, off, none⟩ ∧ w'.cell? ⟨b, off + j, none⟩ = some (.int .i64 (zs.getD j 0)) := by
  obtain ⟨_, _, hz | ⟨b, off, rfl, hc⟩⟩ := h
  · omega
  · exact ⟨b, off, rfl, k.cell (hc j hj)⟩
theorem spall_len {w wr : World} {y : Nat} {L : List Pg} (h : SpIn w y L wr) {n : Nat} (hn : L.length = n) :
    Calls Try.prog 12 #[.pointer (some ⟨y, 0, none⟩)] wr fun e w' => ∃ a c, e = .returned (.slice a n c) ∧ GV w' (.slice a n c) (pgs L) ∧ Kp [] wr w' := by
  have hs := h.small
  refine (spall h rfl).mono ?_
  rintro e w' ⟨v, rfl, hR, K⟩
  obtain ⟨a, c, rfl⟩ := hR.form
  have hl : (pgs L).length = n := by rw [pgs_len, hn]
  have G := GV.of hR (by omega)
  rw [hl] at G
  exact ⟨a, c, by rw [hl], G, K⟩
theorem cnt_ins (F : Pg → Bool) (L : List Pg) (x : Pg) : ((pgIns L x).filter F).length = (L.filter F).length + (if F x = true then 1 else 0) := by
  rw [((pgIns_perm L x).filter F).length_eq, List.filter_append, List.length_append]
  by_cases h : F x = true
  · rw [if_pos h, List.filter_cons_of_pos h]; rfl
  · rw [if_neg h, List.filter_cons_of_neg h]; rfl
def ofL (fr : Int) (L : List Pg) : Nat := (L.filter fun x => x.f == fr).length
def inL (fr sp : Int) (L : List Pg) : Nat := (L.filter fun x => x.f != fr && x.s == sp).length
theorem ofL_le (fr : Int) (L : List Pg) : ofL fr L ≤ L.length := List.length_filter_le _ _
theorem len_parts (F : Pg → Bool) (L : List Pg) : L.length = (L.filter F).length + (L.filter fun x => !F x).length := by
  induction L with
  | nil => rfl
  | cons x L ih =>
    cases h : F x
    · rw [List.filter_cons_of_neg (by simp [h]), List.filter_cons_of_pos (p := fun x => !F x) (by simp [h]), List.length_cons, List.length_cons, ih]; omega
    · rw [List.filter_cons_of_pos h, List.filter_cons_of_neg (p := fun x => !F x) (by simp [h]), List.length_cons, List.length_cons, ih]; omega
theorem drop_cnt (fr : Int) (L : List Pg) : L.length = ofL fr L + (L.filter fun x => x.f != fr).length := len_parts (fun x => x.f == fr) L
theorem empty_cnt (fr sp : Int) (L : List Pg) : (L.filter fun x => x.f != fr).length = inL fr sp L + ((L.filter fun x => x.f != fr).filter fun x => x.s != sp).length := by
  have h := len_parts (fun x => x.s == sp) (L.filter fun x => x.f != fr)
  have e : ((L.filter fun x => x.f != fr).filter fun x => x.s == sp).length = inL fr sp L := by
    unfold inL
    rw [List.filter_filter]
    congr 1
    refine List.filter_congr fun x _ => ?_
    rw [Bool.and_comm]
  rw [e] at h
  exact h
theorem filter_same (F : Pg → Bool) (L : List Pg) : (L.filter F).filter F = L.filter F := by rw [List.filter_filter]; exact List.filter_congr fun x _ => Bool.and_self _
theorem pgGet_self {M : List Pg} (hr : PgRises M) {x : Pg} (hx : x ∈ M) : pgGet M x.s x.p = some x := by
  cases hg : pgGet M x.s x.p with
  | none => exact absurd ⟨rfl, rfl⟩ (pgAt_none.1 (pgGet_none hg) x hx)
  | some y =>
    obtain ⟨hy, e1, e2⟩ := pgGet_mem hg
    obtain ⟨i, hi, rfl⟩ := List.mem_iff_getElem.1 hx
    obtain ⟨k, hk, rfl⟩ := List.mem_iff_getElem.1 hy
    have h1 := List.pairwise_iff_getElem.1 hr
    rcases Nat.lt_trichotomy i k with q | q | q
    · have := (pgBef_iff _ _ _ _).1 (h1 i k hi hk q); omega
    · subst q; rfl
    · have := (pgBef_iff _ _ _ _).1 (h1 k i hk hi q); omega
set_option maxHeartbeats 400000 in
theorem drops_long (a0 : Option Addr) (len cap : Nat) (f0 s0 : Int) (w : World) (hl : 20 < len) :
    Calls Try.prog 6 #[.slice a0 len cap, .int .i64 f0, .int .i64 s0] w fun e w' => e = .returned (.bool true) ∧ Below w.heap.size w w' := by
  have h2 : (20 : Int) < (len : Int) := by omega
  go_enter Try.func6, Try.ntmps6
  go_wp2_with fail
  refine (first_calls _).mono ?_
  rintro e W0 ⟨rfl, K0⟩
  go_wp2
  go_ret
  exact ⟨rfl, K0.below (Nat.le_refl _) (by simp)⟩
set_option maxRecDepth 8000 in
set_option maxHeartbeats 8000000 in
theorem drops_in (a0 : Option Addr) (cap : Nat) (zs : List Int) (f0 s0 fr sp : Int) (w : World) (hl : zs.length ≤ 20) (hI : Ints .i64 w a0 zs) (hf0 : f0 % 4 = fr - 1) (hs0 : s0 % 3 = sp - 1) :
    Calls Try.prog 6 #[.slice a0 zs.length cap, .int .i64 f0, .int .i64 s0] w fun e w' => e = .returned (.bool true) ∧ Below w.heap.size w w' := by
  have h2 : decide ((20 : Int) < (zs.length : Int)) = false := by simp; omega
  have frb : 1 ≤ fr ∧ fr ≤ 4 := by omega
  have spb : 1 ≤ sp ∧ sp ≤ 3 := by omega
  have HI := hide hI
  clear hI
  obtain ⟨n, hn⟩ : ∃ n, zs.length = n := ⟨_, rfl⟩
  rw [hn] at h2 hl
  rw [hn]
  replace hn := hide hn
  replace hf0 := hide hf0
  replace hs0 := hide hs0
  have hfr1 : 1 + (fr - 1) = fr := by omega
  have hsp1 : 1 + (sp - 1) = sp := by omega
  have hfrw : IntKind.i64.wrap fr = fr := by rw [IntKind.wrap_i64]; omega
  have hspw : IntKind.i64.wrap sp = sp := by rw [IntKind.wrap_i64]; omega
  go_enter Try.func6, Try.ntmps6
  go_wp2_with fail
  refine (first_calls _).mono ?_
  rintro e w1 ⟨rfl, K0⟩
  replace K0 := hide K0
  go_wp2_with fail
  refine (number_to _ _ _ _ (by decide) (by decide) (unhide hf0)).mono ?_
  rintro e w1 ⟨rfl, rfl⟩
  go_wp2_with fail
  refine (number_to _ _ _ _ (by decide) (by decide) (unhide hs0)).mono ?_
  rintro e w1 ⟨rfl, rfl⟩
  have X0 := hide (SpIn.of (unhide K0) rfl (Kp.refl [] _))
  obtain ⟨t, et⟩ : ∃ t, w1.heap.size = t := ⟨_, rfl⟩
  rw [et] at X0
  have htw : w.heap.size ≤ t := by rw [← et]; exact (unhide K0).size
  replace htw := hide htw
  clear K0
  go_wp2_with fail
  generalize w1.alloc (.cells #[.map none] 26) = w2 at *
  clear et
  go_loopg [9, 10, 11, 12] n (fun m vn vo vi i wr => ∃ (j : Nat) (L : List Pg), j ≤ n ∧ m = n - j ∧ i = .int .i64 j ∧ vn = .int .i64 (L.length : Int) ∧ vo = .int .i64 (ofL fr L : Int) ∧ vi = .int .i64 (inL fr sp L : Int) ∧ SpIn w t L wr ∧ L.length ≤ j)
  case atStart => exact ⟨0, [], Nat.zero_le _, by omega, rfl, rfl, rfl, rfl, unhide X0, Nat.le_refl _⟩
  case round =>
    obtain ⟨j, L, hj, rfl, rfl, rfl, rfl, rfl, hT, hSl⟩ := hrel
    clear X0
    have hof := ofL_le fr L
    have hdc := drop_cnt fr L
    have hec := empty_cnt fr sp L
    generalize hcn : L.length = cn at *
    generalize hco : ofL fr L = co at *
    generalize hci : inL fr sp L = ci at *
    by_cases hlt : j < n
    · have b1 : (j : Int) < (n : Int) := by omega
      have b2 : ((j : Int)).toNat = j := Int.toNat_natCast j
      obtain ⟨b, off, ea, ce⟩ := (unhide HI).cellDr hT.kp (j := j) (by have := unhide hn; omega)
      subst ea
      obtain ⟨z, hz⟩ : ∃ z, zs.getD j 0 = z := ⟨_, rfl⟩
      rw [hz] at ce
      obtain ⟨m3, hm3⟩ : ∃ m, z % 3 = m := ⟨_, rfl⟩
      obtain ⟨z3, hz3⟩ : ∃ q, IntKind.i64.wrap (z.tdiv 3) = q := ⟨_, rfl⟩
      obtain ⟨m8, hm8⟩ : ∃ m, z3 % 8 = m := ⟨_, rfl⟩
      obtain ⟨z24, hz24⟩ : ∃ q, IntKind.i64.wrap (z.tdiv 24) = q := ⟨_, rfl⟩
      obtain ⟨m4, hm4⟩ : ∃ m, z24 % 4 = m := ⟨_, rfl⟩
      have m3b : 0 ≤ m3 ∧ m3 < 3 := by omega
      have m8b : 0 ≤ m8 ∧ m8 < 8 := by omega
      have m4b : 0 ≤ m4 ∧ m4 < 4 := by omega
      obtain ⟨s, hs⟩ : ∃ s, 1 + m3 = s := ⟨_, rfl⟩
      obtain ⟨f, hf⟩ : ∃ f, 1 + m4 = f := ⟨_, rfl⟩
      have sb : 1 ≤ s ∧ s ≤ 3 := by omega
      have fb : 1 ≤ f ∧ f ≤ 4 := by omega
      have hws : IntKind.i64.wrap s = s := by rw [IntKind.wrap_i64]; omega
      have hwf : IntKind.i64.wrap f = f := by rw [IntKind.wrap_i64]; omega
      have hN3 := hide hm3
      have hN8 := hide hm8
      have hN4 := hide hm4
      have hcn' := hide hcn
      have hco' := hide hco
      have hci' := hide hci
      have hSl' := hide hSl
      have hcb : co ≤ cn ∧ cn ≤ j ∧ ci ≤ cn := ⟨hof, hSl, by omega⟩
      obtain ⟨is, his⟩ : ∃ v, (pgGet L s m8).isSome = v := ⟨_, rfl⟩
      obtain ⟨ga, gb, hV⟩ := mapV_form (pgGet L s m8)
      have hi : Hid (PgIn (s, m8)) := pgIn_of (by omega) (by omega)
      have hset : Hid (is = false → setP L s m8 f 1) := fun e => by
        rw [setP_iff]
        refine ⟨by unfold pageOk; rw [Bool.and_eq_true, unitOk_iff]; unfold unitP; simp; omega, by unfold mapOk; rw [Bool.and_eq_true, unitOk_iff]; unfold unitP; simp; omega, ?_⟩
        cases ha : pgAt L s m8 with
        | none => rfl
        | some q =>
          have := pgGet_isSome.2 (show pgAt L s m8 ≠ none by rw [ha]; simp)
          rw [his, e] at this
          cases this
      have hset2 : Hid (is = true → ¬ setP L s m8 f 1) := fun e q => by
        have h9 := pgGet_isNone (setP_iff.1 q).2.2
        rw [his, e] at h9
        cases h9
      have hLs : Hid (L.length < 65536) := by unfold Hid; omega
      have hT' := hide hT
      have hV' := hide hV
      have his' := hide his
      have hlt2 := hide hT.lt
      clear hz hm3 hm8 hm4 hT hSl hof hdc hec hcn hco hci hV his
      have K0 := hide (Kp.refl [] wr)
      have cw : Hid (∀ w', Kp [] wr w' → w'.cell? ⟨b, off + j, none⟩ = some (.int .i64 z)) := fun w' k => k.cell ce
      go_wp2_with fail
      go_region_held3 (fun w' => w'.cell? ⟨b, off + j, none⟩ = some (.int .i64 z)) (first | exact unhide cw _ ((unhide K0).drew) | exact unhide cw _ (((unhide K0).alloc _).drew)) (first
        | (go_at_call 9; (with_reducible refine (number_to z 3 m3 _ (by decide) (by decide) (unhide hN3)).mono ?_); rintro e V1 ⟨rfl, rfl⟩)
        | (go_at_call 9; (with_reducible refine (number_to z3 8 m8 _ (by decide) (by decide) (unhide hN8)).mono ?_); rintro e V1 ⟨rfl, rfl⟩))
      all_goals
        have KA := (Kp.refl [] wr).alloc (.cells #[.int .i64 s, .int .i64 m8] 30)
        have B5 := hide ((Bk.new wr 30 [.int .i64 s, .int .i64 m8]).kept ((Kp.refl [] _).drew) (by simp))
        have K5 := hide (KA.drew)
        have ce5 := unhide cw _ (unhide K5)
        clear KA cw K0 ce
        generalize (wr.alloc (.cells #[.int .i64 s, .int .i64 m8] 30)).drew = W5 at *
        have X5 := hide ((unhide hT').grew (unhide K5))
        have hD : Hid (t < wr.heap.size) := unhide hlt2
        clear hT' K5 hlt2
        generalize wr.heap.size = D at *
        have c0 := (unhide B5).cell (i := 0) rfl
        have c1 := (unhide B5).cell (i := 1) rfl
        go_wp2_with fail
        refine (number_to _ _ _ _ (by decide) (by decide) (unhide hN4)).mono ?_
        rintro e W5' ⟨rfl, rfl⟩
        go_wp2_with fail
        refine (spget (unhide X5) (unhide hi) (unhide hV') (unhide his')).mono ?_
        rintro e W6 ⟨rfl, K6⟩
        have K7 := hide (K6.alloc (.cells #[.int .i64 ga, .int .i64 gb] 34))
        have X7 := hide ((unhide X5).grew (unhide K7))
        have B7 := hide ((unhide B5).kept (unhide K7) (by simp))
        clear X5 B5 K6 c0 c1 ce5
        have c0 := (unhide B7).cell (i := 0) rfl
        have c1 := (unhide B7).cell (i := 1) rfl
        clear K7
        cases is
        · have hs9 := hide (unhide hset rfl)
          obtain ⟨L', hL'⟩ : ∃ L', pgIns L ⟨s, m8, f, 1⟩ = L' := ⟨_, rfl⟩
          have q1 : L'.length = cn + 1 := by rw [← hL', pgIns_len, unhide hcn']
          have q2 : ofL fr L' = co + (if f == fr then 1 else 0) := by rw [← hL']; unfold ofL; rw [cnt_ins]; show ofL fr L + _ = _; rw [unhide hco']
          have q3 : inL fr sp L' = ci + (if f != fr && s == sp then 1 else 0) := by rw [← hL']; unfold inL; rw [cnt_ins]; show inL fr sp L + _ = _; rw [unhide hci']
          replace q1 := hide q1
          replace q2 := hide q2
          replace q3 := hide q3
          go_wp2_with fail
          refine (spset_yes (unhide X7) (unhide hs9) (unhide hLs) hL').mono ?_
          rintro e W8 ⟨rfl, X8, S8⟩
          have B8 := hide (S8.bk (unhide B7) (by have := unhide hD; omega))
          replace X8 := hide X8
          clear X7 B7 S8 c0 c1 hL' hset hset2
          have c0 := (unhide B8).cell (i := 0) rfl
          have c1 := (unhide B8).cell (i := 1) rfl
          by_cases e1 : f = fr
          · have e1' : (f == fr) = true := beq_iff_eq.2 e1
            have q2' : ofL fr L' = co + 1 := by rw [unhide q2, e1']; rfl
            have q3' : inL fr sp L' = ci := by rw [unhide q3]; simp [e1]
            replace q2' := hide q2'
            replace q3' := hide q3'
            clear e1
            go_wp2
            go_roundg (n - (j + 1))
            case measure => omega
            case rel => exact ⟨j + 1, L', by omega, rfl, by go_num, by rw [unhide q1]; go_num, by rw [unhide q2']; go_num, by rw [unhide q3'], unhide X8, by have := unhide q1; omega⟩
          · have e1' : (f == fr) = false := beq_eq_false_iff_ne.2 e1
            have q2' : ofL fr L' = co := by rw [unhide q2, e1']; rfl
            by_cases e2 : s = sp
            · have e2' : (s == sp) = true := beq_iff_eq.2 e2
              have q3' : inL fr sp L' = ci + 1 := by rw [unhide q3]; simp [e1, e2]
              replace q2' := hide q2'
              replace q3' := hide q3'
              clear e1 e2
              go_wp2
              go_roundg (n - (j + 1))
              case measure => omega
              case rel => exact ⟨j + 1, L', by omega, rfl, by go_num, by rw [unhide q1]; go_num, by rw [unhide q2'], by rw [unhide q3']; go_num, unhide X8, by have := unhide q1; omega⟩
            · have e2' : (s == sp) = false := beq_eq_false_iff_ne.2 e2
              have q3' : inL fr sp L' = ci := by rw [unhide q3]; simp [e2]
              replace q2' := hide q2'
              replace q3' := hide q3'
              clear e1 e2
              go_wp2
              go_roundg (n - (j + 1))
              case measure => omega
              case rel => exact ⟨j + 1, L', by omega, rfl, by go_num, by rw [unhide q1]; go_num, by rw [unhide q2'], by rw [unhide q3'], unhide X8, by have := unhide q1; omega⟩
        · have hs9 := hide (unhide hset2 rfl)
          go_wp2_with fail
          refine (spset_no (unhide X7) (unhide hi) (unhide hs9)).mono ?_
          rintro e W8 ⟨rfl, K8⟩
          have X8 := hide ((unhide X7).grew K8)
          clear X7 B7 K8 c0 c1 hset hset2
          go_wp2
          go_roundg (n - (j + 1))
          case measure => omega
          case rel => exact ⟨j + 1, L, by omega, rfl, by go_num, by rw [unhide hcn'], by rw [unhide hco'], by rw [unhide hci'], unhide X8, by have := unhide hcn'; have := unhide hSl'; omega⟩
    · have b1 : decide ((j : Int) < (n : Int)) = false := decide_eq_false (by omega)
      obtain ⟨M, hM⟩ : ∃ M, (L.filter fun x => x.f != fr) = M := ⟨_, rfl⟩
      obtain ⟨N, hN⟩ : ∃ N, (M.filter fun x => x.s != sp) = N := ⟨_, rfl⟩
      rw [hM] at hdc hec
      rw [hN] at hec
      obtain ⟨cm, hcm⟩ : ∃ c, M.length = c := ⟨_, rfl⟩
      obtain ⟨ck, hck⟩ : ∃ c, N.length = c := ⟨_, rfl⟩
      have hMM : Hid ((M.filter fun x => x.f != fr) = M) := by unfold Hid; rw [← hM]; exact filter_same _ _
      have hNN : Hid ((N.filter fun x => x.s != sp) = N) := by unfold Hid; rw [← hN]; exact filter_same _ _
      have hMf : Hid (∀ x ∈ M, x.f ≠ fr) := fun x hx => by
        rw [← hM] at hx
        have := (List.mem_filter.1 hx).2
        simpa using this
      have g1 : cn = co + cm := by omega
      have g2 : cm = ci + ck := by omega
      have hM' := hide hM
      have hN' := hide hN
      have hcn' := hide hcn
      have hcm' := hide hcm
      have hck' := hide hck
      have hd1 : Hid ((L.length : Int) - (M.length : Int) = (co : Int)) := by unfold Hid; omega
      have hd2 : Hid ((M.length : Int) - (M.length : Int) = 0) := by unfold Hid; omega
      have hd3 : Hid ((M.length : Int) - (N.length : Int) = (ci : Int)) := by unfold Hid; omega
      have hd4 : Hid ((N.length : Int) - (N.length : Int) = 0) := by unfold Hid; omega
      have hs1 : (cn : Int) - (co : Int) = (cm : Int) := by omega
      have hs2 : (cm : Int) - (ci : Int) = (ck : Int) := by omega
      have hw1 : IntKind.i64.wrap (cm : Int) = (cm : Int) := by rw [IntKind.wrap_i64]; omega
      have hw2 : IntKind.i64.wrap (ck : Int) = (ck : Int) := by rw [IntKind.wrap_i64]; omega
      have hcm20 : cm ≤ 20 := by omega
      have X1 := hide hT
      clear hT hSl hof hdc hec hcn hco hci hM hN hcm hck g1 g2
      go_wp2_with fail
      refine (spall_len (unhide X1) (unhide hcn')).mono ?_
      rintro e W2 ⟨a2, c2, rfl, _, K2⟩
      have X2 := hide ((unhide X1).grew K2)
      clear X1 K2
      go_wp2_with fail
      refine (spdrop (unhide X2) (unhide hM') (unhide hd1)).mono ?_
      rintro e W3 ⟨rfl, X3, _⟩
      replace X3 := hide X3
      clear X2
      go_wp2_with fail
      refine (spdrop (unhide X3) (unhide hMM) (unhide hd2)).mono ?_
      rintro e W4 ⟨rfl, X4, _⟩
      replace X4 := hide X4
      clear X3
      go_wp2_with fail
      refine (spall_len (unhide X4) (unhide hcm')).mono ?_
      rintro e W5 ⟨a5, c5, rfl, _, K5⟩
      have X5 := hide ((unhide X4).grew K5)
      clear X4 K5
      go_wp2_with fail
      refine (spall_len (unhide X5) (unhide hcm')).mono ?_
      rintro e W6 ⟨a6, c6, rfl, G6, K6⟩
      have X6 := hide ((unhide X5).grew K6)
      have G6' := hide G6
      clear X5 K6 G6
      go_wp2_with fail
      go_loopg [18] cm (fun m i wr => ∃ j : Nat, j ≤ cm ∧ m = cm - j ∧ i = .int .i64 j ∧ Kp [] W6 wr)
      case atStart => exact ⟨0, Nat.zero_le _, by omega, rfl, Kp.refl _ _⟩
      case round =>
        obtain ⟨j, hj, rfl, rfl, hK⟩ := hrel
        by_cases hlt : j < cm
        · obtain ⟨x, hx⟩ : ∃ x, M[j]? = some x := ⟨_, List.getElem?_eq_getElem (by have := unhide hcm'; omega)⟩
          have hxM := List.mem_of_getElem? hx
          have hxf : (x.f == fr) = false := beq_eq_false_iff_ne.2 (unhide hMf x hxM)
          have hget := hide (pgGet_self (unhide X6).rises hxM)
          have hi : Hid (PgIn (x.s, x.p)) := pageOk_in ((unhide X6).ok x hxM)
          have hq : (pgs M)[j]? = some (x.s, x.p) := by unfold pgs; rw [List.getElem?_map, hx]; rfl
          obtain ⟨a3, c3, e3, _, hz3⟩ := (unhide G6').kept hK
          simp only [Value.slice.injEq] at e3
          obtain ⟨rfl, hq9, rfl⟩ := e3
          clear hq9
          obtain ⟨g2, rfl, hc2⟩ := hz3.resolve_left (by rw [pgs_len]; have := unhide hcm'; omega)
          obtain ⟨x0, x1⟩ := hc2 j _ hq
          have b1 : (j : Int) < (cm : Int) := by omega
          have b2 : ((j : Int)).toNat = j := Int.toNat_natCast j
          obtain ⟨xs, xp, xf, xr⟩ := x
          simp only at x0 x1 hxf hget hi
          have KK := hide hK
          clear hx hxM hz3 hc2 hq hK
          go_wp2_with fail
          refine (spget ((unhide X6).grew (unhide KK)) (unhide hi) (a := xf) (b := xr) (is := true) (by rw [unhide hget]; rfl) (by rw [unhide hget]; rfl)).mono ?_
          rintro e W8 ⟨rfl, K8⟩
          have K9 := hide (((unhide KK).then K8).alloc (.cells #[.int .i64 xf, .int .i64 xr] 34))
          clear K8 KK
          go_wp2
          go_roundg (cm - (j + 1))
          case measure => omega
          case rel => exact ⟨j + 1, by omega, rfl, by go_num, unhide K9⟩
        · have b1 : decide ((j : Int) < (cm : Int)) = false := decide_eq_false (by omega)
          have X7 := hide ((unhide X6).grew hK)
          clear hK X6 G6'
          go_wp2_with fail
          refine (spempty (unhide X7) (unhide hN') (unhide hd3)).mono ?_
          rintro e W8 ⟨rfl, X8, _⟩
          replace X8 := hide X8
          clear X7
          go_wp2_with fail
          refine (spall_len (unhide X8) (unhide hck')).mono ?_
          rintro e W9 ⟨a9, c9, rfl, _, K9⟩
          have X9 := hide ((unhide X8).grew K9)
          clear X8 K9
          go_wp2_with fail
          refine (spempty (unhide X9) (unhide hNN) (unhide hd4)).mono ?_
          rintro e W10 ⟨rfl, X10, _⟩
          replace X10 := hide X10
          clear X9
          go_wp2
          go_ret
          exact ⟨rfl, (unhide X10).kp.below (Nat.le_refl _) (by simp)⟩
theorem sdrops_walk (a0 : Option Addr) (len cap : Nat) (zs : List Int) (f0 s0 : Int) (w : World) (hl : zs.length = len) (hI : Ints .i64 w a0 zs) (_ : (Lit.int .i64 f0).wf = true) (_ : (Lit.int .i64 s0).wf = true) :
    Calls Try.prog 6 #[.slice a0 len cap, .int .i64 f0, .int .i64 s0] w fun e w' => e = .returned (.bool true) ∧ Below w.heap.size w w' := by
  by_cases h : len ≤ 20
  · subst hl
    exact drops_in a0 cap zs f0 s0 (f0 % 4 + 1) (s0 % 3 + 1) w h hI (by omega) (by omega)
  · exact drops_long a0 len cap f0 s0 w (by omega)
end Go.Proofs.Ytlallciikcmjmaa
