/- Lists of places out of the document's table. -/
import Derived.Test.YtnkpjefbmmhjjaaKTab2
namespace Go.Proofs.Ytnkpjefbmmhjjaa
open Go.RowKit
set_option linter.unusedVariables false
/-- Places as the cells of a row. -/
def prow (ps : List (Int × Int)) : List Value := ps.flatMap fun q => [.int .i64 q.1, .int .i64 q.2]
theorem prow_app (a b : List (Int × Int)) : prow (a ++ b) = prow a ++ prow b := by unfold prow; rw [List.flatMap_append]
theorem prow_len (ps : List (Int × Int)) : (prow ps).length = ps.length * 2 := by
  induction ps with
  | nil => rfl
  | cons x L ih => unfold prow at *; rw [List.flatMap_cons, List.length_append, ih]; show 2 + L.length * 2 = (L.length + 1) * 2; omega
/-- The places of the slots that are asked for. -/
def sel (f : Sl → Bool) (L : List Sl) : List (Int × Int) := (L.filter f).map fun x => (x.n, x.s)
theorem sel_len (f : Sl → Bool) (L : List Sl) : (sel f L).length ≤ L.length := by unfold sel; rw [List.length_map]; exact List.length_filter_le _ _
theorem sel_yes {f : Sl → Bool} {L : List Sl} {j : Nat} {x : Sl} (hx : L[j]? = some x) (hf : f x = true) : sel f (L.take (j + 1)) = sel f (L.take j) ++ [(x.n, x.s)] := by
  obtain ⟨hj, rfl⟩ := List.getElem?_eq_some_iff.1 hx
  unfold sel
  rw [List.take_succ_eq_append_getElem hj, List.filter_append, List.map_append]
  simp [hf]
theorem sel_no {f : Sl → Bool} {L : List Sl} {j : Nat} {x : Sl} (hx : L[j]? = some x) (hf : f x = false) : sel f (L.take (j + 1)) = sel f (L.take j) := by
  obtain ⟨hj, rfl⟩ := List.getElem?_eq_some_iff.1 hx
  unfold sel
  rw [List.take_succ_eq_append_getElem hj, List.filter_append, List.map_append]
  simp [hf]
/-- A list of places in new memory. -/
def Pl (base : Nat) (w : World) (v : Value) (ps : List (Int × Int)) : Prop := w.ownsRow base 35 2 v ps.length (prow ps)
theorem Pl.nil (base : Nat) (w : World) : Pl base w (.slice none 0 0) [] := ⟨rfl, .inl ⟨rfl, rfl⟩⟩
theorem Pl.form {base : Nat} {w : World} {v : Value} {ps : List (Int × Int)} (h : Pl base w v ps) : ∃ a c, v = .slice a ps.length c := by
  rcases h.2 with ⟨e, hz⟩ | ⟨g, c, cur, e, _⟩
  · exact ⟨none, 0, by rw [e, hz]⟩
  · exact ⟨_, c, e⟩
theorem Pl.kept {base : Nat} {w w' : World} {v : Value} {ps : List (Int × Int)} {S : List Nat} (h : Pl base w v ps) (k : Kp S w w') (hn : ∀ g, v.ownBlock = some g → g ∉ S) : Pl base w' v ps := by
  refine ⟨h.1, ?_⟩
  rcases h.2 with hz | ⟨g, c, cur, e, hb, hg, rest⟩
  · exact .inl hz
  · exact .inr ⟨g, c, cur, e, hb, (k.block g (Array.getElem?_eq_some_iff.1 hg).1 (hn g (by rw [e]; rfl))).trans hg, rest⟩
theorem Pl.more {base : Nat} {w : World} {v : Value} {ps : List (Int × Int)} {n s : Int} (h : w.ownsRow base 35 2 v (ps.length + 1) (prow ps ++ [.int .i64 n, .int .i64 s])) : Pl base w v (ps ++ [(n, s)]) := by
  unfold Pl
  rw [prow_app, List.length_append]
  exact h
theorem Pl.mono {base base' : Nat} {w : World} {v : Value} {ps : List (Int × Int)} (h : Pl base w v ps) (hb : base' ≤ base) : Pl base' w v ps := by
  refine ⟨h.1, ?_⟩
  rcases h.2 with hz | ⟨g, c, cur, e, hg, rest⟩
  · exact .inl hz
  · exact .inr ⟨g, c, cur, e, Nat.le_trans hb hg, rest⟩
def ListP (w : World) (ps : List (Int × Int)) (e : Ending) (w' : World) : Prop := ∃ v, e = .returned v ∧ Pl w.heap.size w' v ps ∧ Kp [] w w'
theorem Try.infoPlace : (Try.prog.info? 35).map (fun i => (i.zero, i.size, i.bytes)) = some (some (.agg #[.int .i64 0, .int .i64 0]), 2, 16) := by kernel_rfl
theorem place_new (w : World) (n s : Int) : ∀ j u, ([Value.int .i64 n, .int .i64 s] : List Value)[j]? = some u → (w.alloc (.cells #[.int .i64 n, .int .i64 s] 35)).cell? ((⟨w.heap.size, 0, none⟩ : Addr).add j) = some u := fun j u h => by
  rw [Addr.add_mid, Nat.zero_add]
  exact (Bk.new w 35 [.int .i64 n, .int .i64 s]).cell h
theorem kp_grown {w wr w' : World} {row : Option Nat} (K : Kp [] w wr) (hg : wr.grownBy w' row) (hr : ∀ k, row = some k → w.heap.size ≤ k) : Kp [] w w' :=
  Kp.ofBelow ((K.below (Nat.le_refl _) (by simp)).grown hg K.size hr) []
set_option maxHeartbeats 1000000 in
theorem rall_calls {base : Nat} {w : World} {t : Nat} {a : Option Addr} {cap : Nat} {L : List Sl} (h : RT base w t a cap L) :
    Calls Try.prog 18 #[.pointer (some ⟨t, 0, none⟩)] w (ListP w (sel (fun _ => true) L)) := by
  obtain ⟨i0, hi, hinf⟩ := Option.map_eq_some_iff.1 Try.infoPlace
  simp only [Prod.mk.injEq] at hinf
  obtain ⟨hz0, hz1, hz2⟩ := hinf
  have hs := h.small
  have H := hide h
  clear h
  go_enter Try.func18, Try.ntmps18
  go_wp2_with fail
  go_loopg [3, 4] L.length (fun m v i wx => ∃ j : Nat, j ≤ L.length ∧ m = L.length - j ∧ i = .int .i64 j ∧ Pl w.heap.size wx v (sel (fun _ => true) (L.take j)) ∧ Kp [] w wx)
  case atStart => exact ⟨0, Nat.zero_le _, rfl, rfl, Pl.nil _ _, Kp.refl _ _⟩
  case round =>
    obtain ⟨j, hj, rfl, rfl, hP, hK⟩ := hrel
    have hR := (unhide H).grew hK
    have c0 := hR.head.cell (i := 0) rfl
    by_cases hlt : j < L.length
    · obtain ⟨g, rfl⟩ := hR.addr (by omega)
      obtain ⟨x, hx⟩ : ∃ x, L[j]? = some x := ⟨_, List.getElem?_eq_getElem hlt⟩
      obtain ⟨n, hn⟩ : ∃ v, x.n = v := ⟨_, rfl⟩
      obtain ⟨s, hs'⟩ : ∃ v, x.s = v := ⟨_, rfl⟩
      have x0 : wr.cell? ⟨g, j * 9, none⟩ = some (.int .i64 n) := by rw [← hn]; exact hR.cell hx 0 (by omega)
      have x1 : wr.cell? ⟨g, j * 9 + 1, none⟩ = some (.int .i64 s) := by rw [← hs']; exact hR.cell hx 1 (by omega)
      have b1 : (j : Int) < (L.length : Int) := by omega
      have b2 : ((j : Int)).toNat = j := Int.toNat_natCast j
      have hlen := sel_len (fun _ => true) (L.take j)
      rw [List.length_take] at hlen
      have hmore := sel_yes (f := fun _ => true) hx rfl
      rw [hn, hs'] at hmore
      obtain ⟨ps, hps⟩ : ∃ ps, sel (fun _ => true) (L.take j) = ps := ⟨_, rfl⟩
      rw [hps] at hP hmore hlen
      replace hmore := hide hmore
      clear hR hn hs' hx hps
      replace hP := hide hP
      replace hK := hide hK
      go_wp2_with (first
        | (at_builtin; refine wpList_append_own _ rfl _ _ 46 rfl w.heap.size 35 i0 (.agg #[.int .i64 0, .int .i64 0]) 2 16 Try.underlying46 hi hz0 hz1 hz2 rfl (by decide) _ _ _ rfl ((unhide hP).alloc _) ⟨wr.heap.size, 0, none⟩ 1 1 [.int .i64 n, .int .i64 s] rfl rfl (place_new _ _ _) ?c2 ?c3 ?c4 ?c5 ?_)
        | go_in)
      case c2 => intro u hu; simp at hu; rcases hu with rfl | rfl <;> rfl
      case c3 => unfold maxLen; omega
      case c4 => omega
      case c5 => have := (unhide hK).size; simp; omega
      intro v' w1 hown' hgrow hnil
      have hP1 : Hid (Pl w.heap.size w1 v' (sel (fun _ => true) (L.take (j + 1)))) := by
        unfold Hid
        rw [unhide hmore]
        exact Pl.more hown'
      have hK1 := hide (kp_grown ((unhide hK).alloc _) hgrow (fun k hk => (World.ownsRow.lt (unhide hP) k hk).1))
      clear hP hK hmore hown' hgrow hnil
      go_wp2
      go_roundg (L.length - (j + 1))
      case measure => omega
      case rel => exact ⟨j + 1, by omega, rfl, by go_num, unhide hP1, unhide hK1⟩
    · have b1 : decide ((j : Int) < (L.length : Int)) = false := decide_eq_false (by omega)
      rw [List.take_of_length_le (show L.length ≤ j by omega)] at hP
      replace hP := hide hP
      replace hK := hide hK
      clear hR
      go_wp2
      go_ret
      exact ⟨_, rfl, unhide hP, unhide hK⟩
/-- The children of a place. -/
def kidF (n s : Int) (x : Sl) : Bool := (x.u == n && x.v == s) && !(n == 0 && s == 0)
set_option maxHeartbeats 2000000 in
theorem rkids_calls {base : Nat} {w : World} {t : Nat} {a : Option Addr} {cap : Nat} {L : List Sl} (h : RT base w t a cap L) (n s : Int) :
    Calls Try.prog 26 #[.pointer (some ⟨t, 0, none⟩), .agg #[.int .i64 n, .int .i64 s]] w (ListP w (sel (kidF n s) L)) := by
  obtain ⟨i0, hi, hinf⟩ := Option.map_eq_some_iff.1 Try.infoPlace
  simp only [Prod.mk.injEq] at hinf
  obtain ⟨hz0, hz1, hz2⟩ := hinf
  have hs := h.small
  have K0 := (Kp.refl [] w).alloc (.cells #[.int .i64 n, .int .i64 s] 35)
  have H := h.grew K0
  have P0 := Bk.new w 35 [.int .i64 n, .int .i64 s]
  have c0 := H.head.cell (i := 0) rfl
  replace K0 := hide K0
  replace H := hide H
  replace P0 := hide P0
  clear h
  obtain ⟨F, hF⟩ : ∃ F, kidF n s = F := ⟨_, rfl⟩
  rw [hF]
  replace hF := hide hF
  go_enter Try.func26, Try.ntmps26
  go_wp2_with fail
  generalize w.alloc (.cells #[.int .i64 n, .int .i64 s] 35) = w1 at K0 H P0 c0
  go_loopg [5, 6] L.length (fun m v i wx => ∃ j : Nat, j ≤ L.length ∧ m = L.length - j ∧ i = .int .i64 j ∧ Pl w1.heap.size wx v (sel F (L.take j)) ∧ Kp [] w1 wx)
  case atStart => exact ⟨0, Nat.zero_le _, rfl, rfl, Pl.nil _ _, Kp.refl _ _⟩
  case round =>
    obtain ⟨j, hj, rfl, rfl, hP, hK⟩ := hrel
    clear c0
    have hR := (unhide H).grew hK
    have hB := (unhide P0).kept hK (by simp)
    have c0 := hR.head.cell (i := 0) rfl
    by_cases hlt : j < L.length
    · obtain ⟨g, rfl⟩ := hR.addr (by omega)
      obtain ⟨x, hx⟩ : ∃ x, L[j]? = some x := ⟨_, List.getElem?_eq_getElem hlt⟩
      obtain ⟨xn, hn⟩ : ∃ v, x.n = v := ⟨_, rfl⟩
      obtain ⟨xs, hs'⟩ : ∃ v, x.s = v := ⟨_, rfl⟩
      have x0 : wr.cell? ⟨g, j * 9, none⟩ = some (.int .i64 xn) := by rw [← hn]; exact hR.cell hx 0 (by omega)
      have x1 : wr.cell? ⟨g, j * 9 + 1, none⟩ = some (.int .i64 xs) := by rw [← hs']; exact hR.cell hx 1 (by omega)
      have b1 : (j : Int) < (L.length : Int) := by omega
      have b2 : ((j : Int)).toNat = j := Int.toNat_natCast j
      have hlen := sel_len F (L.take j)
      rw [List.length_take] at hlen
      obtain ⟨ps, hps⟩ : ∃ ps, sel F (L.take j) = ps := ⟨_, rfl⟩
      have hyes : F x = true → Hid (sel F (L.take (j + 1)) = ps ++ [(xn, xs)]) := fun hf => by unfold Hid; rw [sel_yes hx hf, hps, hn, hs']
      have hno : F x = false → Hid (sel F (L.take (j + 1)) = ps) := fun hf => by unfold Hid; rw [sel_no hx hf, hps]
      rw [hps] at hP hlen
      have p0 := hB.cell (i := 0) rfl
      have p1 := hB.cell (i := 1) rfl
      obtain ⟨xu, hu⟩ : ∃ v, x.u = v := ⟨_, rfl⟩
      obtain ⟨xv, hv⟩ : ∃ v, x.v = v := ⟨_, rfl⟩
      have x2 : wr.cell? ⟨g, j * 9 + 2, none⟩ = some (.int .i64 xu) := by rw [← hu]; exact hR.cell hx 2 (by omega)
      have x3 : wr.cell? ⟨g, j * 9 + 3, none⟩ = some (.int .i64 xv) := by rw [← hv]; exact hR.cell hx 3 (by omega)
      have fx : F x = ((xu == n && xv == s) && !(n == 0 && s == 0)) := by rw [← unhide hF]; unfold kidF; rw [hu, hv]
      clear hR hn hs' hps hB hu hv hx
      replace hP := hide hP
      replace hK := hide hK
      by_cases e1 : xu = n
      · subst e1
        by_cases e2 : xv = s
        · subst e2
          by_cases z1 : xu = 0
          · subst z1
            by_cases z2 : xv = 0
            · subst z2
              have hsel := hno (by rw [fx]; rfl)
              clear hyes hno fx
              go_wp2_with fail
              go_quiet (fail)
              replace hP := hide ((unhide hP).kept ((Kp.refl [] _).drewN nq) (by simp))
              replace hK := hide ((unhide hK).drewN nq)
              go_wp2
              go_roundg (L.length - (j + 1))
              case measure => omega
              case rel => exact ⟨j + 1, by omega, rfl, by go_num, by rw [unhide hsel]; exact unhide hP, unhide hK⟩
            · have z2' : (xv == 0) = false := beq_eq_false_iff_ne.2 z2
              have hsel := hyes (by rw [fx]; simp [z2])
              clear hyes hno fx
              go_wp2_with fail
              go_quiet (fail)
              replace hP := hide ((unhide hP).kept ((Kp.refl [] _).drewN nq) (by simp))
              replace hK := hide ((unhide hK).drewN nq)
              go_wp2_with (first
                | (at_builtin; refine wpList_append_own _ rfl _ _ 46 rfl w1.heap.size 35 i0 (.agg #[.int .i64 0, .int .i64 0]) 2 16 Try.underlying46 hi hz0 hz1 hz2 rfl (by decide) _ _ _ rfl ((unhide hP).alloc _) ⟨_, 0, none⟩ 1 1 [.int .i64 xn, .int .i64 xs] rfl rfl (place_new _ _ _) ?c2 ?c3 ?c4 ?c5 ?_)
                | go_in)
              case c2 => intro u hu; simp at hu; rcases hu with rfl | rfl <;> rfl
              case c3 => unfold maxLen; omega
              case c4 => omega
              case c5 => exact ((unhide hK).alloc _).size
              intro v' w2 hown' hgrow hnil
              have hP1 : Hid (Pl w1.heap.size w2 v' (sel F (L.take (j + 1)))) := by
                unfold Hid
                rw [unhide hsel]
                exact Pl.more hown'
              have hK1 := hide (kp_grown ((unhide hK).alloc _) hgrow (fun k hk => (World.ownsRow.lt (unhide hP) k hk).1))
              clear hP hK hsel hown' hgrow hnil
              go_wp2
              go_roundg (L.length - (j + 1))
              case measure => omega
              case rel => exact ⟨j + 1, by omega, rfl, by go_num, unhide hP1, unhide hK1⟩
          · have z1' : (xu == 0) = false := beq_eq_false_iff_ne.2 z1
            have hsel := hyes (by rw [fx]; simp [z1])
            clear hyes hno fx
            go_wp2_with fail
            go_quiet (fail)
            replace hP := hide ((unhide hP).kept ((Kp.refl [] _).drewN nq) (by simp))
            replace hK := hide ((unhide hK).drewN nq)
            go_wp2_with (first
              | (at_builtin; refine wpList_append_own _ rfl _ _ 46 rfl w1.heap.size 35 i0 (.agg #[.int .i64 0, .int .i64 0]) 2 16 Try.underlying46 hi hz0 hz1 hz2 rfl (by decide) _ _ _ rfl ((unhide hP).alloc _) ⟨_, 0, none⟩ 1 1 [.int .i64 xn, .int .i64 xs] rfl rfl (place_new _ _ _) ?c2 ?c3 ?c4 ?c5 ?_)
              | go_in)
            case c2 => intro u hu; simp at hu; rcases hu with rfl | rfl <;> rfl
            case c3 => unfold maxLen; omega
            case c4 => omega
            case c5 => exact ((unhide hK).alloc _).size
            intro v' w2 hown' hgrow hnil
            have hP1 : Hid (Pl w1.heap.size w2 v' (sel F (L.take (j + 1)))) := by
              unfold Hid
              rw [unhide hsel]
              exact Pl.more hown'
            have hK1 := hide (kp_grown ((unhide hK).alloc _) hgrow (fun k hk => (World.ownsRow.lt (unhide hP) k hk).1))
            clear hP hK hsel hown' hgrow hnil
            go_wp2
            go_roundg (L.length - (j + 1))
            case measure => omega
            case rel => exact ⟨j + 1, by omega, rfl, by go_num, unhide hP1, unhide hK1⟩
        · have e2' : (xv == s) = false := beq_eq_false_iff_ne.2 e2
          have hsel := hno (by rw [fx]; simp [e2])
          clear hyes hno fx
          go_wp2_with fail
          go_quiet (fail)
          replace hP := hide ((unhide hP).kept ((Kp.refl [] _).drewN nq) (by simp))
          replace hK := hide ((unhide hK).drewN nq)
          go_wp2
          go_roundg (L.length - (j + 1))
          case measure => omega
          case rel => exact ⟨j + 1, by omega, rfl, by go_num, by rw [unhide hsel]; exact unhide hP, unhide hK⟩
      · have e1' : (xu == n) = false := beq_eq_false_iff_ne.2 e1
        have hsel := hno (by rw [fx]; simp [e1])
        clear hyes hno fx
        go_wp2_with fail
        go_quiet (fail)
        replace hP := hide ((unhide hP).kept ((Kp.refl [] _).drewN nq) (by simp))
        replace hK := hide ((unhide hK).drewN nq)
        go_wp2
        go_roundg (L.length - (j + 1))
        case measure => omega
        case rel => exact ⟨j + 1, by omega, rfl, by go_num, by rw [unhide hsel]; exact unhide hP, unhide hK⟩
    · have b1 : decide ((j : Int) < (L.length : Int)) = false := decide_eq_false (by omega)
      rw [List.take_of_length_le (show L.length ≤ j by omega)] at hP
      have hP' := hide (hP.mono (unhide K0).size)
      have hK' := hide ((unhide K0).then hK)
      clear hR hB hP hK
      go_wp2
      go_ret
      exact ⟨_, rfl, unhide hP', unhide hK'⟩
/-- Those of one name. -/
def nameF (k o z : Int) (x : Sl) : Bool := namesP x.k x.o x.z k o z
theorem rnames_at (k o s b r k' o' s' b' r' : Int) (v : Bool) (w : World) (h : namesP k o s k' o' s' = v) :
    Calls Try.prog 49 #[.agg #[.int .i64 k, .int .i64 o, .int .i64 s, .int .i64 b, .int .i64 r], .agg #[.int .i64 k', .int .i64 o', .int .i64 s', .int .i64 b', .int .i64 r']] w fun e w' => e = .returned (.bool v) ∧ Kp [] w w' := by subst h; exact rnames_calls k o s b r k' o' s' b' r' w
set_option maxHeartbeats 2000000 in
theorem rnamed_calls {base : Nat} {w : World} {t : Nat} {a : Option Addr} {cap : Nat} {L : List Sl} (h : RT base w t a cap L) (k o z b r : Int) :
    Calls Try.prog 30 #[.pointer (some ⟨t, 0, none⟩), .agg #[.int .i64 k, .int .i64 o, .int .i64 z, .int .i64 b, .int .i64 r]] w (ListP w (sel (nameF k o z) L)) := by
  obtain ⟨i0, hi, hinf⟩ := Option.map_eq_some_iff.1 Try.infoPlace
  simp only [Prod.mk.injEq] at hinf
  obtain ⟨hz0, hz1, hz2⟩ := hinf
  have hs := h.small
  have K0 := (Kp.refl [] w).alloc (.cells #[.int .i64 k, .int .i64 o, .int .i64 z, .int .i64 b, .int .i64 r] 43)
  have H := h.grew K0
  have P0 := Bk.new w 43 [.int .i64 k, .int .i64 o, .int .i64 z, .int .i64 b, .int .i64 r]
  have c0 := H.head.cell (i := 0) rfl
  replace K0 := hide K0
  replace H := hide H
  replace P0 := hide P0
  clear h
  obtain ⟨F, hF⟩ : ∃ F, nameF k o z = F := ⟨_, rfl⟩
  rw [hF]
  replace hF := hide hF
  go_enter Try.func30, Try.ntmps30
  go_wp2_with fail
  generalize w.alloc (.cells #[.int .i64 k, .int .i64 o, .int .i64 z, .int .i64 b, .int .i64 r] 43) = w1 at K0 H P0 c0
  go_loopg [5, 6] L.length (fun m v i wx => ∃ j : Nat, j ≤ L.length ∧ m = L.length - j ∧ i = .int .i64 j ∧ Pl w1.heap.size wx v (sel F (L.take j)) ∧ Kp [] w1 wx)
  case atStart => exact ⟨0, Nat.zero_le _, rfl, rfl, Pl.nil _ _, Kp.refl _ _⟩
  case round =>
    obtain ⟨j, hj, rfl, rfl, hP, hK⟩ := hrel
    clear c0
    have hR := (unhide H).grew hK
    have hB := (unhide P0).kept hK (by simp)
    have c0 := hR.head.cell (i := 0) rfl
    by_cases hlt : j < L.length
    · obtain ⟨g, rfl⟩ := hR.addr (by omega)
      obtain ⟨x, hx⟩ : ∃ x, L[j]? = some x := ⟨_, List.getElem?_eq_getElem hlt⟩
      obtain ⟨xn, hn⟩ : ∃ v, x.n = v := ⟨_, rfl⟩
      obtain ⟨xs, hs'⟩ : ∃ v, x.s = v := ⟨_, rfl⟩
      have x0 : wr.cell? ⟨g, j * 9, none⟩ = some (.int .i64 xn) := by rw [← hn]; exact hR.cell hx 0 (by omega)
      have x1 : wr.cell? ⟨g, j * 9 + 1, none⟩ = some (.int .i64 xs) := by rw [← hs']; exact hR.cell hx 1 (by omega)
      have b1 : (j : Int) < (L.length : Int) := by omega
      have b2 : ((j : Int)).toNat = j := Int.toNat_natCast j
      have hlen := sel_len F (L.take j)
      rw [List.length_take] at hlen
      obtain ⟨ps, hps⟩ : ∃ ps, sel F (L.take j) = ps := ⟨_, rfl⟩
      have hyes : F x = true → Hid (sel F (L.take (j + 1)) = ps ++ [(xn, xs)]) := fun hf => by unfold Hid; rw [sel_yes hx hf, hps, hn, hs']
      have hno : F x = false → Hid (sel F (L.take (j + 1)) = ps) := fun hf => by unfold Hid; rw [sel_no hx hf, hps]
      rw [hps] at hP hlen
      obtain ⟨xk, hk⟩ : ∃ v, x.k = v := ⟨_, rfl⟩
      obtain ⟨xo, ho⟩ : ∃ v, x.o = v := ⟨_, rfl⟩
      obtain ⟨xz, hz⟩ : ∃ v, x.z = v := ⟨_, rfl⟩
      obtain ⟨xb, hb⟩ : ∃ v, x.b = v := ⟨_, rfl⟩
      obtain ⟨xr, hr⟩ : ∃ v, x.r = v := ⟨_, rfl⟩
      have hS : ∀ w', Kp [] wr w' → w'.cell? ⟨t, 0, none⟩ = some (.slice (some ⟨g, 0, none⟩) L.length cap) ∧ w'.cell? ⟨g, j * 9 + 4, none⟩ = some (.int .i64 xk) ∧ w'.cell? ⟨g, j * 9 + 5, none⟩ = some (.int .i64 xo) ∧ w'.cell? ⟨g, j * 9 + 6, none⟩ = some (.int .i64 xz) ∧ w'.cell? ⟨g, j * 9 + 7, none⟩ = some (.int .i64 xb) ∧ w'.cell? ⟨g, j * 9 + 8, none⟩ = some (.int .i64 xr) ∧ w'.cell? ⟨w.heap.size, 0, none⟩ = some (.int .i64 k) ∧ w'.cell? ⟨w.heap.size, 1, none⟩ = some (.int .i64 o) ∧ w'.cell? ⟨w.heap.size, 2, none⟩ = some (.int .i64 z) ∧ w'.cell? ⟨w.heap.size, 3, none⟩ = some (.int .i64 b) ∧ w'.cell? ⟨w.heap.size, 4, none⟩ = some (.int .i64 r) := fun w' kk => by
        have R' := hR.grew kk
        have B' := hB.kept kk (by simp)
        rw [← hk, ← ho, ← hz, ← hb, ← hr]
        exact ⟨R'.head.cell rfl, R'.cell hx 4 (by omega), R'.cell hx 5 (by omega), R'.cell hx 6 (by omega), R'.cell hx 7 (by omega), R'.cell hx 8 (by omega), B'.cell rfl, B'.cell rfl, B'.cell rfl, B'.cell rfl, B'.cell rfl⟩
      have hX : ∀ w', Kp [] wr w' → w'.cell? ⟨t, 0, none⟩ = some (.slice (some ⟨g, 0, none⟩) L.length cap) ∧ w'.cell? ⟨g, j * 9, none⟩ = some (.int .i64 xn) ∧ w'.cell? ⟨g, j * 9 + 1, none⟩ = some (.int .i64 xs) := fun w' kk => by
        have R' := hR.grew kk
        rw [← hn, ← hs']
        exact ⟨R'.head.cell rfl, R'.cell hx 0 (by omega), R'.cell hx 1 (by omega)⟩
      obtain ⟨vv, hvv⟩ : ∃ v, namesP xk xo xz k o z = v := ⟨_, rfl⟩
      have fx : F x = vv := by rw [← unhide hF, ← hvv]; unfold nameF; rw [hk, ho, hz]
      clear hR hn hs' hps hB hk ho hz hb hr hx x0 x1
      replace hvv := hide hvv
      replace hP := hide hP
      replace hK := hide hK
      replace hS := hide hS
      replace hX := hide hX
      have K1 := hide ((Kp.refl [] wr).drew)
      cases vv
      · have hsel := hno fx
        clear hyes hno fx
        go_wp2_with fail
        go_region_held3 (fun w' => w'.cell? ⟨t, 0, none⟩ = some (.slice (some ⟨g, 0, none⟩) L.length cap) ∧ w'.cell? ⟨g, j * 9 + 4, none⟩ = some (.int .i64 xk) ∧ w'.cell? ⟨g, j * 9 + 5, none⟩ = some (.int .i64 xo) ∧ w'.cell? ⟨g, j * 9 + 6, none⟩ = some (.int .i64 xz) ∧ w'.cell? ⟨g, j * 9 + 7, none⟩ = some (.int .i64 xb) ∧ w'.cell? ⟨g, j * 9 + 8, none⟩ = some (.int .i64 xr) ∧ w'.cell? ⟨w.heap.size, 0, none⟩ = some (.int .i64 k) ∧ w'.cell? ⟨w.heap.size, 1, none⟩ = some (.int .i64 o) ∧ w'.cell? ⟨w.heap.size, 2, none⟩ = some (.int .i64 z) ∧ w'.cell? ⟨w.heap.size, 3, none⟩ = some (.int .i64 b) ∧ w'.cell? ⟨w.heap.size, 4, none⟩ = some (.int .i64 r)) (first | exact unhide hS _ (unhide K2) | exact unhide hS _ (unhide K1)) (first
          | (go_at_call 49; (with_reducible refine (rnames_at xk xo xz xb xr k o z b r _ _ (unhide hvv)).mono ?_); rintro e V1 ⟨rfl, kk⟩; have K2 := hide ((unhide K1).then kk); clear kk))
        all_goals
          replace hP := hide ((unhide hP).kept (unhide K2) (by simp))
          replace hK := hide ((unhide hK).then (unhide K2))
          go_wp2
          go_roundg (L.length - (j + 1))
          case measure => omega
          case rel => exact ⟨j + 1, by omega, rfl, by go_num, by rw [unhide hsel]; exact unhide hP, unhide hK⟩
      · have hsel := hyes fx
        clear hyes hno fx
        go_wp2_with fail
        go_region_held3 (fun w' => w'.cell? ⟨t, 0, none⟩ = some (.slice (some ⟨g, 0, none⟩) L.length cap) ∧ w'.cell? ⟨g, j * 9 + 4, none⟩ = some (.int .i64 xk) ∧ w'.cell? ⟨g, j * 9 + 5, none⟩ = some (.int .i64 xo) ∧ w'.cell? ⟨g, j * 9 + 6, none⟩ = some (.int .i64 xz) ∧ w'.cell? ⟨g, j * 9 + 7, none⟩ = some (.int .i64 xb) ∧ w'.cell? ⟨g, j * 9 + 8, none⟩ = some (.int .i64 xr) ∧ w'.cell? ⟨w.heap.size, 0, none⟩ = some (.int .i64 k) ∧ w'.cell? ⟨w.heap.size, 1, none⟩ = some (.int .i64 o) ∧ w'.cell? ⟨w.heap.size, 2, none⟩ = some (.int .i64 z) ∧ w'.cell? ⟨w.heap.size, 3, none⟩ = some (.int .i64 b) ∧ w'.cell? ⟨w.heap.size, 4, none⟩ = some (.int .i64 r)) (first | exact unhide hS _ (unhide K2) | exact unhide hS _ (unhide K1)) (first
          | (go_at_call 49; (with_reducible refine (rnames_at xk xo xz xb xr k o z b r _ _ (unhide hvv)).mono ?_); rintro e V1 ⟨rfl, kk⟩; have K2 := hide ((unhide K1).then kk); clear kk))
        replace hP := hide ((unhide hP).kept (unhide K2) (by simp))
        replace hK := hide ((unhide hK).then (unhide K2))
        have x0 := unhide hX _ (unhide K2)
        go_wp2_with (first
          | (at_builtin; refine wpList_append_own _ rfl _ _ 46 rfl w1.heap.size 35 i0 (.agg #[.int .i64 0, .int .i64 0]) 2 16 Try.underlying46 hi hz0 hz1 hz2 rfl (by decide) _ _ _ rfl ((unhide hP).alloc _) ⟨_, 0, none⟩ 1 1 [.int .i64 xn, .int .i64 xs] rfl rfl (place_new _ _ _) ?c2 ?c3 ?c4 ?c5 ?_)
          | go_in)
        case c2 => intro u hu; simp at hu; rcases hu with rfl | rfl <;> rfl
        case c3 => unfold maxLen; omega
        case c4 => omega
        case c5 => exact ((unhide hK).alloc _).size
        intro v' w2 hown' hgrow hnil
        have hP1 : Hid (Pl w1.heap.size w2 v' (sel F (L.take (j + 1)))) := by
          unfold Hid
          rw [unhide hsel]
          exact Pl.more hown'
        have hK1 := hide (kp_grown ((unhide hK).alloc _) hgrow (fun k hk => (World.ownsRow.lt (unhide hP) k hk).1))
        clear hP hK hsel hown' hgrow hnil
        go_wp2
        go_roundg (L.length - (j + 1))
        case measure => omega
        case rel => exact ⟨j + 1, by omega, rfl, by go_num, unhide hP1, unhide hK1⟩
    · have b1 : decide ((j : Int) < (L.length : Int)) = false := decide_eq_false (by omega)
      rw [List.take_of_length_le (show L.length ≤ j by omega)] at hP
      have hP' := hide (hP.mono (unhide K0).size)
      have hK' := hide ((unhide K0).then hK)
      clear hR hB hP hK
      go_wp2
      go_ret
      exact ⟨_, rfl, unhide hP', unhide hK'⟩
end Go.Proofs.Ytnkpjefbmmhjjaa
