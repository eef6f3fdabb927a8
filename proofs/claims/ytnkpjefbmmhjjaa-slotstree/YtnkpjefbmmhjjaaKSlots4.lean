/- The program's table: All, Children, Named. -/
import Derived.Test.YtnkpjefbmmhjjaaKSlots3
namespace Go.Proofs.Ytnkpjefbmmhjjaa
open Go.RowKit
set_option linter.unusedVariables false
theorem ListP.since {w W : World} {ps : List (Int × Int)} {e : Ending} {w' : World} (K : Kp [] w W) (h : ListP W ps e w') : ListP w ps e w' := by
  obtain ⟨v, he, hP, hK⟩ := h
  exact ⟨v, he, hP.mono K.size, K.then hK⟩
theorem allw (w : World) (L : List Sl) : Wants 42 #[] w L (fun _ => true) := by
  intro W K x hx
  unfold holdV
  obtain ⟨n, s, u, v, k, o, z, b, r⟩ := x
  simp only
  clear hx K
  go_enter Try.func42, Try.ntmps42
  go_wp2
  go_ret
  exact ⟨rfl, (Kp.refl [] W).alloc _⟩
set_option maxHeartbeats 400000 in
theorem all_calls {w : World} {t : Nat} {m : Option Nat} {L : List Sl} (h : PT w t m L) :
    Calls Try.prog 20 #[.pointer (some ⟨t, 0, none⟩)] w (ListP w (sel (fun _ => true) L)) := by
  have eg : ∀ args w, (callFunc 42 args).run Try.prog w = .ok (.enter 42 args) w := enters_of Try.func42 (by kernel_rfl) rfl
  have hc := hide (those_calls h eg (allw w L))
  clear h eg
  go_enter Try.func20, Try.ntmps20
  go_wp2_with fail
  refine (unhide hc).mono ?_
  rintro e W ⟨v, rfl, hP, hK⟩
  replace hP := hide hP
  replace hK := hide hK
  go_wp2
  go_ret
  exact ⟨_, rfl, unhide hP, unhide hK⟩
def sonF (n s : Int) (x : Sl) : Bool := x.u == n && x.v == s
theorem kidw {w : World} {L : List Sl} {g : Nat} {n s : Int} (hB : Bk w g 35 [.int .i64 n, .int .i64 s]) : Wants 43 #[.pointer (some ⟨g, 0, none⟩)] w L (sonF n s) := by
  intro W K x hx
  have hB' := hB.kept K (by simp)
  have hlt := hB'.lt
  have c0 := hB'.cell (i := 0) rfl
  have c1 := hB'.cell (i := 1) rfl
  unfold holdV sonF
  obtain ⟨xn, xs, u, v, k, o, z, b, r⟩ := x
  simp only
  clear hx K hB hB'
  by_cases e1 : u = n
  · by_cases e2 : v = s
    · subst e1 e2
      go_enter Try.func43, Try.ntmps43
      go_wp2
      go_ret
      exact ⟨ret_bool (by simp), (Kp.refl [] W).alloc _⟩
    · have e2' : (v == s) = false := beq_eq_false_iff_ne.2 e2
      subst e1
      go_enter Try.func43, Try.ntmps43
      go_wp2
      go_ret
      exact ⟨ret_bool (by simp [e2]), (Kp.refl [] W).alloc _⟩
  · have e1' : (u == n) = false := beq_eq_false_iff_ne.2 e1
    go_enter Try.func43, Try.ntmps43
    go_wp2
    go_ret
    exact ⟨ret_bool (by simp [e1]), (Kp.refl [] W).alloc _⟩
theorem sel_none (n s : Int) (h : isN n s = true) (L : List Sl) : sel (kidF n s) L = [] := by
  unfold sel kidF
  unfold isN at h
  rw [h]
  simp
theorem sel_son (n s : Int) (h : isN n s = false) (L : List Sl) : sel (kidF n s) L = sel (sonF n s) L := by
  unfold sel kidF sonF
  unfold isN at h
  rw [h]
  simp
set_option maxHeartbeats 400000 in
theorem kids_calls {w : World} {t : Nat} {m : Option Nat} {L : List Sl} (h : PT w t m L) (n s : Int) :
    Calls Try.prog 25 #[.pointer (some ⟨t, 0, none⟩), .agg #[.int .i64 n, .int .i64 s]] w (ListP w (sel (kidF n s) L)) := by
  have eg : ∀ args w, (callFunc 43 args).run Try.prog w = .ok (.enter 43 args) w := enters_of Try.func43 (by kernel_rfl) rfl
  have K0 := hide ((Kp.refl [] w).alloc (.cells #[.int .i64 n, .int .i64 s] 35))
  have B0 := hide (Bk.new w 35 [.int .i64 n, .int .i64 s])
  have H := hide h
  obtain ⟨is, hIs⟩ : ∃ v, isN n s = v := ⟨_, rfl⟩
  have hI := hide hIs
  clear h hIs
  have eg' := hide eg
  clear eg
  go_enter Try.func25, Try.ntmps25
  go_wp2_with fail
  refine (isnone_to (unhide hI)).mono ?_
  rintro e W1 ⟨rfl, K1⟩
  have K2 := hide ((unhide K0).then K1)
  have B1 := hide ((unhide B0).kept K1 (by simp))
  clear K1 K0 B0
  cases is
  · go_wp2_with fail
    refine (those_calls ((unhide H).grew (unhide K2)) (unhide eg') (kidw (unhide B1))).mono ?_
    rintro e W ⟨v, rfl, hP, hK⟩
    replace hP := hide (hP.mono (unhide K2).size)
    replace hK := hide ((unhide K2).then hK)
    go_wp2
    go_ret
    exact ⟨_, rfl, by rw [sel_son n s (unhide hI)]; exact unhide hP, unhide hK⟩
  · go_wp2
    go_ret
    exact ⟨_, rfl, by rw [sel_none n s (unhide hI)]; exact Pl.nil _ _, unhide K2⟩
theorem namew {w : World} {L : List Sl} {g : Nat} {k o z b r : Int} (hB : Bk w g 43 [.int .i64 k, .int .i64 o, .int .i64 z, .int .i64 b, .int .i64 r]) : Wants 47 #[.pointer (some ⟨g, 0, none⟩)] w L (nameF k o z) := by
  intro W K x hx
  have hB' := hB.kept K (by simp)
  have hlt := hB'.lt
  have c0 := hB'.cell (i := 0) rfl
  have c1 := hB'.cell (i := 1) rfl
  have c2 := hB'.cell (i := 2) rfl
  have c3 := hB'.cell (i := 3) rfl
  have c4 := hB'.cell (i := 4) rfl
  unfold holdV nameF
  obtain ⟨xn, xs, u, v, xk, xo, xz, xb, xr⟩ := x
  simp only
  clear hx K hB hB'
  go_enter Try.func47, Try.ntmps47
  go_wp2_with fail
  refine (names_calls xk xo xz xb xr k o z b r _).mono ?_
  rintro e W1 ⟨rfl, K1⟩
  have K2 := hide (((Kp.refl [] W).alloc _).then K1)
  clear K1
  go_wp2
  go_ret
  exact ⟨rfl, unhide K2⟩
set_option maxHeartbeats 400000 in
theorem named_calls {w : World} {t : Nat} {m : Option Nat} {L : List Sl} (h : PT w t m L) (k o z b r : Int) :
    Calls Try.prog 29 #[.pointer (some ⟨t, 0, none⟩), .agg #[.int .i64 k, .int .i64 o, .int .i64 z, .int .i64 b, .int .i64 r]] w (ListP w (sel (nameF k o z) L)) := by
  have eg : ∀ args w, (callFunc 47 args).run Try.prog w = .ok (.enter 47 args) w := enters_of Try.func47 (by kernel_rfl) rfl
  have K0 := hide ((Kp.refl [] w).alloc (.cells #[.int .i64 k, .int .i64 o, .int .i64 z, .int .i64 b, .int .i64 r] 43))
  have B0 := hide (Bk.new w 43 [.int .i64 k, .int .i64 o, .int .i64 z, .int .i64 b, .int .i64 r])
  have hc := hide (those_calls (h.grew (unhide K0)) eg (namew (L := L) (unhide B0)))
  clear h eg B0
  go_enter Try.func29, Try.ntmps29
  go_wp2_with fail
  refine (unhide hc).mono ?_
  rintro e W ⟨v, rfl, hP, hK⟩
  replace hP := hide (hP.mono (unhide K0).size)
  replace hK := hide ((unhide K0).then hK)
  go_wp2
  go_ret
  exact ⟨_, rfl, unhide hP, unhide hK⟩
end Go.Proofs.Ytnkpjefbmmhjjaa
