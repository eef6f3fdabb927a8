/- The program's table: All, Children, Named. -/
import Derived.Test.YtjjgjgncnifjmaaKSlots3
namespace Go.Proofs.Ytjjgjgncnifjmaa
open Go.RowKit
set_option linter.unusedVariables false
theorem ListP.since {w W : World} {ps : List (Int × Int)} {e : Ending} {w' : World} (K : Kp [] w W) (h : ListP W ps e w') : ListP w ps e w' := by
  obtain ⟨v, he, hP, hK⟩ := h
  exact ⟨v, he, hP.mono K.size, K.then hK⟩
def sonF (n s : Int) (x : Sl) : Bool := x.u == n && x.v == s
theorem kidw {w : World} {L : List Sl} {g : Nat} {n s : Int} (hB : Bk w g 40 [.int .i64 n, .int .i64 s]) : Wants 47 #[.pointer (some ⟨g, 0, none⟩)] w L (sonF n s) := by
  intro W K x hx
  have hB' := hB.kept K (by simp)
  have hlt := hB'.lt
  have c0 := hB'.cell (i := 0) rfl
  have c1 := hB'.cell (i := 1) rfl
  unfold holdV sonF
  obtain ⟨xn, xs, u, v, k, o, z, b, r⟩ := x
  simp only
  clear hx K hB hB'
  by_cases e1 : u = n
  · by_cases e2 : v = s
    · subst e1 e2
      go_enter Try.func47, Try.ntmps47
      go_wp2
      go_ret
      exact ⟨ret_bool (by simp), (Kp.refl [] W).alloc _⟩
    · have e2' : (v == s) = false := beq_eq_false_iff_ne.2 e2
      subst e1
      go_enter Try.func47, Try.ntmps47
      go_wp2
      go_ret
      exact ⟨ret_bool (by simp [e2]), (Kp.refl [] W).alloc _⟩
  · have e1' : (u == n) = false := beq_eq_false_iff_ne.2 e1
    go_enter Try.func47, Try.ntmps47
    go_wp2
    go_ret
    exact ⟨ret_bool (by simp [e1]), (Kp.refl [] W).alloc _⟩
theorem sel_none (n s : Int) (h : isN n s = true) (L : List Sl) : sel (kidF n s) L = [] := by
  unfold sel kidF
  unfold isN at h
  rw [h]
  simp
theorem sel_son (n s : Int) (h : isN n s = false) (L : List Sl) : sel (kidF n s) L = sel (sonF n s) L := by
  unfold sel kidF sonF
  unfold isN at h
  rw [h]
  simp
set_option maxHeartbeats 400000 in
theorem kids_calls {w : World} {t : Nat} {m : Option Nat} {L : List Sl} (h : PT w t m L) (n s : Int) :
    Calls Try.prog 45 #[.pointer (some ⟨t, 0, none⟩), .agg #[.int .i64 n, .int .i64 s]] w (ListP w (sel (kidF n s) L)) := by
  have eg : ∀ args w, (callFunc 47 args).run Try.prog w = .ok (.enter 47 args) w := enters_of Try.func47 (by kernel_rfl) rfl
  have K0 := hide ((Kp.refl [] w).alloc (.cells #[.int .i64 n, .int .i64 s] 40))
  have B0 := hide (Bk.new w 40 [.int .i64 n, .int .i64 s])
  have H := hide h
  obtain ⟨is, hIs⟩ : ∃ v, isN n s = v := ⟨_, rfl⟩
  have hI := hide hIs
  clear h hIs
  have eg' := hide eg
  clear eg
  go_enter Try.func45, Try.ntmps45
  go_wp2_with fail
  refine (isnone_to (unhide hI)).mono ?_
  rintro e W1 ⟨rfl, K1⟩
  have K2 := hide ((unhide K0).then K1)
  have B1 := hide ((unhide B0).kept K1 (by simp))
  clear K1 K0 B0
  cases is
  · go_wp2_with fail
    refine (those_calls ((unhide H).grew (unhide K2)) (unhide eg') (kidw (unhide B1))).mono ?_
    rintro e W ⟨v, rfl, hP, hK⟩
    replace hP := hide (hP.mono (unhide K2).size)
    replace hK := hide ((unhide K2).then hK)
    go_wp2
    go_ret
    exact ⟨_, rfl, by rw [sel_son n s (unhide hI)]; exact unhide hP, unhide hK⟩
  · go_wp2
    go_ret
    exact ⟨_, rfl, by rw [sel_none n s (unhide hI)]; exact Pl.nil _ _, unhide K2⟩
end Go.Proofs.Ytjjgjgncnifjmaa
