/- The document's list (ringkernref10.List): IDs copied (ringkernref.IDs), where one stands, Has, Len. -/
import Derived.Test.YtgahekhlbcnmaaaKRowO
import Derived.Test.YtgahekhlbcnmaaaKLst6
import Derived.Deep.CutBlock
import Derived.Deep.RegionHeld3
import Derived.Deep.RegionLaw
import Derived.BigRegion
namespace Go.Proofs.Ytgahekhlbcnmaaa
open Go.RowKit
set_option linter.unusedVariables false
set_option linter.unusedSimpArgs false
set_option maxHeartbeats 1000000 in
theorem ids_calls {w : World} {a : Option Addr} {n cap : Nat} {L : List (Int × Int)} (h : Gr.Src idE w (.slice a n cap) L) (ha : ∀ ad, a = some ad → ∃ b off, ad = ⟨b, off, none⟩) (hn : L.length = n) (hs : L.length ≤ 65536) :
    Calls Try.prog 25 #[.slice a n cap] w (ListId w L) := by
  subst hn
  obtain ⟨i0, hi, hinf⟩ := Option.map_eq_some_iff.1 Try.infoID
  simp only [Prod.mk.injEq] at hinf
  obtain ⟨hz0, hz1, hz2⟩ := hinf
  obtain ⟨W1, hmk, hown, hgr⟩ := run_make_own (P := Try.prog) w w.heap.size 34 27 i0 (.agg #[.int .i64 0, .int .i64 0]) 2 Try.underlying34 hi hz0 hz1 .i64 .i64 L.length (by rw [hz2]; omega) (by unfold maxLen; omega) (Nat.le_refl _)
  have R1 : Hid (Gr.Rw idE w.heap.size W1 (.slice (some ⟨w.heap.size, 0, none⟩) 0 L.length) ([] : List (Int × Int))) := hown
  have K1 : Hid (Kp [] w W1) := ⟨hgr.os, hgr.tape, hgr.output, hgr.size, fun k hk _ => hgr.block k hk (by simp)⟩
  have H := hide h
  have HA := hide ha
  clear h ha hown hgr hz0 hz1 hz2 hi
  go_enter Try.func25, Try.ntmps25
  go_wp2_with fail
  go_loopg [3, 4] L.length (fun m v i wx => ∃ j : Nat, j ≤ L.length ∧ m = L.length - j ∧ i = .int .i64 j ∧ Gr.Rw idE w.heap.size wx v (L.take j) ∧ Kp [] w wx)
  case atStart => exact ⟨0, Nat.zero_le _, rfl, rfl, unhide R1, unhide K1⟩
  case round =>
    obtain ⟨j, hj, rfl, rfl, hP, hK⟩ := hrel
    clear R1 K1 hmk
    by_cases hlt : j < L.length
    · obtain ⟨x, hx⟩ : ∃ x, L[j]? = some x := ⟨_, List.getElem?_eq_getElem hlt⟩
      obtain ⟨ad, e, hc⟩ := Gr.Src.cell ((unhide H).kept hK) hx
      obtain ⟨b, off, e2⟩ := unhide HA ad e
      subst e2
      subst e
      obtain ⟨xs, xp⟩ := x
      have x0 : wr.cell? ⟨b, off + j * 2, none⟩ = some (.int .i64 xs) := by
        have := hc 0 _ rfl
        rwa [Addr.add_mid, Nat.add_zero] at this
      have x1 : wr.cell? ⟨b, off + j * 2 + 1, none⟩ = some (.int .i64 xp) := by
        have := hc 1 _ rfl
        rwa [Addr.add_mid, ← Nat.add_assoc] at this
      have b1 : (j : Int) < (L.length : Int) := by omega
      have b2 : ((j : Int)).toNat = j := Int.toNat_natCast j
      have hmore : L.take (j + 1) = L.take j ++ [(xs, xp)] := by
        obtain ⟨h1, h2⟩ := List.getElem?_eq_some_iff.1 hx
        rw [List.take_succ_eq_append_getElem h1, h2]
      replace hmore := hide hmore
      have hlen : (L.take j).length ≤ 1048575 := by rw [List.length_take]; omega
      replace hlen := hide hlen
      clear hx hc
      replace hP := hide hP
      replace hK := hide hK
      go_wp2_with (first
        | (at_builtin; refine Gr.list_app (E := idE) Try.underlying34 Try.infoID rfl (by decide) (by decide) rfl _ _ rfl w.heap.size _ _ (L.take j) [(xs, xp)] rfl rfl ((unhide hP).grew ((Kp.refl [] wr).alloc _)) (Gr.src_one (Bk.new wr 27 [.int .i64 xs, .int .i64 xp]) rfl) ?c2 ?c3 ?_)
        | go_in)
      case c2 => have := unhide hlen; simp only [List.length_cons, List.length_nil] at *; omega
      case c3 => have := (unhide hK).size; simp; omega
      intro v' w1 hown' hgrow hnil
      have hP1 : Hid (Gr.Rw idE w.heap.size w1 v' (L.take (j + 1))) := by
        unfold Hid
        rw [unhide hmore]
        exact hown'
      have hK1 := hide (Gr.kp_grown ((unhide hK).alloc _) hgrow (fun k hk => ((unhide hP).lt hk).1))
      clear hP hK hmore hown' hgrow hnil
      go_wp2
      go_roundg (L.length - (j + 1))
      case measure => omega
      case rel => exact ⟨j + 1, by omega, rfl, by go_num, unhide hP1, unhide hK1⟩
    · have b1 : decide ((j : Int) < (L.length : Int)) = false := decide_eq_false (by omega)
      rw [List.take_of_length_le (show L.length ≤ j by omega)] at hP
      replace hP := hide hP
      replace hK := hide hK
      go_wp2
      go_ret
      exact ⟨_, rfl, unhide hP, unhide hK⟩
end Go.Proofs.Ytgahekhlbcnmaaa
