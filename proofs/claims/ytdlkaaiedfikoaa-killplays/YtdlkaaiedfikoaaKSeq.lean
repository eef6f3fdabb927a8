/- Numbers taken one by one (ringkernmake.Seq), and a capability made of them. -/
import Derived.Test.YtdlkaaiedfikoaaRows
import Derived.Test.YtdlkaaiedfikoaaKRef
import Derived.Test.YtdlkaaiedfikoaaKArgs
namespace Go.Proofs.Ytdlkaaiedfikoaa
open Go.RowKit
set_option linter.unusedVariables false
/-- The numbers zs, of which n were taken; their slice was there from the first world on. -/
structure Sq (w0 w : World) (p : Nat) (a : Option Addr) (cap : Nat) (zs : List Int) (n : Nat) : Prop where
  bk : Bk w p 49 [.slice a zs.length cap, .int .i64 (n : Int)]
  new : w0.heap.size ≤ p
  kp : Kp [] w0 w
  ints : Ints .i64 w0 a zs
  small : n ≤ 1099511627776
/-- The next number, below d. -/
def nx (zs : List Int) (n : Nat) (d : Int) : Int := zs.getD n 0 % d
theorem nx_bd (zs : List Int) (n : Nat) (d : Int) (h : 0 < d) : 0 ≤ nx zs n d ∧ nx zs n d < d := ⟨Int.emod_nonneg _ (by omega), Int.emod_lt_of_pos _ h⟩
theorem Sq.kept {w0 w w' : World} {p : Nat} {a : Option Addr} {cap : Nat} {zs : List Int} {n : Nat} {S : List Nat} (h : Sq w0 w p a cap zs n) (k : Kp S w w') (hp : p ∉ S) (hS : ∀ i ∈ S, w0.heap.size ≤ i) : Sq w0 w' p a cap zs n :=
  ⟨h.bk.kept k hp, h.new, h.kp.trans k (by simp) (fun i m => .inr (hS i m)), h.ints, h.small⟩
def NextP (w0 w : World) (p : Nat) (a : Option Addr) (cap : Nat) (zs : List Int) (n : Nat) (d : Int) (e : Ending) (w' : World) : Prop :=
  e = .returned (.int .i64 (nx zs n d)) ∧ Sq w0 w' p a cap zs (n + 1) ∧ Kp [p] w w'
set_option maxHeartbeats 400000 in
theorem next_calls {w0 w : World} {p : Nat} {a : Option Addr} {cap : Nat} {zs : List Int} {n : Nat} (h : Sq w0 w p a cap zs n) (hn : n < 1099511627776) (d : Int) (hd : 0 < d) (hm : d ≤ 4294967296) :
    Calls Try.prog 21 #[.pointer (some ⟨p, 0, none⟩), .int .i64 d] w (NextP w0 w p a cap zs n d) := by
  have c0 := h.bk.cell (i := 0) rfl
  have c1 := h.bk.cell (i := 1) rfl
  have f0 := h.bk.frozen
  have HI : Ints .i64 w a zs := h.ints.below (h.kp.below (Nat.le_refl _) (by simp)) (Nat.le_refl _)
  have HS : ∀ k, Sq w0 ((w.drewN k).setCell ⟨p, 1, none⟩ (.int .i64 ((n : Int) + 1))) p a cap zs (n + 1) := fun k => ⟨by
    have := (h.bk.drewN k).set 1 (.int .i64 ((n : Int) + 1))
    simpa using this, h.new, (h.kp.drewN k).setCell (.inr h.new) _, h.ints, by omega⟩
  have hl := HI.1
  replace HS := hide HS
  by_cases hlt : n < zs.length
  · have d1 : decide ((n : Int) < (zs.length : Int)) = true := decide_eq_true (by omega)
    obtain ⟨b, off, rfl, hc⟩ : ∃ b off, a = some ⟨b, off, none⟩ ∧ ∀ i, i < zs.length → w.cell? ⟨b, off + i, none⟩ = some (.int .i64 (zs.getD i 0)) := by
      rcases HI.2.2 with hz | hz
      · omega
      · exact hz
    have hcell := hc n hlt
    obtain ⟨x, hx⟩ : ∃ x, zs.getD n 0 = x := ⟨_, rfl⟩
    rw [hx] at hcell
    have HX := hide (show x % d = nx zs n d from by unfold nx; rw [hx])
    have e1 : ((n : Int)).toNat = n := Int.toNat_natCast n
    clear hc hx HI
    go_enter Try.func21, Try.ntmps21
    go_wp2_with fail
    go_quiet (fail)
    go_wp2_with fail
    go_quiet (fail)
    go_wp2_with fail
    refine (number_to _ _ _ _ hd hm (unhide HX)).mono ?_
    rintro e w' ⟨rfl, rfl⟩
    go_wp2
    go_ret
    exact ⟨rfl, unhide HS _, ((Kp.refl _ _).drewN _).setCell (.inl (by simp)) _⟩
  · have d1 : decide ((n : Int) < (zs.length : Int)) = false := decide_eq_false (by omega)
    have HX := hide (show 0 % d = nx zs n d from by unfold nx; rw [List.getD_eq_getElem?_getD, List.getElem?_eq_none (by omega)]; rfl)
    clear HI
    go_enter Try.func21, Try.ntmps21
    go_wp2_with fail
    go_quiet (fail)
    go_wp2_with fail
    refine (number_to _ _ _ _ hd hm (unhide HX)).mono ?_
    rintro e w' ⟨rfl, rfl⟩
    go_wp2
    go_ret
    exact ⟨rfl, unhide HS _, ((Kp.refl _ _).drewN _).setCell (.inl (by simp)) _⟩
end Go.Proofs.Ytdlkaaiedfikoaa
