/- The document's notification: Signal. -/
import Derived.Test.YtgahekhlbcnmaaaKNot0
namespace Go.Proofs.Ytgahekhlbcnmaaa
open Go.RowKit
set_option linter.unusedVariables false
set_option linter.unusedSimpArgs false
set_option maxRecDepth 4000 in
set_option maxHeartbeats 2000000 in
theorem rnsig_no {base : Nat} {w : World} {y : Nat} {word b s : Int} {a : Option Addr} {cap : Nat} {L : List (Int × Int)} (h : RN base w y word a cap L) (hs : uor word b = s) (hn : s = 0 ∨ L = []) :
    Calls Try.prog 16 #[.pointer (some ⟨y, 0, none⟩), .int .u32 b] w (RNP base y w (.tuple #[.agg #[.int .i64 0, .int .i64 0], .int .u32 0, .bool false]) s L) := by
  have K0 := (Kp.refl [] w).alloc (.cells #[.int .i64 0, .int .i64 0] 27)
  have H := h.grew K0
  have B := hide (Bk.new w 27 [.int .i64 0, .int .i64 0])
  have c0 := H.bk.cell (i := 0) rfl
  have c1 := H.bk.cell (i := 1) rfl
  have f0 := H.bk.frozen
  have X := hide (H.word s)
  have K1 := hide ((K0.mono (S' := [y]) (by simp)).setCell (p := ⟨y, 0, none⟩) (.inl (by simp)) (.int .u32 s))
  have hyw : w.heap.size ≠ y := by have := h.bk.lt; omega
  have hrn : ∀ g, (Value.slice a L.length cap).ownBlock = some g → g ≠ w.heap.size := fun g hg e => by
    obtain ⟨_, cs, hc⟩ := (RL.rd h).lt hg
    have := (Array.getElem?_eq_some_iff.1 hc).1
    omega
  have hbs : bits .or .u32 word b = s := hs
  replace hyw := hide hyw
  by_cases h0 : s = 0
  · subst h0
    clear h H K0 hs hn
    go_enter Try.func16, Try.ntmps16
    go_upto_region 2 with fail
    have k2 := (Kp.refl [y] (w.alloc (.cells #[.int .i64 0, .int .i64 0] 27))).setCell (p := ⟨y, 0, none⟩) (.inl (by simp)) (.int .u32 0)
    have B2 := hide ((unhide B).kept k2 (by have := unhide hyw; simp; exact this))
    clear c0 c1 f0 B k2 hbs
    generalize (w.alloc (.cells #[.int .i64 0, .int .i64 0] 27)).setCell ⟨y, 0, none⟩ (.int .u32 0) = w2 at *
    have c0 := (unhide X).bk.cell (i := 0) rfl
    have c1 := (unhide X).bk.cell (i := 1) rfl
    have f0 := (unhide B2).frozen
    have e0 := (unhide B2).cell (i := 0) rfl
    have e1 := (unhide B2).cell (i := 1) rfl
    have X3 := hide (RN.kept (unhide X) (((Kp.refl [w.heap.size] w2).setCell (p := ⟨w.heap.size, 0, none⟩) (.inl (by simp)) (.int .i64 0)).setCell (p := ⟨w.heap.size, 1, none⟩) (.inl (by simp)) (.int .i64 0)) (by have := unhide hyw; simp; exact Ne.symm this) (fun g hg m => by have := Gr.Ro.lt (RL.rd (unhide X)) hg; exact hrn g hg (List.mem_singleton.1 m)))
    have K3 := hide (((unhide K1).setCell (p := ⟨w.heap.size, 0, none⟩) (.inr (Nat.le_refl _)) (.int .i64 0)).setCell (p := ⟨w.heap.size, 1, none⟩) (.inr (Nat.le_refl _)) (.int .i64 0))
    go_wp2
    exact bodyPost_ret (v := .tuple #[.agg #[.int .i64 0, .int .i64 0], .int .u32 0, .bool false]) (by simp [results, Try.results16, go_sem, *]) rfl ⟨rfl, ⟨a, cap, unhide X3⟩, unhide K3⟩
  · have hL := hn.resolve_left h0
    subst hL
    have b0 := wz_no h0
    clear h H K0 hs hn h0
    go_enter Try.func16, Try.ntmps16
    go_upto_region 2 with fail
    have k2 := (Kp.refl [y] (w.alloc (.cells #[.int .i64 0, .int .i64 0] 27))).setCell (p := ⟨y, 0, none⟩) (.inl (by simp)) (.int .u32 s)
    have B2 := hide ((unhide B).kept k2 (by have := unhide hyw; simp; exact this))
    clear c0 c1 f0 B k2 hbs
    generalize (w.alloc (.cells #[.int .i64 0, .int .i64 0] 27)).setCell ⟨y, 0, none⟩ (.int .u32 s) = w2 at *
    have c0 := (unhide X).bk.cell (i := 0) rfl
    have c1 := (unhide X).bk.cell (i := 1) rfl
    have f0 := (unhide B2).frozen
    have e0 := (unhide B2).cell (i := 0) rfl
    have e1 := (unhide B2).cell (i := 1) rfl
    have X3 := hide (RN.kept (unhide X) (((Kp.refl [w.heap.size] w2).setCell (p := ⟨w.heap.size, 0, none⟩) (.inl (by simp)) (.int .i64 0)).setCell (p := ⟨w.heap.size, 1, none⟩) (.inl (by simp)) (.int .i64 0)) (by have := unhide hyw; simp; exact Ne.symm this) (fun g hg m => by have := Gr.Ro.lt (RL.rd (unhide X)) hg; exact hrn g hg (List.mem_singleton.1 m)))
    have K3 := hide (((unhide K1).setCell (p := ⟨w.heap.size, 0, none⟩) (.inr (Nat.le_refl _)) (.int .i64 0)).setCell (p := ⟨w.heap.size, 1, none⟩) (.inr (Nat.le_refl _)) (.int .i64 0))
    go_wp2
    exact bodyPost_ret (v := .tuple #[.agg #[.int .i64 0, .int .i64 0], .int .u32 0, .bool false]) (by simp [results, Try.results16, go_sem, *]) rfl ⟨rfl, ⟨a, cap, unhide X3⟩, unhide K3⟩
set_option maxRecDepth 4000 in
set_option maxHeartbeats 2000000 in
theorem rnsig_yes {base : Nat} {w : World} {y : Nat} {word b s f1 f2 : Int} {a : Option Addr} {cap : Nat} {T : List (Int × Int)} (h : RN base w y word a cap ((f1, f2) :: T)) (hs : uor word b = s) (hn : s ≠ 0) :
    Calls Try.prog 16 #[.pointer (some ⟨y, 0, none⟩), .int .u32 b] w (RNP base y w (.tuple #[.agg #[.int .i64 f1, .int .i64 f2], .int .u32 s, .bool true]) 0 T) := by
  have K0 := (Kp.refl [] w).alloc (.cells #[.int .i64 0, .int .i64 0] 27)
  have H := h.grew K0
  have B := hide (Bk.new w 27 [.int .i64 0, .int .i64 0])
  obtain ⟨n, hlen⟩ : ∃ n, ((f1, f2) :: T).length = n := ⟨_, rfl⟩
  have hl0 : ((n : Int) == 0) = false := beq_eq_false_iff_ne.2 (by have : 0 < ((f1, f2) :: T).length := Nat.succ_pos _; omega)
  have c0 := H.bk.cell (i := 0) rfl
  have f0 := H.bk.frozen
  have X := hide (H.word s)
  have K1 := hide ((K0.mono (S' := [y]) (by simp)).setCell (p := ⟨y, 0, none⟩) (.inl (by simp)) (.int .u32 s))
  have hyw : w.heap.size ≠ y := by have := h.bk.lt; omega
  have hbs : bits .or .u32 word b = s := hs
  have b0 := wz_no hn
  have k2 := hide ((Kp.refl [y] (w.alloc (.cells #[.int .i64 0, .int .i64 0] 27))).setCell (p := ⟨y, 0, none⟩) (.inl (by simp)) (.int .u32 s))
  replace hyw := hide hyw
  have hwy := hide h.bk.lt
  obtain ⟨g, off, rfl⟩ := RL.addr h (by simp)
  have hgw : Hid (g ≠ w.heap.size) := by
    obtain ⟨_, cs, hc⟩ := (RL.rd h).lt (g := g) rfl
    have := (Array.getElem?_eq_some_iff.1 hc).1
    unfold Hid
    omega
  replace hlen := hide hlen
  clear h H K0 hs hn
  go_enter Try.func16, Try.ntmps16
  go_upto_region 2 with fail
  have B2 := hide ((unhide B).kept (unhide k2) (by have := unhide hyw; simp; exact this))
  clear c0 f0 B k2 hbs
  generalize (w.alloc (.cells #[.int .i64 0, .int .i64 0] 27)).setCell ⟨y, 0, none⟩ (.int .u32 s) = w2 at *
  have c0 := (unhide X).bk.cell (i := 0) rfl
  have c1 := (unhide X).bk.cell (i := 1) rfl
  rw [unhide hlen] at c1
  go_wp2_with fail
  refine (rlpop_at (unhide X)).mono ?_
  rintro e W3 ⟨rfl, ⟨q3, cap3, X3⟩, K3⟩
  replace X3 : Hid (RN base W3 y s (some ⟨g, q3, none⟩) cap3 T) := hide X3
  have B3 := hide ((unhide B2).kept K3 (by have := unhide hyw; simp; exact this))
  have KW3 := hide ((unhide K1).then K3)
  clear K3 B2 X c0 c1 K1
  have k4 := (Kp.refl [] W3).alloc (.cells #[.int .i64 f1, .int .i64 f2] 27)
  have X4 := hide ((unhide X3).grew k4)
  have B4 := hide ((unhide B3).kept k4 (by simp))
  have D4 := hide (Bk.new W3 27 [.int .i64 f1, .int .i64 f2])
  have KW4 := hide ((unhide KW3).then (k4.mono (S' := [y]) (by simp)))
  have hDy : Hid (W3.heap.size ≠ y ∧ W3.heap.size ≠ w.heap.size) := by
    have h1 := (unhide X3).bk.lt
    have h2 := (unhide B3).lt
    exact ⟨by omega, by omega⟩
  clear k4 X3 B3 KW3
  go_upto_region 5 with fail
  generalize W3.alloc (.cells #[.int .i64 f1, .int .i64 f2] 27) = W4 at *
  obtain ⟨D, eD⟩ : ∃ D, W3.heap.size = D := ⟨_, rfl⟩
  rw [eD] at D4 hDy
  simp only [eD]
  clear eD
  have c0 := (unhide X4).bk.cell (i := 0) rfl
  have f0 := (unhide X4).bk.frozen
  have k5 := (Kp.refl [y] W4).setCell (p := ⟨y, 0, none⟩) (.inl (by simp)) (.int .u32 0)
  have X5 := hide ((unhide X4).word 0)
  have B5 := hide ((unhide B4).kept k5 (by have := unhide hyw; simp; exact this))
  have D5 := hide ((unhide D4).kept k5 (by have := (unhide hDy).1; simp; exact this))
  have KW5 := hide ((unhide KW4).then k5)
  clear k5 X4 B4 D4 KW4
  go_upto_region 7 with fail
  clear c0 f0
  generalize W4.setCell ⟨y, 0, none⟩ (.int .u32 0) = W5 at *
  have f0 := (unhide B5).frozen
  have e0 := (unhide B5).cell (i := 0) rfl
  have e1 := (unhide B5).cell (i := 1) rfl
  have d0 := (unhide D5).cell (i := 0) rfl
  have d1 := (unhide D5).cell (i := 1) rfl
  have k6 := ((Kp.refl [w.heap.size] W5).setCell (p := ⟨w.heap.size, 0, none⟩) (.inl (by simp)) (.int .i64 f1)).setCell (p := ⟨w.heap.size, 1, none⟩) (.inl (by simp)) (.int .i64 f2)
  have X6 := hide (RN.kept (unhide X5) k6 (by have := unhide hyw; simp; exact Ne.symm this) (fun g' e m => by have e2 : g = g' := Option.some.inj e; have := unhide hgw; simp at m; omega))
  have KW6 : Hid (Kp [y] w _) := (unhide KW5).trans k6 (by simp) (by simp)
  clear k6 X5 B5 D5 KW5
  go_wp2
  exact bodyPost_ret (v := .tuple #[.agg #[.int .i64 f1, .int .i64 f2], .int .u32 s, .bool true]) (by simp [results, Try.results16, go_sem, *]) rfl ⟨rfl, ⟨_, _, unhide X6⟩, unhide KW6⟩
end Go.Proofs.Ytgahekhlbcnmaaa
