/- A capability made of numbers (ringkernmake.Cap). -/
import Derived.Test.YtdlkaaiedfikoaaKSeq
import Derived.Test.YtdlkaaiedfikoaaKCaps
import Derived.Deep.CutBlock
import Derived.Deep.DeepCutAuto
namespace Go.Proofs.Ytdlkaaiedfikoaa
open Go.RowKit
set_option linter.unusedVariables false
def capCells (k o s b r : Int) : List Value := [.int .i64 k, .int .i64 o, .int .i64 s, .int .i64 b, .int .i64 r]
/-- The bounds of one that is made. -/
def CapIn (k o s b r : Int) : Prop := (1 ≤ k ∧ k ≤ 9) ∧ (1 ≤ o ∧ o ≤ 20) ∧ (0 ≤ r ∧ r ≤ 7) ∧ (-3 ≤ s ∧ s ≤ 16) ∧ (-3 ≤ b ∧ b ≤ 98)
def MkP (w0 w : World) (p : Nat) (a : Option Addr) (cap : Nat) (zs : List Int) (n : Nat) (e : Ending) (w' : World) : Prop :=
  ∃ k o s b r m, e = .returned (capV k o s b r) ∧ Sq w0 w' p a cap zs m ∧ m ≤ n + 9 ∧ Kp [p] w w' ∧ CapIn k o s b r
/-- On the way: the result's block q, the capability's c. -/
structure Mk (w0 w : World) (p : Nat) (a : Option Addr) (cap : Nat) (zs : List Int) (n q c : Nat) (k o s b r : Int) (m : Nat) (wx : World) : Prop where
  sq : Sq w0 wx p a cap zs m
  res : Bk wx q 31 (capCells 0 0 0 0 0)
  cb : Bk wx c 31 (capCells k o s b r)
  kp : Kp [p] w wx
  hp : p < w.heap.size
  hq : w.heap.size ≤ q
  hc : q < c
  h0 : w0.heap.size ≤ w.heap.size
theorem Mk.next {w0 w wx wy : World} {p : Nat} {a : Option Addr} {cap : Nat} {zs : List Int} {n q c : Nat} {k o s b r : Int} {m : Nat} (h : Mk w0 w p a cap zs n q c k o s b r m wx) (hs : Sq w0 wy p a cap zs (m + 1)) (kp : Kp [p] wx wy) :
    Mk w0 w p a cap zs n q c k o s b r (m + 1) wy :=
  ⟨hs, h.res.kept kp (by have := h.hp; have := h.hq; simp; omega), h.cb.kept kp (by have := h.hp; have := h.hq; have := h.hc; simp; omega), h.kp.then kp, h.hp, h.hq, h.hc, h.h0⟩
theorem Mk.size {w0 w wx : World} {p : Nat} {a : Option Addr} {cap : Nat} {zs : List Int} {n q c : Nat} {k o s b r : Int} {m : Nat} (h : Mk w0 w p a cap zs n q c k o s b r m wx) (v : Int) :
    Mk w0 w p a cap zs n q c k o v b r m (wx.setCell ⟨c, 2, none⟩ (.int .i64 v)) :=
  have hk : Kp [c] wx (wx.setCell ⟨c, 2, none⟩ (.int .i64 v)) := (Kp.refl _ _).setCell (.inl (by simp)) _
  ⟨h.sq.kept hk (by have := h.hp; have := h.hq; have := h.hc; simp; omega) (by have := h.h0; have := h.hq; have := h.hc; simp; omega), h.res.setOther (by have := h.hc; simp; omega) _, h.cb.set 2 _, h.kp.setCell (.inr (by have := h.hq; have := h.hc; simp; omega)) _, h.hp, h.hq, h.hc, h.h0⟩
theorem Mk.badge {w0 w wx : World} {p : Nat} {a : Option Addr} {cap : Nat} {zs : List Int} {n q c : Nat} {k o s b r : Int} {m : Nat} (h : Mk w0 w p a cap zs n q c k o s b r m wx) (v : Int) :
    Mk w0 w p a cap zs n q c k o s v r m (wx.setCell ⟨c, 3, none⟩ (.int .i64 v)) :=
  have hk : Kp [c] wx (wx.setCell ⟨c, 3, none⟩ (.int .i64 v)) := (Kp.refl _ _).setCell (.inl (by simp)) _
  ⟨h.sq.kept hk (by have := h.hp; have := h.hq; have := h.hc; simp; omega) (by have := h.h0; have := h.hq; have := h.hc; simp; omega), h.res.setOther (by have := h.hc; simp; omega) _, h.cb.set 3 _, h.kp.setCell (.inr (by have := h.hq; have := h.hc; simp; omega)) _, h.hp, h.hq, h.hc, h.h0⟩
/-- What a walk reads of it. -/
theorem Mk.cells {w0 w wx : World} {p : Nat} {a : Option Addr} {cap : Nat} {zs : List Int} {n q c : Nat} {k o s b r : Int} {m : Nat} (h : Mk w0 w p a cap zs n q c k o s b r m wx) :
    wx.cell? ⟨c, 0, none⟩ = some (.int .i64 k) ∧ wx.cell? ⟨c, 1, none⟩ = some (.int .i64 o) ∧ wx.cell? ⟨c, 2, none⟩ = some (.int .i64 s) ∧ wx.cell? ⟨c, 3, none⟩ = some (.int .i64 b) ∧ wx.cell? ⟨c, 4, none⟩ = some (.int .i64 r) ∧ ∀ i, wx.frozen? ⟨c, i, none⟩ = false :=
  ⟨h.cb.cell rfl, h.cb.cell rfl, h.cb.cell rfl, h.cb.cell rfl, h.cb.cell rfl, h.cb.frozen⟩
theorem Mk.fin {w0 w wx : World} {p : Nat} {a : Option Addr} {cap : Nat} {zs : List Int} {n q c : Nat} {k o s b r : Int} {m : Nat} (h : Mk w0 w p a cap zs n q c k o s b r m wx) (x1 x2 x3 x4 x5 : Value) :
    Sq w0 (((((wx.setCell ⟨q, 0, none⟩ x1).setCell ⟨q, 1, none⟩ x2).setCell ⟨q, 2, none⟩ x3).setCell ⟨q, 3, none⟩ x4).setCell ⟨q, 4, none⟩ x5) p a cap zs m ∧ Kp [p] w (((((wx.setCell ⟨q, 0, none⟩ x1).setCell ⟨q, 1, none⟩ x2).setCell ⟨q, 2, none⟩ x3).setCell ⟨q, 3, none⟩ x4).setCell ⟨q, 4, none⟩ x5) := by
  have hp := h.hp
  have hq := h.hq
  have h0 := h.h0
  have hk : Kp [q] wx (((((wx.setCell ⟨q, 0, none⟩ x1).setCell ⟨q, 1, none⟩ x2).setCell ⟨q, 2, none⟩ x3).setCell ⟨q, 3, none⟩ x4).setCell ⟨q, 4, none⟩ x5) :=
    (((((Kp.refl [q] wx).setCell (.inl (by simp)) _).setCell (.inl (by simp)) _).setCell (.inl (by simp)) _).setCell (.inl (by simp)) _).setCell (.inl (by simp)) _
  exact ⟨h.sq.kept hk (by simp; omega) (by simp; omega), five h.kp hq _ _ _ _ _⟩
def Cut (w0 w : World) (p : Nat) (a : Option Addr) (cap : Nat) (zs : List Int) (n q c : Nat) (k o r : Int) (wx : World) : Prop :=
  ∃ s b m, Mk w0 w p a cap zs n q c k o s b r m wx ∧ m ≤ n + 6 ∧ (-3 ≤ s ∧ s ≤ 16) ∧ (-3 ≤ b ∧ b ≤ 98)
set_option maxHeartbeats 1000000 in
theorem mkcap_calls {w0 w : World} {p : Nat} {a : Option Addr} {cap : Nat} {zs : List Int} {n : Nat} (h : Sq w0 w p a cap zs n) (hn : n < 1000000000000) :
    Calls Try.prog 20 #[.pointer (some ⟨p, 0, none⟩)] w (MkP w0 w p a cap zs n) := by
  have hpw := h.bk.lt
  have h00 := h.kp.size
  have hA := hide (h.kept ((Kp.refl [] w).alloc (.cells #[.int .i64 0, .int .i64 0, .int .i64 0, .int .i64 0, .int .i64 0] 31)) (by simp) (by simp))
  have hQ := hide (Bk.new w 31 (capCells 0 0 0 0 0))
  have hK := hide ((Kp.refl [p] w).alloc (.cells #[.int .i64 0, .int .i64 0, .int .i64 0, .int .i64 0, .int .i64 0] 31))
  clear h
  go_enter Try.func20, Try.ntmps20
  go_wp2_with fail
  refine (next_calls (unhide hA) (by omega) 9 (by omega) (by omega)).mono ?_
  rintro e W1 ⟨rfl, h1, k1⟩
  obtain ⟨k, hk⟩ : ∃ k, nx zs n 9 = k := ⟨_, rfl⟩
  have bk := nx_bd zs n 9 (by omega)
  rw [hk] at bk ⊢
  replace h1 := hide h1
  replace hQ := hide ((unhide hQ).kept k1 (by simp; omega))
  replace hK := hide ((unhide hK).then k1)
  clear hA k1 hk
  obtain ⟨K, hK1⟩ : ∃ K, 1 + k = K := ⟨_, rfl⟩
  go_wp2_with fail
  replace hK1 : 1 ≤ K ∧ K ≤ 9 := by omega
  clear bk
  refine (next_calls (unhide h1) (by omega) 20 (by omega) (by omega)).mono ?_
  rintro e W2 ⟨rfl, h2, k2⟩
  obtain ⟨o, ho⟩ : ∃ o, nx zs (n + 1) 20 = o := ⟨_, rfl⟩
  have bo := nx_bd zs (n + 1) 20 (by omega)
  rw [ho] at bo ⊢
  replace h2 := hide h2
  replace hQ := hide ((unhide hQ).kept k2 (by simp; omega))
  replace hK := hide ((unhide hK).then k2)
  clear h1 k2 ho
  obtain ⟨O, hO1⟩ : ∃ O, 1 + o = O := ⟨_, rfl⟩
  go_wp2_with fail
  replace hO1 : 1 ≤ O ∧ O ≤ 20 := by omega
  clear bo
  refine (next_calls (unhide h2) (by omega) 8 (by omega) (by omega)).mono ?_
  rintro e W3 ⟨rfl, h3, k3⟩
  obtain ⟨r, hr⟩ : ∃ r, nx zs (n + 1 + 1) 8 = r := ⟨_, rfl⟩
  have br := nx_bd zs (n + 1 + 1) 8 (by omega)
  rw [hr] at br ⊢
  replace hQ := (unhide hQ).kept k3 (by simp; omega)
  replace hK := (unhide hK).then k3
  have hqc : w.heap.size < W3.heap.size := hQ.lt
  have hM : Mk w0 w p a cap zs n w.heap.size W3.heap.size K O 0 0 r (n + 3) (W3.alloc (.cells (capCells K O 0 0 r).toArray 31)) :=
    ⟨h3.kept ((Kp.refl [] W3).alloc _) (by simp) (by simp), hQ.alloc _, Bk.new W3 _ _, hK.alloc _, hpw, Nat.le_refl _, hqc, h00⟩
  replace hM := hide hM
  clear h2 k3 hr h3 hQ hK
  go_upto_block 0 with fail
  go_cut [] (fun wx => Cut w0 w p a cap zs n w.heap.size W3.heap.size K O r wx)
  case first =>
    have hcase : K = 1 ∨ K = 2 ∨ K = 4 ∨ K = 5 ∨ ((K == 1) = false ∧ (K == 2) = false ∧ (K == 4) = false ∧ (K == 5) = false) := by
      by_cases e1 : K = 1
      · exact .inl e1
      by_cases e2 : K = 2
      · exact .inr (.inl e2)
      by_cases e4 : K = 4
      · exact .inr (.inr (.inl e4))
      by_cases e5 : K = 5
      · exact .inr (.inr (.inr (.inl e5)))
      exact .inr (.inr (.inr (.inr ⟨beq_eq_false_iff_ne.2 e1, beq_eq_false_iff_ne.2 e2, beq_eq_false_iff_ne.2 e4, beq_eq_false_iff_ne.2 e5⟩)))
    rcases hcase with rfl | rfl | rfl | rfl | ⟨d1, d2, d4, d5⟩
    · go_wp2_with fail
      refine (next_calls (unhide hM).sq (by omega) 9 (by omega) (by omega)).mono ?_
      rintro e W4 ⟨rfl, hs, ks⟩
      obtain ⟨x, hv⟩ : ∃ v, nx zs (n + 3) 9 = v := ⟨_, rfl⟩
      have bx := nx_bd zs (n + 3) 9 (by omega)
      rw [hv] at bx ⊢
      have hW4 := hide ((unhide hM).next hs ks)
      have cW4 := (unhide hW4).cells
      clear hs ks hv
      go_wp2
      go_meet
      case rel => exact ⟨1 + x, 0, n + 4, (unhide hW4).size (1 + x), by omega, by omega, by omega⟩
    · go_wp2_with fail
      refine (next_calls (unhide hM).sq (by omega) 2 (by omega) (by omega)).mono ?_
      rintro e W4 ⟨rfl, hs, ks⟩
      obtain ⟨x, hv⟩ : ∃ v, nx zs (n + 3) 2 = v := ⟨_, rfl⟩
      have bx := nx_bd zs (n + 3) 2 (by omega)
      rw [hv] at bx ⊢
      have hW4 := hide ((unhide hM).next hs ks)
      have cW4 := (unhide hW4).cells
      clear hs ks hv
      by_cases hx : x = 0
      · subst hx
        go_wp2_with fail
        refine (next_calls (unhide hW4).sq (by omega) 5 (by omega) (by omega)).mono ?_
        rintro e W5 ⟨rfl, hs, ks⟩
        obtain ⟨y, hv⟩ : ∃ v, nx zs (n + 3 + 1) 5 = v := ⟨_, rfl⟩
        have By := nx_bd zs (n + 3 + 1) 5 (by omega)
        rw [hv] at By ⊢
        have hW5 := hide ((unhide hW4).next hs ks)
        have cW5 := (unhide hW5).cells
        clear hs ks hv
        have hy : y = 0 ∨ y = 1 ∨ y = 2 ∨ y = 3 ∨ y = 4 := by omega
        have hW5s := hide ((unhide hW5).size y)
        clear By hW5
        rcases hy with rfl | rfl | rfl | rfl | rfl
        · go_wp2_with fail
          refine (next_calls (unhide hW5s).sq (by omega) 1 (by omega) (by omega)).mono ?_
          rintro e W6 ⟨rfl, hs, ks⟩
          obtain ⟨z, hv⟩ : ∃ v, nx zs (n + 3 + 1 + 1) 1 = v := ⟨_, rfl⟩
          have Bz := nx_bd zs (n + 3 + 1 + 1) 1 (by omega)
          rw [hv] at Bz ⊢
          have hW6 := hide ((unhide hW5s).next hs ks)
          have cW6 := (unhide hW6).cells
          clear hs ks hv
          go_wp2
          go_meet
          case rel => exact ⟨0, z, n + 6, (unhide hW6).badge z, by omega, by omega, by omega⟩
        · go_wp2_with fail
          refine (next_calls (unhide hW5s).sq (by omega) 2 (by omega) (by omega)).mono ?_
          rintro e W6 ⟨rfl, hs, ks⟩
          obtain ⟨z, hv⟩ : ∃ v, nx zs (n + 3 + 1 + 1) 2 = v := ⟨_, rfl⟩
          have Bz := nx_bd zs (n + 3 + 1 + 1) 2 (by omega)
          rw [hv] at Bz ⊢
          have hW6 := hide ((unhide hW5s).next hs ks)
          have cW6 := (unhide hW6).cells
          clear hs ks hv
          go_wp2
          go_meet
          case rel => exact ⟨1, z, n + 6, (unhide hW6).badge z, by omega, by omega, by omega⟩
        · go_wp2_with fail
          refine (next_calls (unhide hW5s).sq (by omega) 4 (by omega) (by omega)).mono ?_
          rintro e W6 ⟨rfl, hs, ks⟩
          obtain ⟨z, hv⟩ : ∃ v, nx zs (n + 3 + 1 + 1) 4 = v := ⟨_, rfl⟩
          have Bz := nx_bd zs (n + 3 + 1 + 1) 4 (by omega)
          rw [hv] at Bz ⊢
          have hW6 := hide ((unhide hW5s).next hs ks)
          have cW6 := (unhide hW6).cells
          clear hs ks hv
          go_wp2
          go_meet
          case rel => exact ⟨2, z, n + 6, (unhide hW6).badge z, by omega, by omega, by omega⟩
        · go_wp2_with fail
          refine (next_calls (unhide hW5s).sq (by omega) 8 (by omega) (by omega)).mono ?_
          rintro e W6 ⟨rfl, hs, ks⟩
          obtain ⟨z, hv⟩ : ∃ v, nx zs (n + 3 + 1 + 1) 8 = v := ⟨_, rfl⟩
          have Bz := nx_bd zs (n + 3 + 1 + 1) 8 (by omega)
          rw [hv] at Bz ⊢
          have hW6 := hide ((unhide hW5s).next hs ks)
          have cW6 := (unhide hW6).cells
          clear hs ks hv
          go_wp2
          go_meet
          case rel => exact ⟨3, z, n + 6, (unhide hW6).badge z, by omega, by omega, by omega⟩
        · go_wp2_with fail
          refine (next_calls (unhide hW5s).sq (by omega) 16 (by omega) (by omega)).mono ?_
          rintro e W6 ⟨rfl, hs, ks⟩
          obtain ⟨z, hv⟩ : ∃ v, nx zs (n + 3 + 1 + 1) 16 = v := ⟨_, rfl⟩
          have Bz := nx_bd zs (n + 3 + 1 + 1) 16 (by omega)
          rw [hv] at Bz ⊢
          have hW6 := hide ((unhide hW5s).next hs ks)
          have cW6 := (unhide hW6).cells
          clear hs ks hv
          go_wp2
          go_meet
          case rel => exact ⟨4, z, n + 6, (unhide hW6).badge z, by omega, by omega, by omega⟩
      · have hx' : (x == 0) = false := beq_eq_false_iff_ne.2 hx
        go_wp2
        go_meet
        case rel => exact ⟨0, 0, n + 4, unhide hW4, by omega, by omega, by omega⟩
    · go_wp2_with fail
      refine (next_calls (unhide hM).sq (by omega) 3 (by omega) (by omega)).mono ?_
      rintro e W4 ⟨rfl, hs, ks⟩
      obtain ⟨x, hv⟩ : ∃ v, nx zs (n + 3) 3 = v := ⟨_, rfl⟩
      have Bx := nx_bd zs (n + 3) 3 (by omega)
      rw [hv] at Bx ⊢
      have hW4 := hide ((unhide hM).next hs ks)
      have cW4 := (unhide hW4).cells
      clear hs ks hv
      go_wp2_with fail
      refine (next_calls (unhide hW4).sq (by omega) 50 (by omega) (by omega)).mono ?_
      rintro e W5 ⟨rfl, hs, ks⟩
      obtain ⟨y, hv⟩ : ∃ v, nx zs (n + 3 + 1) 50 = v := ⟨_, rfl⟩
      have By := nx_bd zs (n + 3 + 1) 50 (by omega)
      rw [hv] at By ⊢
      have hW5 := hide ((unhide hW4).next hs ks)
      have cW5 := (unhide hW5).cells
      clear hs ks hv
      have hz : 0 ≤ x * y ∧ x * y ≤ 98 := by
        have hx : x = 0 ∨ x = 1 ∨ x = 2 := by omega
        rcases hx with rfl | rfl | rfl <;> omega
      obtain ⟨z, ez⟩ : ∃ z, x * y = z := ⟨_, rfl⟩
      rw [ez] at hz
      go_wp2
      go_meet
      case rel => exact ⟨0, z, n + 5, (unhide hW5).badge z, by omega, by omega, by omega⟩
    · go_wp2_with fail
      refine (next_calls (unhide hM).sq (by omega) 3 (by omega) (by omega)).mono ?_
      rintro e W4 ⟨rfl, hs, ks⟩
      obtain ⟨x, hv⟩ : ∃ v, nx zs (n + 3) 3 = v := ⟨_, rfl⟩
      have Bx := nx_bd zs (n + 3) 3 (by omega)
      rw [hv] at Bx ⊢
      have hW4 := hide ((unhide hM).next hs ks)
      have cW4 := (unhide hW4).cells
      clear hs ks hv
      go_wp2_with fail
      refine (next_calls (unhide hW4).sq (by omega) 50 (by omega) (by omega)).mono ?_
      rintro e W5 ⟨rfl, hs, ks⟩
      obtain ⟨y, hv⟩ : ∃ v, nx zs (n + 3 + 1) 50 = v := ⟨_, rfl⟩
      have By := nx_bd zs (n + 3 + 1) 50 (by omega)
      rw [hv] at By ⊢
      have hW5 := hide ((unhide hW4).next hs ks)
      have cW5 := (unhide hW5).cells
      clear hs ks hv
      have hz : 0 ≤ x * y ∧ x * y ≤ 98 := by
        have hx : x = 0 ∨ x = 1 ∨ x = 2 := by omega
        rcases hx with rfl | rfl | rfl <;> omega
      obtain ⟨z, ez⟩ : ∃ z, x * y = z := ⟨_, rfl⟩
      rw [ez] at hz
      go_wp2
      go_meet
      case rel => exact ⟨0, z, n + 5, (unhide hW5).badge z, by omega, by omega, by omega⟩
    · go_wp2
      go_meet
      case rel => exact ⟨0, 0, n + 3, unhide hM, by omega, by omega, by omega⟩
  case rest =>
    obtain ⟨s, b, m, hC, hm, hs, hb⟩ := hcut
    have cC := hC.cells
    have hC := hide hC
    clear hM
    go_wp2_with fail
    refine (next_calls (unhide hC).sq (by omega) 25 (by omega) (by omega)).mono ?_
    rintro e W4 ⟨rfl, hs, ks⟩
    obtain ⟨x, hv⟩ : ∃ v, nx zs (m) 25 = v := ⟨_, rfl⟩
    have Bx := nx_bd zs (m) 25 (by omega)
    rw [hv] at Bx ⊢
    have hW4 := hide ((unhide hC).next hs ks)
    have cW4 := (unhide hW4).cells
    clear hs ks hv
    by_cases hx : x = 0
    · subst hx
      go_wp2_with fail
      refine (next_calls (unhide hW4).sq (by omega) 20 (by omega) (by omega)).mono ?_
      rintro e W5 ⟨rfl, hs, ks⟩
      obtain ⟨y, hv⟩ : ∃ v, nx zs (m + 1) 20 = v := ⟨_, rfl⟩
      have By := nx_bd zs (m + 1) 20 (by omega)
      rw [hv] at By ⊢
      have hW5 := hide ((unhide hW4).next hs ks)
      have cW5 := (unhide hW5).cells
      clear hs ks hv
      have hW5s := hide ((unhide hW5).size (y - 3))
      go_wp2_with fail
      refine (next_calls (unhide hW5s).sq (by omega) 20 (by omega) (by omega)).mono ?_
      rintro e W6 ⟨rfl, hs, ks⟩
      obtain ⟨z, hv⟩ : ∃ v, nx zs (m + 1 + 1) 20 = v := ⟨_, rfl⟩
      have Bz := nx_bd zs (m + 1 + 1) 20 (by omega)
      rw [hv] at Bz ⊢
      have hW6 := hide ((unhide hW5s).next hs ks)
      have cW6 := (unhide hW6).cells
      clear hs ks hv
      have hF := hide ((unhide hW6).badge (z - 3))
      have rF := (unhide hF).res.frozen
      have q0 := (unhide hF).res.cell (i := 0) rfl
      have q1 := (unhide hF).res.cell (i := 1) rfl
      have q2 := (unhide hF).res.cell (i := 2) rfl
      have q3 := (unhide hF).res.cell (i := 3) rfl
      have q4 := (unhide hF).res.cell (i := 4) rfl
      go_wp2
      exact bodyPost_ret (v := capV K O (y - 3) (z - 3) r) (by simp [results, Try.results20, go_sem, *]) rfl ⟨K, O, y - 3, z - 3, r, m + 3, rfl, ((unhide hF).fin _ _ _ _ _).1, by omega, ((unhide hF).fin _ _ _ _ _).2, hK1, hO1, by omega, by omega, by omega⟩
    · have hx' : (x == 0) = false := beq_eq_false_iff_ne.2 hx
      have rF := (unhide hW4).res.frozen
      have q0 := (unhide hW4).res.cell (i := 0) rfl
      have q1 := (unhide hW4).res.cell (i := 1) rfl
      have q2 := (unhide hW4).res.cell (i := 2) rfl
      have q3 := (unhide hW4).res.cell (i := 3) rfl
      have q4 := (unhide hW4).res.cell (i := 4) rfl
      go_wp2
      exact bodyPost_ret (v := capV K O s b r) (by simp [results, Try.results20, go_sem, *]) rfl ⟨K, O, s, b, r, m + 1, rfl, ((unhide hW4).fin _ _ _ _ _).1, by omega, ((unhide hW4).fin _ _ _ _ _).2, hK1, hO1, by omega, by omega, by omega⟩
theorem sq_start {w W0 : World} {a : Option Addr} {zs : List Int} (cap : Nat) (K0 : Kp [] w W0) (hI : Ints .i64 w a zs) : Sq w (W0.alloc (.cells #[.slice a zs.length cap, .int .i64 0] 49)) W0.heap.size a cap zs 0 :=
  ⟨Bk.new W0 _ [.slice a zs.length cap, .int .i64 0], K0.size, K0.alloc _, hI, by omega⟩
end Go.Proofs.Ytdlkaaiedfikoaa
