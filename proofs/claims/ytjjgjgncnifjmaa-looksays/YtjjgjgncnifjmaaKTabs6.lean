/- ringkernlaw6.tables: of numbers: both tables, the same. -/
import Derived.Test.YtjjgjgncnifjmaaKTwo6
import Derived.Test.YtjjgjgncnifjmaaKLaw6
import Derived.Deep.RegionHeld3
import Derived.Deep.DeepCutAuto
import Derived.Deep.CutBlock
namespace Go.Proofs.Ytjjgjgncnifjmaa
open Go.RowKit
set_option linter.unusedVariables false
/-- Both tables, the numbers; a place's box, a capability's. -/
structure Pu (w : World) (t x p : Nat) (a : Option Addr) (cap : Nat) (zs : List Int) (L1 L2 : List Sl) (k A C : Nat) (an as1 ck co cz cb cr : Int) (W wx : World) : Prop where
  pt : Pt w t x p a cap zs L1 L2 k wx
  pa : Bk wx A 40 [.int .i64 an, .int .i64 as1]
  pc : Bk wx C 24 [.int .i64 ck, .int .i64 co, .int .i64 cz, .int .i64 cb, .int .i64 cr]
  nc : W.heap.size ≤ C
  cg : Cg W wx
theorem Pu.grew {w : World} {t x p : Nat} {a : Option Addr} {cap : Nat} {zs : List Int} {L1 L2 : List Sl} {k A C : Nat} {an as1 ck co cz cb cr : Int} {W wx wy : World} (h : Pu w t x p a cap zs L1 L2 k A C an as1 ck co cz cb cr W wx) (kp : Kp [] wx wy) : Pu w t x p a cap zs L1 L2 k A C an as1 ck co cz cb cr W wy := ⟨h.pt.grew kp, h.pa.kept kp (by simp), h.pc.kept kp (by simp), h.nc, h.cg.trans (.of kp)⟩
theorem Pu.turned {w : World} {t x p : Nat} {a : Option Addr} {cap : Nat} {zs : List Int} {L1 L2 L1' L2' : List Sl} {k k' A C : Nat} {an as1 ck co cz cb cr : Int} {W wx wy : World} (h : Pu w t x p a cap zs L1 L2 k A C an as1 ck co cz cb cr W wx) (q : Pt w t x p a cap zs L1' L2' k' wy ∧ Cg wx wy) : Pu w t x p a cap zs L1' L2' k' A C an as1 ck co cz cb cr W wy := ⟨q.1, q.2.box h.pa, q.2.cap h.pc, h.nc, h.cg.trans q.2⟩
theorem Pu.cells {w : World} {t x p : Nat} {a : Option Addr} {cap : Nat} {zs : List Int} {L1 L2 : List Sl} {k A C : Nat} {an as1 ck co cz cb cr : Int} {W wx : World} (h : Pu w t x p a cap zs L1 L2 k A C an as1 ck co cz cb cr W wx) : wx.cell? ⟨A, 0, none⟩ = some (.int .i64 an) ∧ wx.cell? ⟨A, 1, none⟩ = some (.int .i64 as1) ∧ wx.cell? ⟨C, 0, none⟩ = some (.int .i64 ck) ∧ wx.cell? ⟨C, 1, none⟩ = some (.int .i64 co) ∧ wx.cell? ⟨C, 2, none⟩ = some (.int .i64 cz) ∧ wx.cell? ⟨C, 3, none⟩ = some (.int .i64 cb) ∧ wx.cell? ⟨C, 4, none⟩ = some (.int .i64 cr) := ⟨h.pa.cell rfl, h.pa.cell rfl, h.pc.cell rfl, h.pc.cell rfl, h.pc.cell rfl, h.pc.cell rfl, h.pc.cell rfl⟩
/-- The capability's box is written: blocks that lay in W stay. -/
theorem Pu.setC {w : World} {t x p : Nat} {a : Option Addr} {cap : Nat} {zs : List Int} {L1 L2 : List Sl} {k A C : Nat} {an as1 ck co cz cb cr : Int} {W wx : World} (h : Pu w t x p a cap zs L1 L2 k A C an as1 ck co cz cb cr W wx) (hW : w.heap.size ≤ W.heap.size) (k' o' z' b' r' : Int) : Pu w t x p a cap zs L1 L2 k A C an as1 k' o' z' b' r' W (((((wx.setCell ⟨C, 0, none⟩ (.int .i64 k')).setCell ⟨C, 1, none⟩ (.int .i64 o')).setCell ⟨C, 2, none⟩ (.int .i64 z')).setCell ⟨C, 3, none⟩ (.int .i64 b')).setCell ⟨C, 4, none⟩ (.int .i64 r')) := by
  have kb : Kp [C] wx (((((wx.setCell ⟨C, 0, none⟩ (.int .i64 k')).setCell ⟨C, 1, none⟩ (.int .i64 o')).setCell ⟨C, 2, none⟩ (.int .i64 z')).setCell ⟨C, 3, none⟩ (.int .i64 b')).setCell ⟨C, 4, none⟩ (.int .i64 r')) := kp_put5 (Kp.refl [C] wx) (.inl (by simp)) _ _ _ _ _
  obtain ⟨ra, rc, r⟩ := h.pt.rt
  obtain ⟨m, hp, _⟩ := h.pt.tab.tab
  have hn : w.heap.size ≤ C := Nat.le_trans hW h.nc
  refine ⟨⟨h.pt.tab.beside kb h.pc (h.pc.apart hp.head (by decide)) hn, ⟨ra, rc, r.kept kb (by simpa using r.head.apart h.pc (by decide)) (fun g hg mm => ?_)⟩, h.pt.sq.kept kb (by simpa using h.pt.sq.bk.apart h.pc (by decide)) (by simpa using hn)⟩, h.pa.kept kb (by simpa using h.pa.apart h.pc (by decide)), bk_put5 h.pc _ _ _ _ _, h.nc, fun g T vs b h1 h2 h3 => ?_⟩
  · rcases r.own.2 with ⟨e, _⟩ | ⟨g', c, cur, e, hb, hh, _⟩
    · rw [hg] at e; cases e
    · rw [hg] at e
      cases e
      have e2 : g = C := by simpa using mm
      subst e2
      have := h.pc
      unfold Bk at this
      rw [hh] at this
      simp at this
  · have hl := b.lt
    exact (h.cg g T vs b h1 h2 h3).kept kb (by have := h.nc; simp; omega)
theorem pt_start {w W : World} {p : Nat} {a : Option Addr} {cap : Nat} {zs : List Int} (h : Sq w W p a cap zs 0) :
    Pt w W.heap.size (W.heap.size + 1) p a cap zs [] [] 0 ((W.alloc (.cells #[.map none] 50)).alloc (.cells #[.slice none 0 0] 59)) := by
  refine ⟨Tb.of h.kp rfl ((Kp.refl [] _).alloc _), ⟨none, 0, ?_⟩, h.kept (((Kp.refl [] W).alloc _).alloc _) (by simp) (by simp)⟩
  exact ⟨Bk.next (p := W.heap.size + 1) _ _ [.slice none 0 0] (by simp), ⟨rfl, .inl ⟨rfl, rfl⟩⟩, Nat.le_refl _, by simp, by simp⟩
/-- What tables leaves. -/
def TabsP (w : World) (p : Nat) (a : Option Addr) (cap : Nat) (zs : List Int) (W : World) (e : Ending) (w' : World) : Prop := ∃ t L k, e = .returned (.tuple #[.pointer (some ⟨t, 0, none⟩), .pointer (some ⟨t + 1, 0, none⟩), .bool true]) ∧ Pt w t (t + 1) p a cap zs L L k w' ∧ k ≤ 1000 ∧ Cg W w'
set_option maxRecDepth 4000 in
set_option maxHeartbeats 8000000 in
theorem tables_calls {w W : World} {p : Nat} {a : Option Addr} {cap : Nat} {zs : List Int} (h : Sq w W p a cap zs 0) :
    Calls Try.prog 8 #[.pointer (some ⟨p, 0, none⟩), .int .i64 20] W (TabsP w p a cap zs W) := by
  have X0 := hide (pt_start h)
  have G0 : Hid (Cg W ((W.alloc (.cells #[.map none] 50)).alloc (.cells #[.slice none 0 0] 59))) := Cg.of (((Kp.refl [] W).alloc _).alloc _)
  have hW : Hid (w.heap.size ≤ W.heap.size) := h.kp.size
  obtain ⟨t, et⟩ : ∃ t, W.heap.size = t := ⟨_, rfl⟩
  rw [et] at X0
  have et' := hide et
  clear h
  go_enter Try.func8, Try.ntmps8
  go_wp2_with fail
  generalize (W.alloc (.cells #[.map none] 50)).alloc (.cells #[.slice none 0 0] 59) = W1 at *
  clear et
  go_loopg [9] 20 (fun m i wr => ∃ j : Nat, j ≤ 20 ∧ m = 20 - j ∧ i = .int .i64 j ∧ ∃ L k, Pt w t (t + 1) p a cap zs L L k wr ∧ Cg W wr ∧ L.length ≤ j ∧ k ≤ j * 20)
  case atStart => exact ⟨0, Nat.zero_le _, by omega, rfl, [], 0, unhide X0, unhide G0, by simp, by omega⟩
  case round =>
    obtain ⟨j, hj, rfl, rfl, L, k, hP, hG, hLn, hkn⟩ := hrel
    clear X0 G0
    by_cases hlt : j < 20
    · have b1 : (j : Int) < 20 := by omega
      obtain ⟨n1, e1⟩ : ∃ x, nx zs k 5 = x := ⟨_, rfl⟩
      obtain ⟨n2, e2⟩ : ∃ x, nx zs (k + 1) 16 = x := ⟨_, rfl⟩
      have q1 := nx_bd zs k 5 (by omega)
      have q2 := nx_bd zs (k + 1) 16 (by omega)
      rw [e1] at q1
      rw [e2] at q2
      replace hP := hide hP
      replace hG := hide hG
      go_wp2_with fail
      refine (next_calls (unhide hP).sq (by omega) 5 (by omega) (by omega)).mono ?_
      rintro e W2 ⟨rfl, S2, K2⟩
      have Q2 := (unhide hP).turnS K2 S2
      have P2 := hide Q2.1
      have G2 := hide ((unhide hG).trans Q2.2)
      rw [e1]
      clear S2 K2 Q2 hP hG
      replace e1 := hide e1
      go_wp2_with fail
      refine (next_calls (unhide P2).sq (by omega) 16 (by omega) (by omega)).mono ?_
      rintro e W3 ⟨rfl, S3, K3⟩
      have Q3 := (unhide P2).turnS K3 S3
      have P3 := hide (Q3.1.grew ((Kp.refl [] W3).alloc (.cells #[.int .i64 (1 + n1), .int .i64 n2] 40)))
      have G3 := hide (((unhide G2).trans Q3.2).trans (.of ((Kp.refl [] W3).alloc (.cells #[.int .i64 (1 + n1), .int .i64 n2] 40))))
      have A3 := hide (Bk.new W3 40 [.int .i64 (1 + n1), .int .i64 n2])
      rw [e2]
      clear S3 K3 Q3 P2 G2
      replace e2 := hide e2
      obtain ⟨A, eA⟩ : ∃ A, W3.heap.size = A := ⟨_, rfl⟩
      rw [eA] at A3
      go_wp2_with fail
      generalize W3.alloc (.cells #[.int .i64 (1 + n1), .int .i64 n2] 40) = W4 at *
      clear eA
      refine (mkcap_calls (unhide P3).sq (by omega)).mono ?_
      rintro e W5 ⟨ck, co, cz, cb, cr, k', rfl, hS5, hk5, K5, hci⟩
      have Q5 := (unhide P3).turnS K5 hS5
      have Z := hide (Pu.mk (W := W) (Q5.1.grew ((Kp.refl [] W5).alloc (.cells #[.int .i64 ck, .int .i64 co, .int .i64 cz, .int .i64 cb, .int .i64 cr] 24))) ((Q5.2.box (unhide A3)).alloc (.cells #[.int .i64 ck, .int .i64 co, .int .i64 cz, .int .i64 cb, .int .i64 cr] 24)) (Bk.new W5 24 [.int .i64 ck, .int .i64 co, .int .i64 cz, .int .i64 cb, .int .i64 cr]) (by have := unhide et'; have := Q5.1.tab.lt; omega) (((unhide G3).trans Q5.2).trans (.of ((Kp.refl [] W5).alloc (.cells #[.int .i64 ck, .int .i64 co, .int .i64 cz, .int .i64 cb, .int .i64 cr] 24)))))
      have hin : Hid (PIn (1 + n1, n2)) := ⟨in64_of (by show _ ≤ 1 + n1; omega) (by show 1 + n1 ≤ _; omega), in64_of (by show _ ≤ n2; omega) (by show n2 ≤ _; omega)⟩
      obtain ⟨C, eC⟩ : ∃ C, W5.heap.size = C := ⟨_, rfl⟩
      rw [eC] at Z
      clear hS5 K5 Q5 P3 G3 A3 hci
      obtain ⟨n3, e3⟩ : ∃ x, nx zs k' 2 = x := ⟨_, rfl⟩
      unfold capV
      go_wp2_with fail
      generalize W5.alloc (.cells #[.int .i64 ck, .int .i64 co, .int .i64 cz, .int .i64 cb, .int .i64 cr] 24) = W6 at *
      clear eC
      refine (next_calls (unhide Z).pt.sq (by omega) 2 (by omega) (by omega)).mono ?_
      rintro e W6' ⟨rfl, S6, K6⟩
      have Z6 := hide ((unhide Z).turned ((unhide Z).pt.turnS K6 S6))
      rw [e3]
      replace e3 := hide e3
      clear S6 K6 Z
      by_cases h0 : n3 = 0
      · subst h0
        obtain ⟨n4, e4⟩ : ∃ x, nx zs (k' + 1) 5 = x := ⟨_, rfl⟩
        have q4 := nx_bd zs (k' + 1) 5 (by omega)
        rw [e4] at q4
        go_wp2_with fail
        refine (next_calls (unhide Z6).pt.sq (by omega) 5 (by omega) (by omega)).mono ?_
        rintro e W7 ⟨rfl, S7, K7⟩
        have Z7' := hide ((unhide Z6).turned ((unhide Z6).pt.turnS K7 S7))
        rw [e4]
        replace e4 := hide e4
        clear S7 K7 Z6
        obtain ⟨a0, a1, c0, c1, c2, c3, c4⟩ := (unhide Z7').cells
        have fC := (unhide Z7').pc.frozen
        have Z7 := hide (((unhide Z7').setC (unhide hW) 2 (1 + n4) 0 0 7).grew (Kp.refl [] _).drew)
        go_wp2_with fail
        clear a0 a1 c0 c1 c2 c3 c4 fC Z7'
        obtain ⟨v, L', hB⟩ := bt_put (w := w) (t := t) (x := t + 1) (L := L) (k := 2) (o := (1 + n4)) (z := 0) (b := 0) (r := 7) (by omega) (unhide hin) pin_zero
        have hlen := hB.len
        replace hB := hide hB
        go_region_held3 (fun w' => w'.cell? ⟨A, 0, none⟩ = some (.int .i64 (1 + n1)) ∧ w'.cell? ⟨A, 1, none⟩ = some (.int .i64 n2) ∧ w'.cell? ⟨C, 0, none⟩ = some (.int .i64 2) ∧ w'.cell? ⟨C, 1, none⟩ = some (.int .i64 (1 + n4)) ∧ w'.cell? ⟨C, 2, none⟩ = some (.int .i64 0) ∧ w'.cell? ⟨C, 3, none⟩ = some (.int .i64 0) ∧ w'.cell? ⟨C, 4, none⟩ = some (.int .i64 7)) (first | exact (unhide Z9).cells | exact (unhide Z8).cells | exact (unhide Z7).cells) (first
          | (go_at_call 16; refine ((unhide hB).prog _ (unhide Z7).pt.tab).mono ?_; rintro e W8 ⟨rfl, X8, T8⟩; have Z8 := hide ((unhide Z7).turned ((unhide Z7).pt.turnT T8 X8)); clear X8 T8)
          | (go_at_call 20; obtain ⟨ra, rc, rr⟩ := (unhide Z8).pt.rt; refine ((unhide hB).doc _ ra rc rr).mono ?_; rintro e W9 ⟨rfl, X9, K9⟩; have Z9 := hide ((unhide Z8).turned ((unhide Z8).pt.turnX K9 X9)); clear X9 K9 rr))
        all_goals
          cases v
          all_goals
            go_wp2
            go_roundg (20 - (j + 1))
            case measure => omega
            case rel => exact ⟨j + 1, by omega, rfl, by go_num, L', _, (unhide Z9).pt, (unhide Z9).cg, by omega, by omega⟩
      · have h0' : (n3 == 0) = false := beq_eq_false_iff_ne.2 h0
        replace h0 := hide h0
        have Z7 := hide ((unhide Z6).grew (Kp.refl [] _).drew)
        clear Z6
        go_wp2_with fail
        obtain ⟨v, L', hB⟩ := bt_put (w := w) (t := t) (x := t + 1) (L := L) (k := ck) (o := co) (z := cz) (b := cb) (r := cr) (by omega) (unhide hin) pin_zero
        have hlen := hB.len
        replace hB := hide hB
        go_region_held3 (fun w' => w'.cell? ⟨A, 0, none⟩ = some (.int .i64 (1 + n1)) ∧ w'.cell? ⟨A, 1, none⟩ = some (.int .i64 n2) ∧ w'.cell? ⟨C, 0, none⟩ = some (.int .i64 ck) ∧ w'.cell? ⟨C, 1, none⟩ = some (.int .i64 co) ∧ w'.cell? ⟨C, 2, none⟩ = some (.int .i64 cz) ∧ w'.cell? ⟨C, 3, none⟩ = some (.int .i64 cb) ∧ w'.cell? ⟨C, 4, none⟩ = some (.int .i64 cr)) (first | exact (unhide Z9).cells | exact (unhide Z8).cells | exact (unhide Z7).cells) (first
          | (go_at_call 16; refine ((unhide hB).prog _ (unhide Z7).pt.tab).mono ?_; rintro e W8 ⟨rfl, X8, T8⟩; have Z8 := hide ((unhide Z7).turned ((unhide Z7).pt.turnT T8 X8)); clear X8 T8)
          | (go_at_call 20; obtain ⟨ra, rc, rr⟩ := (unhide Z8).pt.rt; refine ((unhide hB).doc _ ra rc rr).mono ?_; rintro e W9 ⟨rfl, X9, K9⟩; have Z9 := hide ((unhide Z8).turned ((unhide Z8).pt.turnX K9 X9)); clear X9 K9 rr))
        all_goals
          cases v
          all_goals
            go_wp2
            go_roundg (20 - (j + 1))
            case measure => omega
            case rel => exact ⟨j + 1, by omega, rfl, by go_num, L', _, (unhide Z9).pt, (unhide Z9).cg, by omega, by omega⟩
    · have b1 : decide ((j : Int) < 20) = false := by simp; omega
      go_wp2
      refine bodyPost_ret (v := .tuple #[.pointer (some ⟨t, 0, none⟩), .pointer (some ⟨t + 1, 0, none⟩), .bool true]) (by simp [results, Try.results8, go_sem, *]) rfl ⟨t, L, k, rfl, hP, by omega, hG⟩
end Go.Proofs.Ytjjgjgncnifjmaa
