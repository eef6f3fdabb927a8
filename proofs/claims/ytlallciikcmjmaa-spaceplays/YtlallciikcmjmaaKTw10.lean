/- The program's maps and the document's, beside one another. -/
import Derived.Test.YtlallciikcmjmaaKSpIn
import Derived.Test.YtlallciikcmjmaaKSameG
import Derived.Test.YtlallciikcmjmaaKArgs
namespace Go.Proofs.Ytlallciikcmjmaa
open Go.RowKit
set_option linter.unusedVariables false
/-- The program's maps at t, the document's at the next block. -/
structure Tw (w : World) (t : Nat) (L M : List Pg) (wx : World) : Prop where
  sp : SpIn w t L wx
  rp : ∃ a cap, RP (t + 1) wx (t + 1) a cap M
theorem Tw.grew {w : World} {t : Nat} {L M : List Pg} {wx wy : World} (h : Tw w t L M wx) (k : Kp [] wx wy) : Tw w t L M wy := by
  obtain ⟨a, cap, hr⟩ := h.rp
  exact ⟨h.sp.grew k, a, cap, hr.grew k⟩
theorem RP.own_ge {base : Nat} {w : World} {y : Nat} {a : Option Addr} {cap : Nat} {L : List Pg} (h : RP base w y a cap L) : ∀ g, (Value.slice a L.length cap).ownBlock = some g → base ≤ g := fun g hg => (h.own.lt hg).1
theorem Tw.turnP {w : World} {t : Nat} {L L' M : List Pg} {wx wy : World} (h : Tw w t L M wx) (X : SpIn w t L' wy) (S : Sch w t wx wy) : Tw w t L' M wy := by
  obtain ⟨a, cap, hr⟩ := h.rp
  exact ⟨X, a, cap, ⟨S.bk hr.head (by omega), S.rw hr.own (fun g hg => by have := hr.own_ge g hg; omega), hr.new, hr.small⟩⟩
theorem Tw.turnD {w : World} {t : Nat} {L M M' : List Pg} {wx wy : World} (h : Tw w t L M wx) (X : ∃ a cap, RP (t + 1) wy (t + 1) a cap M') (K : Kp [t + 1] wx wy) : Tw w t L M' wy := by
  obtain ⟨a, cap, hr⟩ := h.rp
  exact ⟨h.sp.beside K hr.head (by omega) (by have := h.sp.new; omega), X⟩
theorem Tw.lt {w : World} {t : Nat} {L M : List Pg} {wx : World} (h : Tw w t L M wx) : t + 1 < wx.heap.size := by
  obtain ⟨a, cap, hr⟩ := h.rp
  exact hr.lt
theorem Tw.start {w W : World} {t : Nat} (k : Kp [] w W) (ht : W.heap.size = t) : Tw w t [] [] ((W.alloc (.cells #[.map none] 26)).alloc (.cells #[.slice none 0 0] 41)) := by
  refine ⟨SpIn.of k ht.symm ((Kp.refl [] _).alloc _), none, 0, ?_⟩
  have := RP.start (t + 1) (W.alloc (.cells #[.map none] 26)) (by simp [ht])
  simp only [World.size_alloc, ht] at this
  exact this
/-- Both answer the same, and have the same. -/
structure Bo (L : List Pg) (args : List Value) (fp fd : Nat) (v : Value) (L' : List Pg) : Prop where
  prog : ∀ {w wr : World} {t : Nat}, SpIn w t L wr → Calls Try.prog fp (.pointer (some ⟨t, 0, none⟩) :: args).toArray wr (SpC w t L' wr v)
  doc : ∀ {base : Nat} {wr : World} {y : Nat} {a : Option Addr} {cap : Nat}, RP base wr y a cap L → Calls Try.prog fd (.pointer (some ⟨y, 0, none⟩) :: args).toArray wr (RPP base y wr v L')
  len : L'.length ≤ L.length + 1
  rises : PgRises L'
theorem both_set {L : List Pg} {s p f r : Int} (hi : PgIn (s, p)) (hL : L.length < 65536) (hr : PgRises L) :
    ∃ v L', Bo L [.agg #[.int .i64 s, .int .i64 p], .agg #[.int .i64 f, .int .i64 r]] 11 19 (.bool v) L' := by
  by_cases hp : setP L s p f r
  · refine ⟨true, pgIns L ⟨s, p, f, r⟩, ⟨fun h => spset_yes h hp hL rfl, fun h => rpset_yes h hp hL, by rw [pgIns_len]; omega, pgIns_rises hr hp.2.2.2.2⟩⟩
  · refine ⟨false, L, ⟨fun h => (spset_no h hi hp).mono ?_, fun h => (rpset_no h hp).mono ?_, by omega, hr⟩⟩
    · rintro e w' ⟨rfl, K⟩
      exact ⟨rfl, h.grew K, .of K⟩
    · rintro e w' ⟨rfl, K⟩
      exact ⟨rfl, ⟨_, _, h.grew K⟩, K.mono (by simp)⟩
theorem both_clear {L : List Pg} {s p : Int} (hi : PgIn (s, p)) (hr : PgRises L) :
    ∃ v L', Bo L [.agg #[.int .i64 s, .int .i64 p]] 13 14 (.bool v) L' := by
  refine ⟨(pgGet L s p).isSome, pgDel L s p, ⟨fun h => spclear h hi rfl rfl, fun h => ?_, by unfold pgDel; have := List.length_filter_le (fun x : Pg => !(x.s == s && x.p == p)) L; omega, hr.filter _⟩⟩
  cases ha : pgAt L s p with
  | none =>
    rw [pgDel_none ha, pgGet_isNone ha]
    refine (rpclear_no h ha).mono ?_
    rintro e w' ⟨rfl, K⟩
    exact ⟨rfl, ⟨_, _, h.grew K⟩, K.mono (by simp)⟩
  | some i =>
    rw [← pgDel_some hr ha, pgGet_isSome.2 (show pgAt L s p ≠ none by rw [ha]; simp)]
    exact rpclear_yes h ha
theorem both_drop {L : List Pg} (fr : Int) (hr : PgRises L) :
    ∃ (v : Int) (L' : List Pg), Bo L [.int .i64 fr] 15 16 (.int .i64 v) L' :=
  ⟨_, _, ⟨fun h => spdrop h rfl rfl, fun h => rpdrop_calls h fr, by have := List.length_filter_le (fun x : Pg => x.f != fr) L; omega, hr.filter _⟩⟩
theorem both_empty {L : List Pg} (sp : Int) (hr : PgRises L) :
    ∃ (v : Int) (L' : List Pg), Bo L [.int .i64 sp] 17 18 (.int .i64 v) L' :=
  ⟨_, _, ⟨fun h => spempty h rfl rfl, fun h => rpempty_calls h sp, by have := List.length_filter_le (fun x : Pg => x.s != sp) L; omega, hr.filter _⟩⟩
theorem rpget_any {base : Nat} {w : World} {y : Nat} {a : Option Addr} {cap : Nat} {L : List Pg} (h : RP base w y a cap L) {s p ga gb : Int} {is : Bool} (hV : mapV (pgGet L s p) = .agg #[.int .i64 ga, .int .i64 gb]) (hIs : (pgGet L s p).isSome = is) :
    Calls Try.prog 21 #[.pointer (some ⟨y, 0, none⟩), .agg #[.int .i64 s, .int .i64 p]] w fun e w' => e = .returned (.tuple #[.agg #[.int .i64 ga, .int .i64 gb], .bool is]) ∧ Kp [] w w' := by
  rw [← hV, ← hIs]
  cases hg : pgGet L s p with
  | none => exact rpget_no h hg
  | some x => exact rpget_yes h hg
theorem rplook_to {base : Nat} {w : World} {y : Nat} {ad : Option Addr} {cap : Nat} {L : List Pg} (h : RP base w y ad cap L) {s a n r : Int} {v : Value} (h0 : 0 ≤ a) (h1 : a < 4294967296) (hv : lookV (pgLook L s a n r) = v) :
    Calls Try.prog 25 #[.pointer (some ⟨y, 0, none⟩), .int .i64 s, .int .u32 a, .int .i64 n, .int .i64 r] w fun e w' => e = .returned v ∧ Kp [] w w' := by subst hv; exact rplook_calls h s a n r h0 h1
theorem splook_to {w wr : World} {y : Nat} {L : List Pg} (h : SpIn w y L wr) {s a n r : Int} {v : Value} (hs : -9223372036854775808 ≤ s ∧ s ≤ 9223372036854775807) (h0 : 0 ≤ a) (h1 : a < 4294967296) (hr : -9223372036854775808 ≤ r ∧ r ≤ 9223372036854775807) (hv : lookV (pgLook L s a n r) = v) :
    Calls Try.prog 24 #[.pointer (some ⟨y, 0, none⟩), .int .i64 s, .int .u32 a, .int .i64 n, .int .i64 r] wr fun e w' => e = .returned v ∧ Kp [] wr w' := by
  subst hv
  exact splook h hs h0 h1 hr rfl
theorem lookV_form (o : Option (Int × Int)) : ∃ (u v : Int) (b : Bool), lookV o = .tuple #[.int .i64 u, .int .i64 v, .bool b] := by
  cases o with
  | none => exact ⟨0, 0, false, rfl⟩
  | some q => exact ⟨_, _, _, rfl⟩
/-- Both, the thing's box, the page's. -/
structure Ta (w : World) (t : Nat) (L M : List Pg) (A : Nat) (k s p f r : Int) (wx : World) : Prop where
  tw : Tw w t L M wx
  a : Bk wx A 43 [.int .i64 k, .int .i64 s, .int .i64 p, .int .i64 f, .int .i64 r]
  p : Bk wx (A + 1) 30 [.int .i64 s, .int .i64 p]
  gt : t + 1 < A
theorem Ta.grew {w : World} {t : Nat} {L M : List Pg} {A : Nat} {k s p f r : Int} {wx wy : World} (h : Ta w t L M A k s p f r wx) (kp : Kp [] wx wy) : Ta w t L M A k s p f r wy := ⟨h.tw.grew kp, h.a.kept kp (by simp), h.p.kept kp (by simp), h.gt⟩
theorem Ta.turnP {w : World} {t : Nat} {L L' M : List Pg} {A : Nat} {k s p f r : Int} {wx wy : World} (h : Ta w t L M A k s p f r wx) (X : SpIn w t L' wy) (S : Sch w t wx wy) : Ta w t L' M A k s p f r wy :=
  ⟨h.tw.turnP X S, S.bk h.a (by have := h.gt; omega), S.bk h.p (by have := h.gt; omega), h.gt⟩
theorem Ta.turnD {w : World} {t : Nat} {L M M' : List Pg} {A : Nat} {k s p f r : Int} {wx wy : World} (h : Ta w t L M A k s p f r wx) (X : ∃ a cap, RP (t + 1) wy (t + 1) a cap M') (K : Kp [t + 1] wx wy) : Ta w t L M' A k s p f r wy :=
  ⟨h.tw.turnD X K, h.a.kept K (by have := h.gt; simp; omega), h.p.kept K (by have := h.gt; simp; omega), h.gt⟩
theorem Ta.cells {w : World} {t : Nat} {L M : List Pg} {A : Nat} {k s p f r : Int} {wx : World} (h : Ta w t L M A k s p f r wx) : wx.cell? ⟨A, 0, none⟩ = some (.int .i64 k) ∧ wx.cell? ⟨A, 1, none⟩ = some (.int .i64 s) ∧ wx.cell? ⟨A, 2, none⟩ = some (.int .i64 p) ∧ wx.cell? ⟨A, 3, none⟩ = some (.int .i64 f) ∧ wx.cell? ⟨A, 4, none⟩ = some (.int .i64 r) ∧ wx.cell? ⟨A + 1, 0, none⟩ = some (.int .i64 s) ∧ wx.cell? ⟨A + 1, 1, none⟩ = some (.int .i64 p) :=
  ⟨h.a.cell rfl, h.a.cell rfl, h.a.cell rfl, h.a.cell rfl, h.a.cell rfl, h.p.cell rfl, h.p.cell rfl⟩
theorem Ta.pcells {w : World} {t : Nat} {L M : List Pg} {A : Nat} {k s p f r : Int} {wx : World} (h : Ta w t L M A k s p f r wx) : wx.cell? ⟨A + 1, 0, none⟩ = some (.int .i64 s) ∧ wx.cell? ⟨A + 1, 1, none⟩ = some (.int .i64 p) := ⟨h.p.cell rfl, h.p.cell rfl⟩
/-- And the frame's box. -/
structure Tc (w : World) (t : Nat) (L M : List Pg) (A : Nat) (k s p f r : Int) (wx : World) : Prop where
  ta : Ta w t L M A k s p f r wx
  f : Bk wx (A + 2) 34 [.int .i64 f, .int .i64 r]
theorem Tc.grew {w : World} {t : Nat} {L M : List Pg} {A : Nat} {k s p f r : Int} {wx wy : World} (h : Tc w t L M A k s p f r wx) (kp : Kp [] wx wy) : Tc w t L M A k s p f r wy := ⟨h.ta.grew kp, h.f.kept kp (by simp)⟩
theorem Tc.turnP {w : World} {t : Nat} {L L' M : List Pg} {A : Nat} {k s p f r : Int} {wx wy : World} (h : Tc w t L M A k s p f r wx) (X : SpIn w t L' wy) (S : Sch w t wx wy) : Tc w t L' M A k s p f r wy :=
  ⟨h.ta.turnP X S, S.bk h.f (by have := h.ta.gt; omega)⟩
theorem Tc.turnD {w : World} {t : Nat} {L M M' : List Pg} {A : Nat} {k s p f r : Int} {wx wy : World} (h : Tc w t L M A k s p f r wx) (X : ∃ a cap, RP (t + 1) wy (t + 1) a cap M') (K : Kp [t + 1] wx wy) : Tc w t L M' A k s p f r wy :=
  ⟨h.ta.turnD X K, h.f.kept K (by have := h.ta.gt; simp; omega)⟩
theorem Tc.cells {w : World} {t : Nat} {L M : List Pg} {A : Nat} {k s p f r : Int} {wx : World} (h : Tc w t L M A k s p f r wx) : wx.cell? ⟨A + 1, 0, none⟩ = some (.int .i64 s) ∧ wx.cell? ⟨A + 1, 1, none⟩ = some (.int .i64 p) ∧ wx.cell? ⟨A + 2, 0, none⟩ = some (.int .i64 f) ∧ wx.cell? ⟨A + 2, 1, none⟩ = some (.int .i64 r) :=
  ⟨h.ta.p.cell rfl, h.ta.p.cell rfl, h.f.cell rfl, h.f.cell rfl⟩
theorem Ta.fbox {w : World} {t : Nat} {L M : List Pg} {A : Nat} {k s p f r : Int} {wx : World} (h : Ta w t L M A k s p f r wx) (hz : wx.heap.size = A + 2) : Tc w t L M A k s p f r (wx.alloc (.cells #[.int .i64 f, .int .i64 r] 34)) :=
  ⟨h.grew ((Kp.refl [] _).alloc _), Gr.bk_next _ _ [.int .i64 f, .int .i64 r] hz⟩
theorem Tw.boxes {w : World} {t : Nat} {L M : List Pg} {wx : World} (h : Tw w t L M wx) (k s p f r : Int) : Ta w t L M wx.heap.size k s p f r ((wx.alloc (.cells #[.int .i64 k, .int .i64 s, .int .i64 p, .int .i64 f, .int .i64 r] 43)).alloc (.cells #[.int .i64 s, .int .i64 p] 30)) :=
  ⟨h.grew (((Kp.refl [] _).alloc _).alloc _), (Bk.new wx _ [.int .i64 k, .int .i64 s, .int .i64 p, .int .i64 f, .int .i64 r]).alloc _, Gr.bk_next _ _ [.int .i64 s, .int .i64 p] (by simp), h.lt⟩
theorem do5_pg {w w' : World} {a : Option Addr} {len : Nat} {V : Nat → Nat → Value} (h : Recs w a len 5 V) (k : Kp [] w w') {j : Nat} (hj : j < len) : ∃ b off, a = some ⟨b, off, none⟩ ∧ ∀ i, i < 5 → w'.cell? ⟨b, off + (j * 5 + i), none⟩ = some (V j i) := by
  obtain ⟨_, hz | ⟨b, off, rfl, hc⟩⟩ := h
  · omega
  · exact ⟨b, off, rfl, fun i hi => k.cell (hc j i hj hi)⟩
/-- Five integers a thing. -/
def FivePg (V : Nat → Nat → Value) (len : Nat) : Prop := ∀ i, i < len → (∃ n, V i 0 = .int .i64 n ∧ (Lit.int .i64 n).wf = true) ∧ (∃ n, V i 1 = .int .i64 n ∧ (Lit.int .i64 n).wf = true) ∧ (∃ n, V i 2 = .int .i64 n ∧ (Lit.int .i64 n).wf = true) ∧ (∃ n, V i 3 = .int .i64 n ∧ (Lit.int .i64 n).wf = true) ∧ (∃ n, V i 4 = .int .i64 n ∧ (Lit.int .i64 n).wf = true)
theorem u32_pg {w w' : World} {a : Option Addr} {zs : List Int} (h : Ints .u32 w a zs) (k : Kp [] w w') {j : Nat} (hj : j < zs.length) : ∃ b off z, a = some ⟨b, off, none⟩ ∧ 0 ≤ z ∧ z < 4294967296 ∧ w'.cell? ⟨b, off + j, none⟩ = some (.int .u32 z) := by
  obtain ⟨_, hw, hz | ⟨b, off, rfl, hc⟩⟩ := h
  · omega
  · have hm : zs.getD j 0 ∈ zs := by rw [List.getD_eq_getElem?_getD, List.getElem?_eq_getElem hj]; exact List.getElem_mem hj
    have hb := bounds_u32 (hw _ hm)
    exact ⟨b, off, zs.getD j 0, rfl, by omega, by omega, k.cell (hc j hj)⟩
end Go.Proofs.Ytlallciikcmjmaa
