/- The document's endpoint: Recv that meets one. -/
import Derived.Test.YthnpkojfkhndoaaKEp0
namespace Go.Proofs.Ythnpkojfkhndoaa
open Go.RowKit
set_option linter.unusedVariables false
set_option linter.unusedSimpArgs false
set_option maxRecDepth 10000 in
set_option maxHeartbeats 4000000 in
theorem rerecv_at {base : Nat} {w : World} {y g off cap : Nat} {b : Option Addr} {cb : Nat} {R : List Rc} {f1 f2 fw fb : Int} {fc : Bool} {F : List Ms} (h : RE base w y (some ⟨g, off, none⟩) cap ((f1, f2, fw, fb, fc) :: F) b cb R) (q1 q2 rp : Int) :
    Calls Try.prog 13 #[.pointer (some ⟨y, 0, none⟩), .agg #[.int .i64 q1, .int .i64 q2, .int .i64 rp]] w (REP base y w (some ⟨g, off, none⟩) b (.tuple #[.agg #[.int .i64 f1, .int .i64 f2, .int .u32 fw, .int .i64 fb, .bool fc], .bool true]) F R) := by
  have hyw := hide h.lt
  have hby := hide h.new
  have hsm := hide h.ssm
  have hsmO := hide h.rsm
  have hfo : ∀ g', (Value.slice b R.length cb).ownBlock = some g' → g' ∉ [w.heap.size + 1] := fun g' e m => by have := h.r.old e; simp at m; omega
  have hfg : ∀ {n c o : Nat} g', (Value.slice (some ⟨g, o, none⟩) n c).ownBlock = some g' → g' ∉ [w.heap.size + 1] := fun g' e m => by
    have e2 : g = g' := Option.some.inj e
    have := h.s.old (g := g) rfl
    simp at m
    omega
  obtain ⟨_, hc1, hc2⟩ := h.s.caps
  obtain ⟨n, hn⟩ : ∃ n, (((f1, f2, fw, fb, fc) : Ms) :: F).length = n := ⟨_, rfl⟩
  have hn1 : F.length + 1 = n := by rw [← hn]; simp
  have KW := hide (((Kp.refl [] w).alloc (.cells #[.int .i64 q1, .int .i64 q2, .int .i64 rp] 48)).alloc (.cells #[.int .i64 0, .int .i64 0, .int .u32 0, .int .i64 0, .bool false] 51))
  have H := hide (h.grew (unhide KW))
  have hd := (unhide H).head
  rw [hn] at hd hc1
  have x0 : ((w.alloc (.cells #[.int .i64 q1, .int .i64 q2, .int .i64 rp] 48)).alloc (.cells #[.int .i64 0, .int .i64 0, .int .u32 0, .int .i64 0, .bool false] 51)).cell? ⟨g, off, none⟩ = some (.int .i64 f1) := by have := (unhide H).s.cell (i := 0) (j := 0) (x := (f1, f2, fw, fb, fc)) rfl rfl; simpa using this
  have x1 : ((w.alloc (.cells #[.int .i64 q1, .int .i64 q2, .int .i64 rp] 48)).alloc (.cells #[.int .i64 0, .int .i64 0, .int .u32 0, .int .i64 0, .bool false] 51)).cell? ⟨g, off + 1, none⟩ = some (.int .i64 f2) := by have := (unhide H).s.cell (i := 0) (j := 1) (x := (f1, f2, fw, fb, fc)) rfl rfl; simpa using this
  have x2 : ((w.alloc (.cells #[.int .i64 q1, .int .i64 q2, .int .i64 rp] 48)).alloc (.cells #[.int .i64 0, .int .i64 0, .int .u32 0, .int .i64 0, .bool false] 51)).cell? ⟨g, off + 2, none⟩ = some (.int .u32 fw) := by have := (unhide H).s.cell (i := 0) (j := 2) (x := (f1, f2, fw, fb, fc)) rfl rfl; simpa using this
  have x3 : ((w.alloc (.cells #[.int .i64 q1, .int .i64 q2, .int .i64 rp] 48)).alloc (.cells #[.int .i64 0, .int .i64 0, .int .u32 0, .int .i64 0, .bool false] 51)).cell? ⟨g, off + 3, none⟩ = some (.int .i64 fb) := by have := (unhide H).s.cell (i := 0) (j := 3) (x := (f1, f2, fw, fb, fc)) rfl rfl; simpa using this
  have x4 : ((w.alloc (.cells #[.int .i64 q1, .int .i64 q2, .int .i64 rp] 48)).alloc (.cells #[.int .i64 0, .int .i64 0, .int .u32 0, .int .i64 0, .bool false] 51)).cell? ⟨g, off + 4, none⟩ = some (.bool fc) := by have := (unhide H).s.cell (i := 0) (j := 4) (x := (f1, f2, fw, fb, fc)) rfl rfl; simpa using this
  have c0 := hd.cell (i := 0) rfl
  have cf := hd.frozen
  have B0 := hide (Gr.bk_next (w.alloc (.cells #[.int .i64 q1, .int .i64 q2, .int .i64 rp] 48)) 51 [.int .i64 0, .int .i64 0, .int .u32 0, .int .i64 0, .bool false] (p := w.heap.size + 1) (by simp))
  have hsz : Hid (((w.alloc (.cells #[.int .i64 q1, .int .i64 q2, .int .i64 rp] 48)).alloc (.cells #[.int .i64 0, .int .i64 0, .int .u32 0, .int .i64 0, .bool false] 51)).heap.size = w.heap.size + 2) := by unfold Hid; simp
  have b0 : (0 : Int) < (n : Int) := by omega
  have b1 : (1 : Int) ≤ (n : Int) := by omega
  have b2 : (n : Int) ≤ (cap : Int) := by omega
  have b3 : ((n : Int) == 0) = false := beq_eq_false_iff_ne.2 (by omega)
  have b4 : (1 : Int) ≤ (cap : Int) := by omega
  replace hd := hide hd
  replace hn := hide hn
  replace hn1 := hide hn1
  clear h hc1 hc2
  go_enter Try.func13, Try.ntmps13
  go_upto_region 5 with fail
  have K2 := ((Kp.refl [] ((w.alloc (.cells #[.int .i64 q1, .int .i64 q2, .int .i64 rp] 48)).alloc (.cells #[.int .i64 0, .int .i64 0, .int .u32 0, .int .i64 0, .bool false] 51))).alloc (.cells #[.int .i64 f1, .int .i64 f2, .int .u32 fw, .int .i64 fb, .bool fc] 51))
  have H2 := hide ((unhide H).grew K2)
  have hd2 := hide ((unhide hd).kept K2 (by simp))
  have hO2 := hide (unhide H2).r
  have B2 := hide ((unhide B0).kept K2 (by simp))
  have C2 := hide (Gr.bk_next (p := w.heap.size + 2) ((w.alloc (.cells #[.int .i64 q1, .int .i64 q2, .int .i64 rp] 48)).alloc (.cells #[.int .i64 0, .int .i64 0, .int .u32 0, .int .i64 0, .bool false] 51)) 51 [.int .i64 f1, .int .i64 f2, .int .u32 fw, .int .i64 fb, .bool fc] (by simp))
  have KW2 := hide ((unhide KW).then K2)
  clear x0 x1 x2 x3 x4 c0 cf K2 KW H hd B0
  generalize ((w.alloc (.cells #[.int .i64 q1, .int .i64 q2, .int .i64 rp] 48)).alloc (.cells #[.int .i64 0, .int .i64 0, .int .u32 0, .int .i64 0, .bool false] 51)).alloc (.cells #[.int .i64 f1, .int .i64 f2, .int .u32 fw, .int .i64 fb, .bool fc] 51) = w2 at *
  have c0 := (unhide hd2).cell (i := 0) rfl
  have cf := (unhide hd2).frozen
  by_cases hck : cap = 1
  · subst hck
    go_upto_region 6 with fail
    have hrow : Gr.Ro (msE 51) base w2 (.slice (some ⟨g, off, none⟩) (n - 1) 0) F := by
      rw [show n - 1 = F.length from by have := unhide hn1; omega]
      have e : F = [] := List.length_eq_zero_iff.1 (by have := unhide hn1; have := b2; omega)
      subst e
      exact (unhide H2).s.empty off 0 (by omega)
    obtain ⟨X4, k4⟩ := RE.putS hrow (by have := unhide hn1; omega) (Nat.le_refl _) (unhide hd2) (unhide hO2) (unhide hby) (by have := unhide hsm; simp at this; omega) (unhide hsmO)
    have hyn := unhide hyw
    have B4 := hide ((unhide B2).kept k4 (by simp; omega))
    have C4 := hide ((unhide C2).kept k4 (by simp; omega))
    have KW4 : Hid (Kp [y] w _) := (unhide KW2).trans k4 (by simp) (by simp)
    replace X4 := hide X4
    clear k4 hrow hyn c0 cf hd2 B2 C2 KW2 H2 hO2
    generalize w2.setCell ⟨y, 0, none⟩ (.slice (some ⟨g, off, none⟩) (n - 1) 0) = w4 at *
    have f0 := (unhide B4).frozen
    have e0 := (unhide B4).cell (i := 0) rfl
    have e1 := (unhide B4).cell (i := 1) rfl
    have e2 := (unhide B4).cell (i := 2) rfl
    have e3 := (unhide B4).cell (i := 3) rfl
    have e4 := (unhide B4).cell (i := 4) rfl
    have d0 := (unhide C4).cell (i := 0) rfl
    have d1 := (unhide C4).cell (i := 1) rfl
    have d2 := (unhide C4).cell (i := 2) rfl
    have d3 := (unhide C4).cell (i := 3) rfl
    have d4 := (unhide C4).cell (i := 4) rfl
    have k5 := ((((((Kp.refl [w.heap.size + 1] w4).setCell (p := ⟨w.heap.size + 1, 0, none⟩) (.inl (by simp)) (.int .i64 f1)).setCell (p := ⟨w.heap.size + 1, 1, none⟩) (.inl (by simp)) (.int .i64 f2)).setCell (p := ⟨w.heap.size + 1, 2, none⟩) (.inl (by simp)) (.int .u32 fw)).setCell (p := ⟨w.heap.size + 1, 3, none⟩) (.inl (by simp)) (.int .i64 fb)).setCell (p := ⟨w.heap.size + 1, 4, none⟩) (.inl (by simp)) (.bool fc))
    have X5 := hide ((unhide X4).kept k5 (by have := unhide hyw; simp; omega) hfg hfo)
    have KW5 : Hid (Kp [y] w _) := (unhide KW4).trans k5 (by simp) (by simp)
    clear k5 B4 C4 X4 KW4 hfo hfg
    go_wp2
    exact bodyPost_ret (v := .tuple #[.agg #[.int .i64 f1, .int .i64 f2, .int .u32 fw, .int .i64 fb, .bool fc], .bool true]) (by simp [results, Try.results13, go_sem, *]) rfl ⟨rfl, ⟨_, _, _, _, unhide X5, fun g e => .inl e, fun g e => .inl e⟩, unhide KW5⟩

  · skip
    go_upto_region 6 with fail
    have hrow : Gr.Ro (msE 51) base w2 (.slice (some ⟨g, off + 5, none⟩) (n - 1) (cap - 1)) F := by
      rw [show n - 1 = F.length from by have := unhide hn1; omega]
      exact (unhide H2).s.cut (by omega)
    obtain ⟨X4, k4⟩ := RE.putS hrow (by have := unhide hn1; omega) (Nat.le_refl _) (unhide hd2) (unhide hO2) (unhide hby) (by have := unhide hsm; simp at this; omega) (unhide hsmO)
    have hyn := unhide hyw
    have B4 := hide ((unhide B2).kept k4 (by simp; omega))
    have C4 := hide ((unhide C2).kept k4 (by simp; omega))
    have KW4 : Hid (Kp [y] w _) := (unhide KW2).trans k4 (by simp) (by simp)
    replace X4 := hide X4
    clear k4 hrow hyn c0 cf hd2 B2 C2 KW2 H2 hO2
    generalize w2.setCell ⟨y, 0, none⟩ (.slice (some ⟨g, off + 5, none⟩) (n - 1) (cap - 1)) = w4 at *
    have f0 := (unhide B4).frozen
    have e0 := (unhide B4).cell (i := 0) rfl
    have e1 := (unhide B4).cell (i := 1) rfl
    have e2 := (unhide B4).cell (i := 2) rfl
    have e3 := (unhide B4).cell (i := 3) rfl
    have e4 := (unhide B4).cell (i := 4) rfl
    have d0 := (unhide C4).cell (i := 0) rfl
    have d1 := (unhide C4).cell (i := 1) rfl
    have d2 := (unhide C4).cell (i := 2) rfl
    have d3 := (unhide C4).cell (i := 3) rfl
    have d4 := (unhide C4).cell (i := 4) rfl
    have k5 := ((((((Kp.refl [w.heap.size + 1] w4).setCell (p := ⟨w.heap.size + 1, 0, none⟩) (.inl (by simp)) (.int .i64 f1)).setCell (p := ⟨w.heap.size + 1, 1, none⟩) (.inl (by simp)) (.int .i64 f2)).setCell (p := ⟨w.heap.size + 1, 2, none⟩) (.inl (by simp)) (.int .u32 fw)).setCell (p := ⟨w.heap.size + 1, 3, none⟩) (.inl (by simp)) (.int .i64 fb)).setCell (p := ⟨w.heap.size + 1, 4, none⟩) (.inl (by simp)) (.bool fc))
    have X5 := hide ((unhide X4).kept k5 (by have := unhide hyw; simp; omega) hfg hfo)
    have KW5 : Hid (Kp [y] w _) := (unhide KW4).trans k5 (by simp) (by simp)
    clear k5 B4 C4 X4 KW4 hfo hfg
    go_wp2
    exact bodyPost_ret (v := .tuple #[.agg #[.int .i64 f1, .int .i64 f2, .int .u32 fw, .int .i64 fb, .bool fc], .bool true]) (by simp [results, Try.results13, go_sem, *]) rfl ⟨rfl, ⟨_, _, _, _, unhide X5, fun g e => .inl e, fun g e => .inl e⟩, unhide KW5⟩

theorem rerecv_yes {base : Nat} {w : World} {y : Nat} {a : Option Addr} {cap : Nat} {b : Option Addr} {cb : Nat} {R : List Rc} {f1 f2 fw fb : Int} {fc : Bool} {F : List Ms} (h : RE base w y a cap ((f1, f2, fw, fb, fc) :: F) b cb R) (q1 q2 rp : Int) :
    Calls Try.prog 13 #[.pointer (some ⟨y, 0, none⟩), .agg #[.int .i64 q1, .int .i64 q2, .int .i64 rp]] w (REP base y w a b (.tuple #[.agg #[.int .i64 f1, .int .i64 f2, .int .u32 fw, .int .i64 fb, .bool fc], .bool true]) F R) := by
  obtain ⟨g, off, rfl, _⟩ := h.s.addr (by simp)
  exact rerecv_at h _ _ _ 
end Go.Proofs.Ythnpkojfkhndoaa
