/- The document's endpoint: Send. -/
import Derived.Test.YthnpkojfkhndoaaKEp0
namespace Go.Proofs.Ythnpkojfkhndoaa
open Go.RowKit
set_option linter.unusedVariables false
set_option linter.unusedSimpArgs false
set_option maxRecDepth 10000 in
set_option maxHeartbeats 4000000 in
theorem resend_no {base : Nat} {w : World} {y : Nat} {a : Option Addr} {ca : Nat} {S : List Ms} {b : Option Addr} {cb : Nat} (h : RE base w y a ca S b cb []) (hL : S.length < 65536) (q1 q2 wd bd : Int) (cl : Bool) :
    Calls Try.prog 9 #[.pointer (some ⟨y, 0, none⟩), .agg #[.int .i64 q1, .int .i64 q2, .int .u32 wd, .int .i64 bd, .bool cl]] w (REP base y w a b (.tuple #[.agg #[.int .i64 0, .int .i64 0, .int .i64 0], .bool false]) (S ++ [(q1, q2, wd, bd, cl)]) []) := by
  have hyw := hide h.lt
  have hby := hide h.new
  have hold : Hid (∀ g, (Value.slice b ([] : List Rc).length cb).ownBlock = some g → g < w.heap.size) := fun g hg => h.r.old hg
  replace hL := hide hL
  have hla : Hid (([] : List Ms).length + S.length ≤ 1048576) := by have := unhide hL; unfold Hid; simp; omega
  have hlb : Hid (S.length + [(q1, q2, wd, bd, cl)].length ≤ 1048576) := by have := unhide hL; unfold Hid; simp; omega
  have K0 := hide (((Kp.refl [] w).alloc (.cells #[.int .i64 q1, .int .i64 q2, .int .u32 wd, .int .i64 bd, .bool cl] 51)).alloc (.cells #[.int .i64 0, .int .i64 0, .int .i64 0] 48))
  have H1 := hide (h.grew (unhide K0))
  have B1 := hide ((Bk.new w 51 [.int .i64 q1, .int .i64 q2, .int .u32 wd, .int .i64 bd, .bool cl]).alloc (.cells #[.int .i64 0, .int .i64 0, .int .i64 0] 48))
  have C1 := hide (Gr.bk_next (w.alloc (.cells #[.int .i64 q1, .int .i64 q2, .int .u32 wd, .int .i64 bd, .bool cl] 51)) 48 [.int .i64 0, .int .i64 0, .int .i64 0] (p := w.heap.size + 1) (by simp))
  have hsz : Hid (((w.alloc (.cells #[.int .i64 q1, .int .i64 q2, .int .u32 wd, .int .i64 bd, .bool cl] 51)).alloc (.cells #[.int .i64 0, .int .i64 0, .int .i64 0] 48)).heap.size = w.heap.size + 2) := by unfold Hid; simp
  have c1 := (unhide H1).head.cell (i := 1) rfl
  clear h
  go_enter Try.func9, Try.ntmps9
  go_upto_region 2 with fail
  clear c1
  generalize (w.alloc (.cells #[.int .i64 q1, .int .i64 q2, .int .u32 wd, .int .i64 bd, .bool cl] 51)).alloc (.cells #[.int .i64 0, .int .i64 0, .int .i64 0] 48) = W1 at *
  have K1 := hide ((Kp.refl [] W1).drew)
  have hS0 : Hid (∀ w', Kp [] W1 w' → (fun w' => w'.cell? ⟨y, 0, none⟩ = some (.slice a S.length ca) ∧ w'.cell? ⟨w.heap.size, 0, none⟩ = some (.int .i64 q1) ∧ w'.cell? ⟨w.heap.size, 1, none⟩ = some (.int .i64 q2) ∧ w'.cell? ⟨w.heap.size, 2, none⟩ = some (.int .u32 wd) ∧ w'.cell? ⟨w.heap.size, 3, none⟩ = some (.int .i64 bd) ∧ w'.cell? ⟨w.heap.size, 4, none⟩ = some (.bool cl)) w') := fun w' kk => ⟨((unhide H1).grew kk).head.cell (i := 0) rfl, ((unhide B1).kept kk (by simp)).cell (i := 0) rfl, ((unhide B1).kept kk (by simp)).cell (i := 1) rfl, ((unhide B1).kept kk (by simp)).cell (i := 2) rfl, ((unhide B1).kept kk (by simp)).cell (i := 3) rfl, ((unhide B1).kept kk (by simp)).cell (i := 4) rfl⟩
  have hbW : Hid (base ≤ W1.heap.size) := by have := unhide hby; have := unhide hyw; have := unhide hsz; unfold Hid; omega
  have K0s := Kp.refl [] W1
  have hA := unhide hS0 _ K0s
  have hB := unhide hS0 _ (K0s.alloc (.cells #[] 51))
  have hC := unhide hS0 _ (K0s.alloc (.cells #[.int .i64 q1, .int .i64 q2, .int .u32 wd, .int .i64 bd, .bool cl] 51))
  have hD := unhide hS0 _ ((K0s.alloc (.cells #[] 51)).alloc (.cells #[.int .i64 q1, .int .i64 q2, .int .u32 wd, .int .i64 bd, .bool cl] 51))
  have hE := unhide hS0 _ ((K0s.alloc (.cells #[.int .i64 q1, .int .i64 q2, .int .u32 wd, .int .i64 bd, .bool cl] 51)).alloc (.cells #[] 51))
  clear K0s
  clear B1
  go_cut [] (fun wx => (∃ a4 c4, RE base wx y a4 c4 (S ++ [(q1, q2, wd, bd, cl)]) b cb [] ∧ ∀ g, (Value.slice a4 (S ++ [(q1, q2, wd, bd, cl)]).length c4).ownBlock = some g → W1.heap.size ≤ g) ∧ Bk wx (w.heap.size + 1) 48 [.int .i64 0, .int .i64 0, .int .i64 0] ∧ Kp [y] W1 wx)
  case first =>
    go_region_law (first
      | (refine Gr.step_app (E := (msE 51)) Try.underlying32 Try.infoMsgR rfl (by decide) (by decide) (by rfl) _ _ (by rfl) W1.heap.size v1 (.slice (some ⟨W1.heap.size, 0, none⟩) 1 1) S [(q1, q2, wd, bd, cl)] (by rfl) (by rfl) (unhide rowC) (Gr.src_one (unhide xC) rfl) (unhide hlb) (unhide K2).size ?_; intro v3 w3 hrow hgrow hat; obtain ⟨a3, c3, rfl⟩ := hrow.form; have k3 := Gr.kp_grown (unhide K2) hgrow (fun q hq => ((unhide rowC).lt hq).1); have ht := (unhide H1).head.kept k3 (by simp); have f5 := ht.frozen; have c5 := ht.cell (i := 0) rfl; have K3 := hide k3; have R3 := hide hrow; have T3 := hide ht; clear hrow hgrow hat k3 ht)
      | (refine Gr.step_app (E := (msE 51)) Try.underlying32 Try.infoMsgR rfl (by decide) (by decide) (by rfl) _ _ (by rfl) W1.heap.size v1 (.slice (some ⟨W1.heap.size + 1, 0, none⟩) 1 1) S [(q1, q2, wd, bd, cl)] (by rfl) (by rfl) (unhide rowB) (Gr.src_one (unhide xB) rfl) (unhide hlb) (unhide K2).size ?_; intro v3 w3 hrow hgrow hat; obtain ⟨a3, c3, rfl⟩ := hrow.form; have k3 := Gr.kp_grown (unhide K2) hgrow (fun q hq => ((unhide rowB).lt hq).1); have ht := (unhide H1).head.kept k3 (by simp); have f5 := ht.frozen; have c5 := ht.cell (i := 0) rfl; have K3 := hide k3; have R3 := hide hrow; have T3 := hide ht; clear hrow hgrow hat k3 ht)
      | (refine Gr.step_app (E := (msE 51)) Try.underlying32 Try.infoMsgR rfl (by decide) (by decide) (by rfl) _ _ (by rfl) W1.heap.size v1 (.slice (some ⟨w1.heap.size, 0, none⟩) 1 1) S [(q1, q2, wd, bd, cl)] (by rfl) (by rfl) ((unhide rowA).grew ((Kp.refl [] w1).alloc _)) (Gr.src_one (Bk.new w1 51 [.int .i64 q1, .int .i64 q2, .int .u32 wd, .int .i64 bd, .bool cl]) rfl) (unhide hlb) ((unhide K2).alloc _).size ?_; intro v3 w3 hrow hgrow hat; obtain ⟨a3, c3, rfl⟩ := hrow.form; have k3 := Gr.kp_grown ((unhide K2).alloc _) hgrow (fun q hq => ((unhide rowA).lt hq).1); have ht := (unhide H1).head.kept k3 (by simp); have f5 := ht.frozen; have c5 := ht.cell (i := 0) rfl; have K3 := hide k3; have R3 := hide hrow; have T3 := hide ht; clear hrow hgrow hat k3 ht)
      | (refine Gr.step_app (E := (msE 51)) Try.underlying32 Try.infoMsgR rfl (by decide) (by decide) (by rfl) _ _ (by rfl) W1.heap.size (.slice (some ⟨W1.heap.size, 0, none⟩) 0 0) (.slice a S.length ca) [] S (by rfl) (by rfl) (Gr.row_empty (Bk.newA W1.drew 51 #[]) (Nat.le_refl _)) (((unhide H1).grew ((unhide K1).alloc _)).s.src) (unhide hla) ((unhide K1).alloc _).size ?_; intro v1 w1 hrow hgrow hat; have rowA := hide hrow; have K2 := hide (Gr.kp_grown ((unhide K1).alloc _) hgrow (fun q hq => by cases hq; first | exact Nat.le_refl _ | exact Nat.le_succ _)); have hF := unhide hS0 _ (unhide K2); clear hrow hgrow hat)
      | (refine Gr.step_app (E := (msE 51)) Try.underlying32 Try.infoMsgR rfl (by decide) (by decide) (by rfl) _ _ (by rfl) W1.heap.size (.slice (some ⟨W1.heap.size, 0, none⟩) 0 0) (.slice a S.length ca) [] S (by rfl) (by rfl) (Gr.row_empty ((Bk.newA W1.drew 51 #[]).alloc _) (Nat.le_refl _)) (((unhide H1).grew (((unhide K1).alloc _).alloc _)).s.src) (unhide hla) (((unhide K1).alloc _).alloc _).size ?_; intro v1 w1 hrow hgrow hat; have rowB := hide hrow; have K2 := hide (Gr.kp_grown (((unhide K1).alloc _).alloc _) hgrow (fun q hq => by cases hq; first | exact Nat.le_refl _ | exact Nat.le_succ _)); have xB := hide (Gr.bk_grown (Gr.bk_next (W1.drew.alloc (.cells #[] 51)) 51 [.int .i64 q1, .int .i64 q2, .int .u32 wd, .int .i64 bd, .bool cl] (p := W1.heap.size + 1) (Gr.sz_da W1 _)) hgrow (fun e => absurd (Option.some.inj e) (Nat.ne_of_gt (Nat.lt_succ_self _)))); clear hrow hgrow hat)
      | (refine Gr.step_app (E := (msE 51)) Try.underlying32 Try.infoMsgR rfl (by decide) (by decide) (by rfl) _ _ (by rfl) W1.heap.size (.slice (some ⟨W1.heap.size + 1, 0, none⟩) 0 0) (.slice a S.length ca) [] S (by rfl) (by rfl) (Gr.row_empty (Gr.bk_next (W1.drew.alloc (.cells #[.int .i64 q1, .int .i64 q2, .int .u32 wd, .int .i64 bd, .bool cl] 51)) 51 [] (Gr.sz_da W1 _)) (Nat.le_succ _)) (((unhide H1).grew (((unhide K1).alloc _).alloc _)).s.src) (unhide hla) (((unhide K1).alloc _).alloc _).size ?_; intro v1 w1 hrow hgrow hat; have rowC := hide hrow; have K2 := hide (Gr.kp_grown (((unhide K1).alloc _).alloc _) hgrow (fun q hq => by cases hq; first | exact Nat.le_refl _ | exact Nat.le_succ _)); have xC := hide (Gr.bk_grown ((Bk.new W1.drew 51 [.int .i64 q1, .int .i64 q2, .int .u32 wd, .int .i64 bd, .bool cl]).alloc _) hgrow (fun e => absurd (Option.some.inj e) (Nat.ne_of_lt (Nat.lt_succ_self _)))); clear hrow hgrow hat))
    all_goals
      have el : (S ++ [(q1, q2, wd, bd, cl)]).length = S.length + 1 := by simp
      have ho : ∀ g, (Value.slice a3 (S ++ [(q1, q2, wd, bd, cl)]).length c3).ownBlock = some g → W1.heap.size ≤ g := fun g e => ((unhide R3).lt e).1
      obtain ⟨X4, k4⟩ := RE.putS (base := base) (unhide R3).ro rfl (unhide hbW) (unhide T3) ((unhide H1).r.grew (unhide K3)) (unhide hby) (by have := unhide hL; simp; omega) (by simp)
      have C4 := ((unhide C1).kept (unhide K3) (by simp)).kept k4 (by have := unhide hyw; simp; omega)
      have K4 := ((unhide K3).mono (S' := [y]) (by simp)).then k4
      rw [el] at X4 C4 K4 ho
      replace X4 := hide X4
      replace C4 := hide C4
      replace K4 := hide K4
      replace ho := hide ho
      clear R3 T3 K3 k4 hA hB hC hD hE
      go_wp2
      go_meet
      case rel => exact ⟨⟨_, _, unhide X4, by rw [el]; exact unhide ho⟩, unhide C4, unhide K4⟩
  case rest =>
    obtain ⟨⟨a4, c4, X4, ho⟩, C4, K4⟩ := hcut
    have KW := ((unhide K0).mono (S' := [y]) (by simp)).then K4
    have cf := C4.frozen
    have e0 := C4.cell (i := 0) rfl
    have e1 := C4.cell (i := 1) rfl
    have e2 := C4.cell (i := 2) rfl
    have k5 := ((((Kp.refl [w.heap.size + 1] wc).setCell (p := ⟨w.heap.size + 1, 0, none⟩) (.inl (by simp)) (.int .i64 0)).setCell (p := ⟨w.heap.size + 1, 1, none⟩) (.inl (by simp)) (.int .i64 0)).setCell (p := ⟨w.heap.size + 1, 2, none⟩) (.inl (by simp)) (.int .i64 0))
    have X5 := hide (X4.kept k5 (by have := unhide hyw; simp; omega) (fun g e m => by have := ho g e; have := unhide hsz; simp at m; omega) (fun g e m => by have := unhide hold g e; simp at m; omega))
    have K5 : Hid (Kp [y] w _) := KW.trans k5 (by simp) (by simp)
    have ho5 := hide ho
    clear X4 ho C4 K4 k5 KW hS0
    go_wp2
    exact bodyPost_ret (v := .tuple #[.agg #[.int .i64 0, .int .i64 0, .int .i64 0], .bool false]) (by simp [results, Try.results9, go_sem, *]) rfl ⟨rfl, ⟨_, _, _, _, unhide X5, fun g e => .inr (by have := unhide ho5 g ((rb_is _ _ _).trans e); have := unhide hsz; omega), fun g e => .inl e⟩, unhide K5⟩
end Go.Proofs.Ythnpkojfkhndoaa
