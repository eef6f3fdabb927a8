/- The document's marks: taken, reset. -/
import Derived.Test.YthjhpcbhkcmghaaKMark0
namespace Go.Proofs.Ythjhpcbhkcmghaa
open Go.RowKit
set_option linter.unusedVariables false
/-- What a change of the document's marks leaves. -/
def RMP (base y : Nat) (w : World) (v : Value) (M : List Mk) (e : Ending) (w' : World) : Prop := e = .returned v ∧ (∃ a cap, RM base w' y a cap M) ∧ Dch base y w w'
theorem Try.infoMark1 : (Try.prog.info? 92).map (fun i => (i.zero, i.size, i.bytes)) = some (some (.agg #[.int .i64 0, .int .i64 0, .int .i64 0]), 3, 24) := by kernel_rfl
theorem RM.nomark {base : Nat} {w : World} {y : Nat} {a : Option Addr} {cap : Nat} {M : List Mk} (h : RM base w y a cap M) : ∀ c', w.heap[y]? ≠ some (.cells c' 92 (0, 0)) := by
  intro c' q
  have b := h.head
  unfold Bk at b
  rw [b] at q
  simp at q
/-- One mark's number written. -/
theorem RM.stored {base : Nat} {w : World} {y g cap : Nat} {M : List Mk} (h : RM base w y (some ⟨g, 0, none⟩) cap M) {i : Nat} {x : Mk} (hx : M[i]? = some x) (n : Int) :
    RM base (w.setCell ⟨g, i * 3 + 2, none⟩ (.int .i64 n)) y (some ⟨g, 0, none⟩) cap (M.set i ⟨x.b, x.z, n⟩) ∧ Dch base y w (w.setCell ⟨g, i * 3 + 2, none⟩ (.int .i64 n)) := by
  obtain ⟨h1, h2⟩ := h.own.store hx (j := 2) (y := ⟨x.b, x.z, n⟩) (u := .int .i64 n) (by omega) rfl
  obtain ⟨hb, c, hc⟩ := h.own.block (g := g) rfl
  have hne : y ≠ g := fun e => h.nomark c (by rw [e]; exact hc)
  refine ⟨⟨?_, by rw [List.length_set]; exact h1, h.new, by rw [List.length_set]; exact h.small⟩, [g], h2, fun i mi => .inr ⟨by rw [List.mem_singleton.1 mi]; exact hb, c, by rw [List.mem_singleton.1 mi]; exact hc⟩⟩
  rw [List.length_set]
  exact h.head.kept h2 (by simpa using hne)
theorem RM.frozen {base : Nat} {w : World} {y g cap : Nat} {M : List Mk} (h : RM base w y (some ⟨g, 0, none⟩) cap M) (i : Nat) : w.frozen? ⟨g, i, none⟩ = false := h.own.frozen i
/-- The head written behind a row that grew. -/
theorem RM.grown {base : Nat} {w w1 : World} {y : Nat} {a : Option Addr} {cap : Nat} {M : List Mk} (h : RM base w y a cap M) {M' : List Mk} {a' : Option Addr} {cap' : Nat} (hr : Gr.Rw markE base w1 (.slice a' M'.length cap') M') (hg : w.grownBy w1 (Value.slice a M.length cap).ownBlock) (hs : M'.length ≤ 65536) (hn : (Value.slice a' M'.length cap').ownBlock = (Value.slice a M.length cap).ownBlock ∨ (Value.slice a' M'.length cap').ownBlock = some w.heap.size) :
    RM base (w1.setCell ⟨y, 0, none⟩ (.slice a' M'.length cap')) y a' cap' M' ∧ Dch base y w (w1.setCell ⟨y, 0, none⟩ (.slice a' M'.length cap')) := by
  have k1 := Gr.kp_gb hg
  have hrow : ∀ g, (Value.slice a M.length cap).ownBlock = some g → g ≠ y := fun g e q => by
    obtain ⟨_, c, hc⟩ := h.own.block e
    subst q
    exact h.nomark c hc
  have hb1 : Bk w1 y 36 [.slice a M.length cap] := h.head.kept k1 (fun m => hrow y (Option.mem_toList.1 m) rfl)
  have k2 : Kp [y] w1 (w1.setCell ⟨y, 0, none⟩ (.slice a' M'.length cap')) := (Kp.refl [y] w1).setCell (.inl (by simp)) _
  refine ⟨⟨hb1.set 0 _, hr.kept k2 (fun g e m => ?_), h.new, hs⟩, _, k1.trans k2 (T := y :: (Value.slice a M.length cap).ownBlock.toList) (fun i m => List.mem_cons_of_mem _ m) (fun i m => .inl (by rw [List.mem_singleton.1 m]; exact List.mem_cons_self)), fun i m => ?_⟩
  · have m' : g = y := by simpa using m
    subst m'
    rcases hn with q | q
    · exact hrow g (q.symm.trans e) rfl
    · rw [e] at q
      have := h.lt
      have q' : g = w.heap.size := by simpa using q
      omega
  · rcases List.mem_cons.1 m with e | e
    · exact .inl e
    · obtain ⟨hb, c, hc⟩ := h.own.block (Option.mem_toList.1 e)
      exact .inr ⟨hb, c, hc⟩
theorem setML_hit {M : List Mk} {b z n : Int} {i : Nat} (h : mkAt M b z = some i) : setML M b z n = M.set i ⟨b, z, n⟩ := by unfold setML; rw [h]
theorem setML_miss {M : List Mk} {b z n : Int} (h : mkAt M b z = none) : setML M b z n = M ++ [⟨b, z, n⟩] := by unfold setML; rw [h]
theorem step_mark {w : World} {ops : Array Oper} {o : Oper} {a : Act} {K : Act → World → Prop} {Q : Exit → Act → World → Prop} {X : Prop} (hgd : o.guard = none) (s x : Operand)
    (ho : o.op = .call { callee := .builtin .append, args := #[s, x], argTypes := #[34, 34] })
    (base : Nat) (v xv : Value) (L N : List Mk) (hs : a.eval s = v) (hx : a.eval x = xv) (hown : Gr.Rw markE base w v L) (hsrc : Gr.Src markE w xv N) (hb : L.length + N.length ≤ 1048576) (hbase : base ≤ w.heap.size)
    (h : ∀ v' w', Gr.Rw markE base w' v' (L ++ N) → w.grownBy w' v.ownBlock → (v'.ownBlock = v.ownBlock ∨ v'.ownBlock = some w.heap.size) → K (a.put o.dst v') w') :
    if Region.wanted o (yielded ops a.tmps) = true then Oper.wp Try.prog o a w K Q else X :=
  Gr.step_app (E := markE) Try.underlying34 Try.infoMark1 rfl (by decide) (by decide) hgd s x ho base v xv L N hs hx hown hsrc hb hbase h
/-- What the growth of the row leaves. -/
theorem mk_keep {base : Nat} {w w1 : World} {y p : Nat} {a : Option Addr} {cap : Nat} {M : List Mk} {T : TypeId} {vs : List Value} (h : RM base w y a cap M) (b : Bk w p T vs) (hg : w.grownBy w1 (Value.slice a M.length cap).ownBlock) (hT : T ≠ 92 := by decide) : Bk w1 y 36 [.slice a M.length cap] ∧ Bk w1 p T vs := by
  refine ⟨h.head.kept (Gr.kp_gb hg) (fun m => ?_), b.kept (Gr.kp_gb hg) (fun m => ?_)⟩
  · obtain ⟨_, c, hc⟩ := h.own.block (Option.mem_toList.1 m)
    exact h.nomark c hc
  · obtain ⟨_, c, hc⟩ := h.own.block (Option.mem_toList.1 m)
    unfold Bk at b
    rw [b] at hc
    simp at hc
    exact hT hc.2
set_option maxRecDepth 4000 in
set_option maxHeartbeats 1000000 in
theorem rset_calls {base : Nat} {w : World} {y : Nat} {a : Option Addr} {cap : Nat} {M : List Mk} (h : RM base w y a cap M) (b z n : Int) (hM : M.length < 65536) :
    Calls Try.prog 38 #[.pointer (some ⟨y, 0, none⟩), .agg #[.int .i64 b, .int .i64 z], .int .i64 n] w (RMP base y w (.tuple #[]) (setML M b z n)) := by
  have hs := h.small
  have H0 := hide (h.grew ((Kp.refl [] w).alloc (.cells #[.int .i64 b, .int .i64 z] 45)))
  have K0 := hide ((Kp.refl [] w).alloc (.cells #[.int .i64 b, .int .i64 z] 45))
  have P0 := hide (Bk.new w 45 [.int .i64 b, .int .i64 z])
  have c0 := (unhide H0).head.cell (i := 0) rfl
  have hNo := hide h.nomark
  have hyp : Hid (y ≠ w.heap.size) := by have := h.lt; unfold Hid; omega
  clear h
  go_enter Try.func38, Try.ntmps38
  go_wp2_with fail
  go_loopg [6] M.length (fun m i wx => ∃ j : Nat, j ≤ M.length ∧ m = M.length - j ∧ i = .int .i64 j ∧ (∀ l, l < j → ∀ x, M[l]? = some x → ¬ (x.b = b ∧ x.z = z)) ∧ RM base wx y a cap M ∧ Bk wx w.heap.size 45 [.int .i64 b, .int .i64 z] ∧ Kp [] w wx)
  case atStart => exact ⟨0, Nat.zero_le _, rfl, rfl, fun l hl => by omega, unhide H0, unhide P0, unhide K0⟩
  case round =>
    obtain ⟨j, hj, rfl, rfl, hnot, hR, hP, hK⟩ := hrel
    clear H0 K0 P0 c0
    have c0 := hR.head.cell (i := 0) rfl
    have p0 := hP.cell (i := 0) rfl
    have p1 := hP.cell (i := 1) rfl
    by_cases hlt : j < M.length
    · obtain ⟨g, rfl⟩ := hR.addr (by omega)
      obtain ⟨x, hx⟩ : ∃ x, M[j]? = some x := ⟨_, List.getElem?_eq_getElem hlt⟩
      obtain ⟨x0, x1, x2⟩ := hR.cells hx
      have b1 : (j : Int) < (M.length : Int) := by omega
      have b2 : ((j : Int)).toNat = j := Int.toNat_natCast j
      obtain ⟨xb, xz, xn⟩ := x
      simp only at x0 x1 x2
      have fr := hR.frozen
      replace hR := hide hR
      replace hP := hide hP
      replace hK := hide hK
      replace hnot := hide hnot
      have hx' := hide hx
      clear hx
      by_cases e1 : xb = b
      · by_cases e2 : xz = z
        · subst e1 e2
          go_wp2_with fail
          go_quiet (fail)
          replace hR := hide ((unhide hR).grew ((Kp.refl [] _).drewN nq))
          go_wp2
          refine bodyPost_ret (v := .tuple #[]) (by simp [results, Try.results38, go_sem, *]) rfl ?_
          obtain ⟨q1, q2⟩ := (unhide hR).stored (unhide hx') n
          refine ⟨rfl, ?_, (Dch.of ((unhide hK).drewN nq)).trans q2 (unhide hNo)⟩
          rw [setML_hit (mkAt_hit (unhide hnot) (unhide hx') rfl rfl)]
          exact ⟨_, _, q1⟩
        · subst e1
          have e2' : (xz == z) = false := beq_eq_false_iff_ne.2 e2
          go_wp2_with fail
          go_quiet (fail)
          go_wp2
          go_roundg (M.length - (j + 1))
          case measure => omega
          case rel => exact ⟨j + 1, by omega, rfl, by go_num, mk_more (unhide hnot) (unhide hx') (fun H => e2 H.2), (unhide hR).grew ((Kp.refl [] _).drewN _), (unhide hP).drewN _, (unhide hK).drewN _⟩
      · have e1' : (xb == b) = false := beq_eq_false_iff_ne.2 e1
        go_wp2_with fail
        go_quiet (fail)
        go_wp2
        go_roundg (M.length - (j + 1))
        case measure => omega
        case rel => exact ⟨j + 1, by omega, rfl, by go_num, mk_more (unhide hnot) (unhide hx') (fun H => e1 H.1), (unhide hR).grew ((Kp.refl [] _).drewN _), (unhide hP).drewN _, (unhide hK).drewN _⟩
    · have b1 : decide ((j : Int) < (M.length : Int)) = false := decide_eq_false (by omega)
      replace hR := hide hR
      replace hP := hide hP
      replace hK := hide hK
      have hmiss := hide (mkAt_miss (fun l hl => hnot l (by omega)))
      clear hnot
      have x2 := hide ((Bk.new wr 92 [.int .i64 b, .int .i64 z, .int .i64 n]).kept ((Kp.refl [] _).drew) (by simp))
      have R2 := hide ((unhide hR).grew ((Kp.refl [] wr).alloc (.cells #[.int .i64 b, .int .i64 z, .int .i64 n] 92)).drew)
      have P2 := hide (((unhide hP).alloc (.cells #[.int .i64 b, .int .i64 z, .int .i64 n] 92)).kept ((Kp.refl [] _).drew) (by simp))
      have bs : Hid (base ≤ wr.heap.size) := by have h1 := (unhide hR).new; have h2 := (unhide hR).lt; unfold Hid; omega
      have lM : M.length + ([⟨b, z, n⟩] : List Mk).length ≤ 1048576 := by simp; omega
      have bs2 : base ≤ (wr.alloc (.cells #[.int .i64 b, .int .i64 z, .int .i64 n] 92)).heap.size := by have := unhide bs; simp; omega
      replace lM := hide lM
      replace bs2 := hide bs2
      go_wp2_with fail
      have d0 := (unhide R2).head.cell (i := 0) rfl
      have e0 := (unhide P2).cell (i := 0) rfl
      have e1 := (unhide P2).cell (i := 1) rfl
      go_region_law ((refine step_mark (by rfl) _ _ (by rfl) base (.slice a M.length cap) (.slice (some ⟨wr.heap.size, 0, none⟩) 1 1) M [⟨b, z, n⟩] (by rfl) (by rfl) (unhide R2).own (Gr.src_one (unhide x2) rfl) (unhide lM) (unhide bs2) ?_; intro v' W1 hr hg hn; obtain ⟨a', cap', rfl⟩ := hr.form; have hk := hide (mk_keep (unhide R2) (unhide P2) hg); have f3 := (unhide hk).1.frozen 0; have c3 := (unhide hk).1.cell (i := 0) rfl; replace hr := hide hr; replace hg := hide hg; replace hn := hide hn))
      all_goals
        go_wp2
        refine bodyPost_ret (v := .tuple #[]) (by simp [results, Try.results38, go_sem, *]) rfl ?_
        obtain ⟨q1, q2⟩ := (unhide R2).grown (unhide hr) (unhide hg) (by simp; omega) (unhide hn)
        have eL : (M ++ [(⟨b, z, n⟩ : Mk)]).length = M.length + 1 := by simp
        rw [eL] at q1 q2
        refine ⟨rfl, ?_, (Dch.of (((unhide hK).alloc _).drew)).trans q2 (unhide hNo)⟩
        rw [setML_miss (unhide hmiss)]
        exact ⟨_, _, q1⟩
end Go.Proofs.Ythjhpcbhkcmghaa
namespace Go.Proofs.Ythjhpcbhkcmghaa
open Go.RowKit
set_option linter.unusedVariables false
theorem Dch.pre {base y : Nat} {w W w' : World} {a : Option Addr} {cap : Nat} {M : List Mk} (h : RM base w y a cap M) (k : Kp [] w W) (T : Dch base y W w') : Dch base y w w' := (Dch.of k).trans T h.nomark
set_option maxRecDepth 4000 in
set_option maxHeartbeats 1000000 in
theorem rreset_calls {base : Nat} {w : World} {y : Nat} {a : Option Addr} {cap : Nat} {M : List Mk} (h : RM base w y a cap M) (b z : Int) (hM : M.length < 65536) :
    Calls Try.prog 16 #[.pointer (some ⟨y, 0, none⟩), .agg #[.int .i64 b, .int .i64 z]] w (RMP base y w (.tuple #[]) (setML M b z 0)) := by
  have H := hide h
  have K0 := hide ((Kp.refl [] w).alloc (.cells #[.int .i64 b, .int .i64 z] 45))
  clear h
  go_enter Try.func16, Try.ntmps16
  go_wp2_with fail
  refine (rset_calls ((unhide H).grew (unhide K0)) b z 0 hM).mono ?_
  rintro e W1 ⟨rfl, hR, hD⟩
  replace hR := hide hR
  replace hD := hide hD
  go_wp2
  exact bodyPost_ret (v := .tuple #[]) (by simp [results, Try.results16, go_sem, *]) rfl ⟨rfl, unhide hR, Dch.pre (unhide H) (unhide K0) (unhide hD)⟩
set_option maxRecDepth 4000 in
set_option maxHeartbeats 1000000 in
theorem rtake_no {base : Nat} {w : World} {y : Nat} {a : Option Addr} {cap : Nat} {M : List Mk} (h : RM base w y a cap M) {b z n u : Int} (hu : usedL M b z = u) (hs : IntKind.i64.wrap (z - u) = z - u) (hno : n < 1 ∨ z - u < n) :
    Calls Try.prog 18 #[.pointer (some ⟨y, 0, none⟩), .agg #[.int .i64 b, .int .i64 z], .int .i64 n] w fun e w' => e = .returned (.tuple #[.int .i64 0, .bool false]) ∧ Kp [] w w' := by
  have H := hide h
  have K0 := hide ((Kp.refl [] w).alloc (.cells #[.int .i64 b, .int .i64 z] 45))
  have B0 := hide (Bk.new w 45 [.int .i64 b, .int .i64 z])
  replace hu := hide hu
  clear h
  go_enter Try.func18, Try.ntmps18
  go_wp2_with fail
  refine (rused_to ((unhide H).grew (unhide K0)) (unhide hu)).mono ?_
  rintro e W1 ⟨rfl, K1⟩
  have z1 := ((unhide B0).kept K1 (by simp)).cell (i := 1) rfl
  have K2 := hide ((unhide K0).then K1)
  clear K1 K0 B0
  by_cases h1 : n < 1
  · clear hno
    go_wp2
    exact bodyPost_ret (v := .tuple #[.int .i64 0, .bool false]) (by simp [results, Try.results18, go_sem, *]) rfl ⟨rfl, unhide K2⟩
  · have h2 : z - u < n := by omega
    have h3 : decide (n < 1) = false := decide_eq_false h1
    clear hno h1
    go_wp2
    exact bodyPost_ret (v := .tuple #[.int .i64 0, .bool false]) (by simp [results, Try.results18, go_sem, *]) rfl ⟨rfl, unhide K2⟩
set_option maxRecDepth 4000 in
set_option maxHeartbeats 1000000 in
theorem rtake_yes {base : Nat} {w : World} {y : Nat} {a : Option Addr} {cap : Nat} {M : List Mk} (h : RM base w y a cap M) {b z n u : Int} (hM : M.length < 65536) (hu : usedL M b z = u) (hs : IntKind.i64.wrap (z - u) = z - u) (ha : IntKind.i64.wrap (u + n) = u + n) (hb : IntKind.i64.wrap (b + u) = b + u) (h1 : 1 ≤ n) (h2 : n ≤ z - u) :
    Calls Try.prog 18 #[.pointer (some ⟨y, 0, none⟩), .agg #[.int .i64 b, .int .i64 z], .int .i64 n] w (RMP base y w (.tuple #[.int .i64 (b + u), .bool true]) (setML M b z (u + n))) := by
  have H := hide h
  have K0 := hide ((Kp.refl [] w).alloc (.cells #[.int .i64 b, .int .i64 z] 45))
  have B0 := hide (Bk.new w 45 [.int .i64 b, .int .i64 z])
  have hy := hide h.lt
  replace hu := hide hu
  clear h
  go_enter Try.func18, Try.ntmps18
  go_wp2_with fail
  refine (rused_to ((unhide H).grew (unhide K0)) (unhide hu)).mono ?_
  rintro e W1 ⟨rfl, K1⟩
  have B1 := hide ((unhide B0).kept K1 (by simp))
  have z0 := (unhide B1).cell (i := 0) rfl
  have z1 := (unhide B1).cell (i := 1) rfl
  have K2 := hide ((unhide K0).then K1)
  have hd1 : decide (n < 1) = false := decide_eq_false (by omega)
  have hd2 : decide (z - u < n) = false := decide_eq_false (by omega)
  clear K1 K0 B0 h1 h2
  go_wp2_with fail
  refine (rset_calls ((unhide H).grew (unhide K2)) b z (u + n) hM).mono ?_
  rintro e W2 ⟨rfl, hR, hD⟩
  have x0 := (hD.bk (unhide B1) (by have := unhide hy; omega) (by decide)).cell (i := 0) rfl
  replace hR := hide hR
  replace hD := hide hD
  clear z0 z1
  go_wp2
  exact bodyPost_ret (v := .tuple #[.int .i64 (b + u), .bool true]) (by simp [results, Try.results18, go_sem, *]) rfl ⟨rfl, unhide hR, Dch.pre (unhide H) (unhide K2) (unhide hD)⟩
end Go.Proofs.Ythjhpcbhkcmghaa
