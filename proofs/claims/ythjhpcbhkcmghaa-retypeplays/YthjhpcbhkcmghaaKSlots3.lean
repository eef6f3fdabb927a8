/- The program's table: those of its places that are wanted, rising. -/
import Derived.Test.YthjhpcbhkcmghaaKSlots
import Derived.Test.YthjhpcbhkcmghaaKSort
import Derived.Laws.IdiomRangeMap
namespace Go.Proofs.Ythjhpcbhkcmghaa
open Go.RowKit
set_option linter.unusedVariables false
theorem Rg.permT {w : World} {b r : Nat} {G T T' : List ((Int × Int) × Value)} (h : Rg w b r G T) (p : T.Perm T') : Rg w b r G T' := by
  obtain ⟨es, clock, since, seen, c0, hb, E, hr, h1, h2, h3, h4⟩ := h
  exact ⟨es, clock, since, seen, c0, hb, E, hr, h1, h2, h3, h4.trans (p.map _)⟩
/-- The step, by slots. -/
theorem Rg.step {w : World} {b r : Nat} {L T : List Sl} (h : Rg w b r (L.map slKV) (T.map slKV)) :
    (T = [] ∧ ∀ ty, (Instr.next (.pointer (some ⟨r, 0, none⟩)) false ty).run Try.prog w = .ok (.tuple #[.bool false]) w) ∨
    ∃ x T' w', T.Perm (x :: T') ∧ (∀ ty, (Instr.next (.pointer (some ⟨r, 0, none⟩)) false ty).run Try.prog w = .ok (.tuple #[.bool true, .agg #[.int .i64 x.n, .int .i64 x.s], holdV x]) w') ∧ Rg w' b r (L.map slKV) (T'.map slKV) ∧ Kp [r] w w' ∧ w'.heap.size = w.heap.size ∧
      (Instr.entry (.pointer (some ⟨r, 0, none⟩))).run Try.prog w' = .ok (.tuple #[.agg #[.int .i64 x.n, .int .i64 x.s], holdV x]) w' := by
  rcases h.next 0 with ⟨h0, hrun⟩ | ⟨q, v, T', w', hp, hG, hrun, hR, hK, hs, he⟩
  · exact .inl ⟨List.map_eq_nil_iff.1 h0, fun _ => hrun⟩
  · obtain ⟨x, hx, hxe⟩ := List.mem_map.1 (hp.mem_iff.2 (List.mem_cons_self ..))
    obtain ⟨A, B, rfl⟩ := List.append_of_mem hx
    have e1 : (x.n, x.s) = q := congrArg Prod.fst hxe
    have e2 : holdV x = v := congrArg Prod.snd hxe
    subst e1 e2
    refine .inr ⟨x, A ++ B, w', List.perm_middle, fun _ => hrun, hR.permT ?_, hK, hs, he⟩
    rw [List.map_append, List.map_cons] at hp
    rw [List.map_append]
    exact (List.Perm.cons_inv (List.perm_middle.symm.trans hp)).symm
/-- What the closure says of each slot. -/
def Wants (g : Nat) (cb : Array Value) (w : World) (L : List Sl) (F : Sl → Bool) : Prop :=
  ∀ W, Kp [] w W → ∀ x ∈ L, Calls Try.prog g (#[holdV x] ++ cb) W fun e w' => e = .returned (.bool (F x)) ∧ Kp [] W w'
theorem Wants.to {g : Nat} {cb : Array Value} {w : World} {L : List Sl} {F : Sl → Bool} (h : Wants g cb w L F) {W : World} (K : Kp [] w W) {x : Sl} (hx : x ∈ L) {k o z b r u v : Int} {is : Bool} (e : holdV x = .agg #[.int .i64 k, .int .i64 o, .int .i64 z, .int .i64 b, .int .i64 r, .int .i64 u, .int .i64 v]) (hf : F x = is) :
    Calls Try.prog g (#[.agg #[.int .i64 k, .int .i64 o, .int .i64 z, .int .i64 b, .int .i64 r, .int .i64 u, .int .i64 v]] ++ cb) W fun e w' => e = .returned (.bool is) ∧ Kp [] W w' := by
  rw [← e, ← hf]
  exact h W K x hx
theorem sel_app (F : Sl → Bool) (D : List Sl) (x : Sl) : sel F (D ++ [x]) = sel F D ++ (if F x then [(x.n, x.s)] else []) := by
  unfold sel
  rw [List.filter_append, List.map_append]
  cases hf : F x <;> simp [hf]
theorem sel_perm {F : Sl → Bool} {D L : List Sl} (h : D.Perm L) : (sel F D).Perm (sel F L) := (h.filter _).map _
theorem sel_rises {F : Sl → Bool} {L : List Sl} (h : Rises (L.map fun x => (x.n, x.s))) : Rises (sel F L) := by
  unfold sel Rises at *
  exact List.Pairwise.sublist (List.Sublist.map _ List.filter_sublist) h
/-- A block of cells is no map and no range. -/
theorem Pl.cells {base : Nat} {w : World} {v : Value} {ps : List (Int × Int)} (h : Pl base w v ps) {g : Nat} (hg : v.ownBlock = some g) : ∃ cur, w.heap[g]? = some (.cells cur 40 (0, 0)) := by
  rcases h.2 with ⟨ev, _⟩ | ⟨g2, c2, cur, ev, _, hg2, _⟩
  · rw [ev] at hg; cases hg
  · rw [ev] at hg
    cases hg
    exact ⟨cur, hg2⟩
theorem Rg.grown {base : Nat} {w w1 w' : World} {b r : Nat} {G T : List ((Int × Int) × Value)} {v : Value} {ps : List (Int × Int)} (h : Rg w1 b r G T) (hg : w1.grownBy w' v.ownBlock) (hP : Pl base w v ps) (hw : ∀ k, k < w.heap.size → w1.heap[k]? = w.heap[k]? := by exact fun k hk => Below.heap_alloc _ _ _ hk) : Rg w' b r G T := by
  have hb := h.mp.lt
  have hr := h.lt
  obtain ⟨es, clock, since, seen, c0, h1, E, h2, rest⟩ := h
  have key : ∀ i o, w1.heap[i]? = some o → (∀ c e f, o ≠ .cells c e f) → some i ≠ v.ownBlock := by
    intro i o hi ho e
    obtain ⟨cur, hc⟩ := hP.cells e.symm
    have hlt := (Array.getElem?_eq_some_iff.1 hc).1
    rw [hw i hlt, hc] at hi
    cases hi
    exact ho _ _ _ rfl
  exact ⟨es, clock, since, seen, c0, (hg.block b hb (key b _ h1 (by intros; simp))).trans h1, E, (hg.block r hr (key r _ h2 (by intros; simp))).trans h2, rest⟩
set_option maxRecDepth 4000 in
set_option maxHeartbeats 2000000 in
theorem those_calls {w : World} {t : Nat} {m : Option Nat} {L : List Sl} (h : PT w t m L) {g : Nat} {cb : Array Value} (eg : ∀ args w, (callFunc g args).run Try.prog w = .ok (.enter g args) w) {F : Sl → Bool} (hF : Wants g cb w L F) :
    Calls Try.prog 46 #[.pointer (some ⟨t, 0, none⟩), .func (.func g) #[] cb] w (ListP w (sel F L)) := by
  obtain ⟨i0, hi, hinf⟩ := Option.map_eq_some_iff.1 Try.infoPlace
  simp only [Prod.mk.injEq] at hinf
  obtain ⟨hz0, hz1, hz2⟩ := hinf
  have hs := h.small
  have c0 := h.head.cell (i := 0) rfl
  have hR0 := hide h.rises
  cases m with
  | none =>
    have e : L = [] := h.mo
    subst e
    have hend := hide (psort_is (ps := []) (List.Perm.refl _) (List.Pairwise.nil : Rises []))
    clear h hF eg
    have hrg : ∀ w, (Instr.range 25 (.map none)).run Try.prog w = .ok (.pointer (some ⟨w.heap.size, 0, none⟩)) (w.alloc (.mapIter none 0 #[] 0)) := fun w => run_range_nilMap w _ _ _ Try.underlying25
    go_enter Try.func46, Try.ntmps46
    go_wp2_with fail
    go_loopg [5] 0 (fun m v wx => v = .slice none 0 0 ∧ wx = w.alloc (.mapIter none 0 #[] 0))
    case atStart => exact ⟨rfl, rfl⟩
    case round =>
      obtain ⟨rfl, rfl⟩ := hrel
      have hnx : ∀ ty, (Instr.next (.pointer (some ⟨w.heap.size, 0, none⟩)) false ty).run Try.prog (w.alloc (.mapIter none 0 #[] 0)) = .ok (.tuple #[.bool false]) (w.alloc (.mapIter none 0 #[] 0)) := fun ty => run_next_nilMap w ty 0 0 #[]
      go_wp2_with fail
      refine (sort_calls (Pl.nil w.heap.size _) ((Kp.refl [] w).alloc _) (by simp)).mono ?_
      rintro e W ⟨rfl, hP, hK⟩
      rw [unhide hend] at hP
      replace hP := hide hP
      replace hK := hide hK
      go_wp2
      go_ret
      exact ⟨_, rfl, unhide hP, unhide hK⟩
  | some b =>
    obtain ⟨w1, hrg, hR1, K1, hs1⟩ := Mp.range h.mo Try.underlying25
    have K1' := hide K1
    have hR1' := hide hR1
    have hF' := hide hF
    have hlt := hide h.mo.lt
    clear h hF K1 hR1
    go_enter Try.func46, Try.ntmps46
    go_wp2_with fail
    go_loopg [5] L.length (fun mm v wx => ∃ D T, (D ++ T).Perm L ∧ mm = T.length ∧ Rg wx b w.heap.size (L.map slKV) (T.map slKV) ∧ Pl w.heap.size wx v (sel F D) ∧ Kp [] w wx)
    case atStart => exact ⟨[], L, List.Perm.refl _, rfl, unhide hR1', Pl.nil _ _, unhide K1'⟩
    case round =>
      obtain ⟨D, T, hDT, rfl, hRg, hP, hK⟩ := hrel
      clear hrg c0 hs1 hR1' K1'
      have hlen := hDT.length_eq
      rw [List.length_append] at hlen
      rcases hRg.step with ⟨rfl, hnx⟩ | ⟨x, T', w2, hT, hnx, hRg2, hK2, hsz, hen⟩
      · rw [List.append_nil] at hDT
        have hend := hide (psort_is (sel_perm (F := F) hDT) (sel_rises (unhide hR0)))
        have hl := sel_len F D
        have hl2 : Hid ((sel F D).length ≤ 65536) := by unfold Hid; simp at hlen; omega
        replace hP := hide hP
        replace hK := hide hK
        clear hDT hlen hl hRg
        go_wp2_with fail
        refine (sort_calls (unhide hP) (unhide hK) (unhide hl2)).mono ?_
        rintro e W ⟨rfl, hP, hK⟩
        rw [unhide hend] at hP
        replace hP := hide hP
        replace hK := hide hK
        go_wp2
        go_ret
        exact ⟨_, rfl, unhide hP, unhide hK⟩
      · obtain ⟨k, o, z, bb, r, u, v, hV⟩ : ∃ k o z bb r u v : Int, holdV x = .agg #[.int .i64 k, .int .i64 o, .int .i64 z, .int .i64 bb, .int .i64 r, .int .i64 u, .int .i64 v] := ⟨_, _, _, _, _, _, _, rfl⟩
        rw [hV] at hnx hen
        have hxL : Hid (x ∈ L) := hDT.mem_iff.1 (by simp [hT.mem_iff])
        obtain ⟨xn, hn⟩ : ∃ v, x.n = v := ⟨_, rfl⟩
        obtain ⟨xs, hs'⟩ : ∃ v, x.s = v := ⟨_, rfl⟩
        obtain ⟨is, his⟩ : ∃ v, F x = v := ⟨_, rfl⟩
        have hsel := sel_app F D x
        rw [hn, hs', his] at hsel
        replace hsel := hide hsel
        rw [hn, hs'] at hnx hen
        replace hV := hide hV
        replace his := hide his
        have KA := hide (hK.trans hK2 (T := []) (by simp) (by simp))
        have hDT' : Hid ((D ++ [x] ++ T').Perm L) := by
          unfold Hid
          rw [List.append_assoc]
          exact ((hT.symm.append_left D).trans hDT)
        have hTl : Hid (T'.length < T.length) := by unfold Hid; rw [hT.length_eq]; simp
        have hPk := hide (hP.kept hK2 (fun gg hg => by
          have h1 := World.ownsRow.lt hP gg hg
          intro hm
          simp at hm
          obtain ⟨es, clock, since, seen, cc, _, _, hr, _⟩ := hRg
          rcases hP.2 with ⟨ev, _⟩ | ⟨g2, c2, cur, ev, _, hg2, _⟩
          · rw [ev] at hg; cases hg
          · rw [ev] at hg
            cases hg
            change g2 = _ at hm
            rw [hm, hr] at hg2
            cases hg2))
        replace hRg2 := hide hRg2
        have hDl := sel_len F D
        clear hDT hP hK hK2 hRg hn hs' hT
        have KB := hide (((Kp.refl [] w2).alloc (.cells #[.int .i64 xn, .int .i64 xs] 40)).alloc (.cells #[.int .i64 k, .int .i64 o, .int .i64 z, .int .i64 bb, .int .i64 r, .int .i64 u, .int .i64 v] 74))
        have BB := hide ((Bk.new w2 40 [.int .i64 xn, .int .i64 xs]).alloc (.cells #[.int .i64 k, .int .i64 o, .int .i64 z, .int .i64 bb, .int .i64 r, .int .i64 u, .int .i64 v] 74))
        go_wp2_with fail
        refine (Wants.to (unhide hF') ((unhide KA).then (unhide KB)) (unhide hxL) (unhide hV) (unhide his)).mono ?_
        rintro e W3 ⟨rfl, K3⟩
        have B3 := (unhide BB).kept K3 (by simp)
        have KC := (unhide KB).then K3
        have R3 := hide ((unhide hRg2).kept KC (by simp) (by simp))
        have P3 := hide ((unhide hPk).kept KC (by simp))
        have KD := hide ((unhide KA).then KC)
        have d0 := B3.cell (i := 0) rfl
        have d1 := B3.cell (i := 1) rfl
        rw [hsz] at d0 d1
        clear B3 K3 KC BB KB KA hRg2 hPk
        cases is
        · have hsel' : Hid (sel F (D ++ [x]) = sel F D) := by unfold Hid; rw [unhide hsel]; simp
          clear hsel
          go_wp2
          go_roundg T'.length
          case measure => exact unhide hTl
          case rel => exact ⟨D ++ [x], T', unhide hDT', rfl, unhide R3, by rw [unhide hsel']; exact unhide P3, unhide KD⟩
        · have hsel' : Hid (sel F (D ++ [x]) = sel F D ++ [(xn, xs)]) := by unfold Hid; rw [unhide hsel]; simp
          clear hsel
          obtain ⟨ps, hps⟩ : ∃ ps, sel F D = ps := ⟨_, rfl⟩
          rw [hps] at P3 hsel' hDl
          clear hps
          go_wp2_with (first
            | (at_builtin; refine wpList_append_own _ rfl _ _ 59 rfl w.heap.size 40 i0 (.agg #[.int .i64 0, .int .i64 0]) 2 16 Try.underlying59 hi hz0 hz1 hz2 rfl (by decide) _ _ _ rfl ((unhide P3).alloc _) ⟨W3.heap.size, 0, none⟩ 1 1 [.int .i64 xn, .int .i64 xs] rfl rfl (place_new _ _ _) ?c2 ?c3 ?c4 ?c5 ?_)
            | go_in)
          case c2 => intro u hu; simp at hu; rcases hu with rfl | rfl <;> rfl
          case c3 => unfold maxLen; omega
          case c4 => omega
          case c5 => have := (unhide KD).size; simp; omega
          intro v' w4 hown' hgrow hnil
          have hP1 : Hid (Pl w.heap.size w4 v' (sel F (D ++ [x]))) := by
            unfold Hid
            rw [unhide hsel']
            exact Pl.more hown'
          have hrow := World.ownsRow.lt (unhide P3)
          have hK1 := hide (kp_grown ((unhide KD).alloc _) hgrow (fun k hk => (hrow k hk).1))
          have hR1 : Hid (Rg w4 b w.heap.size (L.map slKV) (T'.map slKV)) := by
            have q1 := (unhide R3).kept ((Kp.refl [] W3).alloc (.cells #[.int .i64 xn, .int .i64 xs] 40)) (by simp) (by simp)
            exact q1.grown hgrow (unhide P3)
          clear P3 R3 KD hsel' hown' hgrow hnil
          go_wp2
          go_roundg T'.length
          case measure => exact unhide hTl
          case rel => exact ⟨D ++ [x], T', unhide hDT', rfl, unhide hR1, unhide hP1, unhide hK1⟩
theorem ListP.since {w W : World} {ps : List (Int × Int)} {e : Ending} {w' : World} (K : Kp [] w W) (h : ListP W ps e w') : ListP w ps e w' := by
  obtain ⟨v, he, hP, hK⟩ := h
  exact ⟨v, he, hP.mono K.size, K.then hK⟩
theorem allw (w : World) (L : List Sl) : Wants 47 #[] w L (fun _ => true) := by
  intro W K x hx
  unfold holdV
  obtain ⟨n, s, u, v, k, o, z, b, r⟩ := x
  simp only
  clear hx K
  go_enter Try.func47, Try.ntmps47
  go_wp2
  go_ret
  exact ⟨rfl, (Kp.refl [] W).alloc _⟩
set_option maxHeartbeats 400000 in
theorem all_calls {w : World} {t : Nat} {m : Option Nat} {L : List Sl} (h : PT w t m L) :
    Calls Try.prog 23 #[.pointer (some ⟨t, 0, none⟩)] w (ListP w (sel (fun _ => true) L)) := by
  have eg : ∀ args w, (callFunc 47 args).run Try.prog w = .ok (.enter 47 args) w := enters_of Try.func47 (by kernel_rfl) rfl
  have hc := hide (those_calls h eg (allw w L))
  clear h eg
  go_enter Try.func23, Try.ntmps23
  go_wp2_with fail
  refine (unhide hc).mono ?_
  rintro e W ⟨v, rfl, hP, hK⟩
  replace hP := hide hP
  replace hK := hide hK
  go_wp2
  go_ret
  exact ⟨_, rfl, unhide hP, unhide hK⟩
def sonF (n s : Int) (x : Sl) : Bool := x.u == n && x.v == s
theorem kidw {w : World} {L : List Sl} {g : Nat} {n s : Int} (hB : Bk w g 40 [.int .i64 n, .int .i64 s]) : Wants 56 #[.pointer (some ⟨g, 0, none⟩)] w L (sonF n s) := by
  intro W K x hx
  have hB' := hB.kept K (by simp)
  have hlt := hB'.lt
  have c0 := hB'.cell (i := 0) rfl
  have c1 := hB'.cell (i := 1) rfl
  unfold holdV sonF
  obtain ⟨xn, xs, u, v, k, o, z, b, r⟩ := x
  simp only
  clear hx K hB hB'
  by_cases e1 : u = n
  · by_cases e2 : v = s
    · subst e1 e2
      go_enter Try.func56, Try.ntmps56
      go_wp2
      go_ret
      exact ⟨ret_bool (by simp), (Kp.refl [] W).alloc _⟩
    · have e2' : (v == s) = false := beq_eq_false_iff_ne.2 e2
      subst e1
      go_enter Try.func56, Try.ntmps56
      go_wp2
      go_ret
      exact ⟨ret_bool (by simp [e2]), (Kp.refl [] W).alloc _⟩
  · have e1' : (u == n) = false := beq_eq_false_iff_ne.2 e1
    go_enter Try.func56, Try.ntmps56
    go_wp2
    go_ret
    exact ⟨ret_bool (by simp [e1]), (Kp.refl [] W).alloc _⟩
theorem sel_none (n s : Int) (h : isN n s = true) (L : List Sl) : sel (kidF n s) L = [] := by
  unfold sel kidF
  unfold isN at h
  rw [h]
  simp
theorem sel_son (n s : Int) (h : isN n s = false) (L : List Sl) : sel (kidF n s) L = sel (sonF n s) L := by
  unfold sel kidF sonF
  unfold isN at h
  rw [h]
  simp
set_option maxHeartbeats 400000 in
theorem kids_calls {w : World} {t : Nat} {m : Option Nat} {L : List Sl} (h : PT w t m L) (n s : Int) :
    Calls Try.prog 51 #[.pointer (some ⟨t, 0, none⟩), .agg #[.int .i64 n, .int .i64 s]] w (ListP w (sel (kidF n s) L)) := by
  have eg : ∀ args w, (callFunc 56 args).run Try.prog w = .ok (.enter 56 args) w := enters_of Try.func56 (by kernel_rfl) rfl
  have K0 := hide ((Kp.refl [] w).alloc (.cells #[.int .i64 n, .int .i64 s] 40))
  have B0 := hide (Bk.new w 40 [.int .i64 n, .int .i64 s])
  have H := hide h
  obtain ⟨is, hIs⟩ : ∃ v, isN n s = v := ⟨_, rfl⟩
  have hI := hide hIs
  clear h hIs
  have eg' := hide eg
  clear eg
  go_enter Try.func51, Try.ntmps51
  go_wp2_with fail
  refine (isnone_to (unhide hI)).mono ?_
  rintro e W1 ⟨rfl, K1⟩
  have K2 := hide ((unhide K0).then K1)
  have B1 := hide ((unhide B0).kept K1 (by simp))
  clear K1 K0 B0
  cases is
  · go_wp2_with fail
    refine (those_calls ((unhide H).grew (unhide K2)) (unhide eg') (kidw (unhide B1))).mono ?_
    rintro e W ⟨v, rfl, hP, hK⟩
    replace hP := hide (hP.mono (unhide K2).size)
    replace hK := hide ((unhide K2).then hK)
    go_wp2
    go_ret
    exact ⟨_, rfl, by rw [sel_son n s (unhide hI)]; exact unhide hP, unhide hK⟩
  · go_wp2
    go_ret
    exact ⟨_, rfl, by rw [sel_none n s (unhide hI)]; exact Pl.nil _ _, unhide K2⟩
end Go.Proofs.Ythjhpcbhkcmghaa
