/- The program's maps: Drop, Empty (maps.DeleteFunc). -/
import Derived.Test.YtlallciikcmjmaaKRgPg
import Derived.Shelf.Abstract
namespace Go.Proofs.Ytlallciikcmjmaa
open Go.RowKit
open Go.ChangeMaps (setBlock)
set_option linter.unusedVariables false
theorem filter_erase {α : Type} {f : α → Bool} {l : List α} {j : Nat} {x : α} (hj : l[j]? = some x) (hf : f x = false) : (l.eraseIdx j).filter f = l.filter f := by
  obtain ⟨hlt, hje⟩ := List.getElem?_eq_some_iff.1 hj
  have e : l = l.take j ++ x :: l.drop (j + 1) := by rw [← hje, List.getElem_cons_drop, List.take_append_drop]
  rw [List.eraseIdx_eq_take_drop_succ]
  conv => rhs; rw [e]
  rw [List.filter_append, List.filter_append, List.filter_cons_of_neg (by simp [hf])]
/-- 'delete(m, k)' in the midst of a range, at a key that has come. -/
theorem Gm.Rg.del {T0 : TypeId} {Q : Type} [DecidableEq Q] {K : Gm.Key T0 Q} {w : World} {b r : Nat} {G T : List (Q × Value)} (h : Gm.Rg K w b r G T) {t e : TypeId} (ht : Try.prog.underlying t = some (.map T0 e)) {q : Q} {v0 : Value} (hq : (q, v0) ∈ G) (hT : ∀ p ∈ T, p.1 ≠ q) (ty : TypeId) :
    ∃ w', (Builtin.delete_ #[t, T0] ty #[.map (some b), K.val q]).run Try.prog w = .ok (.tuple #[]) w' ∧ Gm.Rg K w' b r (Gm.without q G) T ∧ Kp [b] w w' := by
  obtain ⟨es, clock, since, seen, c0, hb, E, hr, hold, hsc, hsk, hTp⟩ := h
  have hne : r ≠ b := fun e => by rw [e, hb] at hr; cases hr
  obtain ⟨l, hl⟩ := K.key (E.rng _ hq)
  rcases K.law.find w hl es.toList E.keys with ⟨_, h2⟩ | ⟨j, e0, h1, h2, h3⟩
  · obtain ⟨e0, he, hk, _⟩ := E.to_entry hq
    exact absurd hk (h2 e0 he)
  · have hsub := Gm.without_sub q G
    have el : (es.eraseIdxIfInBounds j).toList = es.toList.eraseIdx j := by simp
    have hseen : (!seen.contains e0.born) = false := by
      cases hc : seen.contains e0.born with
      | true => rfl
      | false =>
        have hm : e0 ∈ (leftOf es seen).toList := by
          unfold leftOf
          rw [Array.toList_filter, List.mem_filter]
          exact ⟨List.mem_of_getElem? h2, by rw [hc]; rfl⟩
        have hin := hTp.mem_iff.1 (List.mem_map.2 ⟨e0, hm, rfl⟩)
        obtain ⟨p, hp, hpe⟩ := List.mem_map.1 hin
        have e1 : K.val p.1 = e0.key := congrArg Prod.fst hpe
        exact absurd (K.inj (e1.trans h3)) (hT p hp)
    have hleft : (leftOf (es.eraseIdxIfInBounds j) seen).toList = (leftOf es seen).toList := by
      unfold leftOf
      rw [Array.toList_filter, Array.toList_filter, el]
      exact filter_erase h2 hseen
    have hset := MapKept.heap_set (o' := .map (es.eraseIdxIfInBounds j) clock) hb
    refine ⟨setBlock w b (.map (es.eraseIdxIfInBounds j) clock), ?_, ⟨_, clock, since, seen, c0, hset.1, ⟨?_, ?_, ?_, ?_, ?_⟩, (hset.2 r hne).trans hr, ?_, hsc, hsk, ?_⟩, Gm.kp_set hb⟩
    · simp [Builtin.delete_, run_underlying ht, MapKept.run_getObj_map hb, K.law.check w _ hl, h1, MapKept.run_setObj_map _ hb, Result.andThen, setBlock]
    · rw [el, ChangeMaps.map_eraseIdx]
      exact Gm.erase_is2 E.kv E.nd (v0 := e0.val) (by rw [List.getElem?_map, h2, ← h3]; rfl)
    · exact (hsub.map _).nodup E.nd
    · exact fun p hp => E.rng p (hsub.subset hp)
    · intro x hx
      rw [el] at hx
      exact E.old x (List.mem_of_mem_eraseIdx hx)
    · rw [el, ChangeMaps.map_eraseIdx]
      exact (List.eraseIdx_sublist _ _).nodup E.born
    · intro x hx
      rw [el] at hx
      exact hold x (List.mem_of_mem_eraseIdx hx)
    · rw [hleft]
      exact hTp
/-- What the closure says of each page: gone, or not; in whatever world in which the map alone has turned. -/
def WantsPg (g : Nat) (cb : Array Value) (w : World) (b : Nat) (L : List Pg) (F : Pg → Bool) : Prop :=
  ∀ W, Kp [b] w W → ∀ x ∈ L, Calls Try.prog g (#[.agg #[.int .i64 x.s, .int .i64 x.p], .agg #[.int .i64 x.f, .int .i64 x.r]] ++ cb) W fun e w' => e = .returned (.bool (F x)) ∧ Kp [] W w'
theorem WantsPg.to {g : Nat} {cb : Array Value} {w : World} {b : Nat} {L : List Pg} {F : Pg → Bool} (h : WantsPg g cb w b L F) {W : World} (K : Kp [b] w W) {s p f r : Int} {is : Bool} (hx : (⟨s, p, f, r⟩ : Pg) ∈ L) (hf : F ⟨s, p, f, r⟩ = is) :
    Calls Try.prog g (#[.agg #[.int .i64 s, .int .i64 p], .agg #[.int .i64 f, .int .i64 r]] ++ cb) W fun e w' => e = .returned (.bool is) ∧ Kp [] W w' := by
  rw [← hf]
  exact h W K _ hx
theorem nd_keys {w : World} {b r : Nat} {M T : List Pg} (h : Gm.Rg pgK w b r (M.map kvPg) (T.map kvPg)) : (M.map fun x => (x.s, x.p)).Nodup := by
  have := h.mp.nd
  rwa [List.map_map] at this
/-- One is taken out of what was there. -/
theorem del_perm {M R : List Pg} {x : Pg} (hn : (M.map fun y => (y.s, y.p)).Nodup) (hp : M.Perm (x :: R)) : (pgDel M x.s x.p).Perm R ∧ ∀ y ∈ R, (y.s, y.p) ≠ (x.s, x.p) := by
  have hn2 := ((hp.map fun y : Pg => (y.s, y.p)).nodup_iff).1 hn
  rw [List.map_cons, List.nodup_cons] at hn2
  have hR : ∀ y ∈ R, (y.s, y.p) ≠ (x.s, x.p) := fun y hy e => hn2.1 (List.mem_map.2 ⟨y, hy, e⟩)
  refine ⟨?_, hR⟩
  have h1 : (pgDel M x.s x.p).Perm (pgDel (x :: R) x.s x.p) := hp.filter _
  refine h1.trans ?_
  unfold pgDel
  rw [List.filter_cons_of_neg (by simp), List.filter_eq_self.2]
  intro y hy
  have := hR y hy
  cases hb : (y.s == x.s && y.p == x.p) with
  | false => rfl
  | true =>
    rw [Bool.and_eq_true, beq_iff_eq, beq_iff_eq] at hb
    exact absurd (Prod.ext hb.1 hb.2) this
theorem keep_yes {F : Pg → Bool} {D T T' : List Pg} {x : Pg} (hT : T.Perm (x :: T')) (hf : F x = false) : ((D.filter fun y => !F y) ++ T).Perm (((D ++ [x]).filter fun y => !F y) ++ T') := by
  rw [List.filter_append, List.filter_cons_of_pos (by simp [hf]), List.filter_nil, List.append_assoc]
  exact hT.append_left _
theorem keep_no {F : Pg → Bool} {D T T' : List Pg} {x : Pg} (hT : T.Perm (x :: T')) (hf : F x = true) : ((D.filter fun y => !F y) ++ T).Perm (x :: (((D ++ [x]).filter fun y => !F y) ++ T')) := by
  rw [List.filter_append, List.filter_cons_of_neg (by simp [hf]), List.filter_nil, List.append_nil]
  exact (hT.append_left _).trans List.perm_middle
set_option maxRecDepth 4000 in
set_option maxHeartbeats 2000000 in
theorem delfunc_calls {w : World} {b : Nat} {L : List Pg} (h : SpO w (some b) L) {g : Nat} {cb : Array Value} (eg : ∀ args w, (callFunc g args).run Try.prog w = .ok (.enter g args) w) {F : Pg → Bool} (hF : WantsPg g cb w b L F) (hok : ∀ x ∈ L, pageOk x.s x.p = true) :
    Calls Try.prog 44 #[.map (some b), .func (.func g) #[] cb] w fun e w' => e = .returned (.tuple #[]) ∧ SpO w' (some b) (L.filter fun y => !F y) ∧ Kp [b] w w' := by
  obtain ⟨w1, hrg, hR1, K1, hs1⟩ := Gm.Mp.range h Try.underlying24
  have K1' := hide (K1.mono (S' := [b]) (by simp))
  have hR1' := hide hR1
  have hF' := hide hF
  have hlt := hide h.lt
  have hok' := hide hok
  clear h hF K1 hR1 hok
  go_enter Try.func44, Try.ntmps44
  go_wp2_with fail
  go_loopg [8] L.length (fun mm _ wx => ∃ D T : List Pg, (D ++ T).Perm L ∧ mm = T.length ∧ Gm.Rg pgK wx b w.heap.size (((D.filter fun y => !F y) ++ T).map kvPg) (T.map kvPg) ∧ Kp [b] w wx)
  case atStart => exact ⟨[], L, List.Perm.refl _, rfl, unhide hR1', unhide K1'⟩
  case round =>
    obtain ⟨D, T, hDT, rfl, hRg, hK⟩ := hrel
    clear hrg hs1 hR1' K1'
    rcases rg_step hRg with ⟨rfl, hnx⟩ | ⟨x, T', w2, hT, hxM, hnx, hRg2, hK2, hsz, hen⟩
    · have hend : Hid (SpO wr (some b) (L.filter fun y => !F y)) := by
        refine SpO.perm hRg.mp ((List.Perm.map kvPg ?_))
        rw [List.append_nil] at hDT ⊢
        exact hDT.filter _
      replace hK := hide hK
      clear hDT hRg
      go_wp2
      go_end0
      exact ⟨rfl, unhide hend, unhide hK⟩
    · have hxL : Hid (x ∈ L) := hDT.mem_iff.1 (by simp [hT.mem_iff])
      have hDT' : Hid ((D ++ [x] ++ T').Perm L) := by
        unfold Hid
        rw [List.append_assoc]
        exact ((hT.symm.append_left D).trans hDT)
      have hTl : Hid (T'.length < T.length) := by unfold Hid; rw [hT.length_eq]; simp
      have hnd := hide (nd_keys hRg)
      have KA := hide (hK.trans hK2 (T := [b]) (by simp) (by simp))
      have hTh := hide hT
      have hRg2' := hide hRg2
      have hxM' := hide hxM
      obtain ⟨is, his⟩ : ∃ v, F x = v := ⟨_, rfl⟩
      have hi : Hid (PgIn (x.s, x.p)) := pageOk_in (unhide hok' x (unhide hxL))
      obtain ⟨s, p, f, r⟩ := x
      simp only at hnx hen hi
      replace his := hide his
      clear hRg hT hxM hRg2 hDT hK
      have hb3 := Bk.new w2 30 [.int .i64 s, .int .i64 p]
      rw [hsz] at hb3
      have hb3' := hb3.alloc (.cells #[.int .i64 f, .int .i64 r] 34)
      have hb4 := Gr.bk_next (w2.alloc (.cells #[.int .i64 s, .int .i64 p] 30)) 34 [.int .i64 f, .int .i64 r] (p := wr.heap.size + 1) (by simp [hsz])
      have KB := hide (((Kp.refl [] w2).alloc (.cells #[.int .i64 s, .int .i64 p] 30)).alloc (.cells #[.int .i64 f, .int .i64 r] 34))
      have c0 := hb3'.cell (i := 0) rfl
      have c1 := hb3'.cell (i := 1) rfl
      have d0 := hb4.cell (i := 0) rfl
      have d1 := hb4.cell (i := 1) rfl
      replace hb3' := hide hb3'
      clear hb3 hb4
      go_wp2_with fail
      refine (WantsPg.to (unhide hF') ((unhide KA).then ((unhide KB).mono (by simp))) (unhide hxL) (unhide his)).mono ?_
      rintro e W3 ⟨rfl, K3⟩
      have K03 := (unhide KB).then K3
      have hRg3 := hide ((unhide hRg2').kept K03 (by simp) (by simp))
      have KC := hide ((unhide KA).then (K03.mono (S' := [b]) (by simp)))
      have hb5 := (unhide hb3').kept K3 (by simp)
      have e0 := hb5.cell (i := 0) rfl
      have e1 := hb5.cell (i := 1) rfl
      clear c0 c1 d0 d1 K03 K3 hnx hen hb5
      cases is
      · clear e0 e1
        go_wp2_with fail
        go_roundg T'.length
        case measure => exact unhide hTl
        case rel => exact ⟨D ++ [⟨s, p, f, r⟩], T', unhide hDT', rfl, (unhide hRg3).permG ((keep_yes (unhide hTh) (unhide his)).map _), unhide KC⟩
      · obtain ⟨hdp, hne⟩ := del_perm (unhide hnd) (keep_no (F := F) (D := D) (unhide hTh) (unhide his))
        obtain ⟨W4, hdl, hRg4, K4⟩ := (unhide hRg3).del Try.underlying24 (q := (s, p)) (v0 := .agg #[.int .i64 f, .int .i64 r]) (List.mem_map.2 ⟨_, unhide hxM', rfl⟩) (fun q hq => by
          obtain ⟨z, hz, rfl⟩ := List.mem_map.1 hq
          exact hne z (List.mem_append_right _ hz)) 0
        have hdel : ∀ ty, (Builtin.delete_ #[24, 30] ty #[.map (some b), .agg #[.int .i64 s, .int .i64 p]]).run Try.prog W3 = .ok (.tuple #[]) W4 := fun ty => hdl
        rw [pgDel_kv] at hRg4
        have hRg5 := hide (hRg4.permG (hdp.map _))
        have KD := hide ((unhide KC).trans K4 (T := [b]) (by simp) (by simp))
        clear hdl hRg4 K4 hdp hne hRg3
        go_wp2_with fail
        go_roundg T'.length
        case measure => exact unhide hTl
        case rel => exact ⟨D ++ [⟨s, p, f, r⟩], T', unhide hDT', rfl, unhide hRg5, unhide KD⟩
set_option maxHeartbeats 400000 in
theorem delfunc_nil (fv : Value) (w : World) :
    Calls Try.prog 44 #[.map none, fv] w fun e w' => e = .returned (.tuple #[]) ∧ Kp [] w w' := by
  have hrg : ∀ w, (Instr.range 24 (.map none)).run Try.prog w = .ok (.pointer (some ⟨w.heap.size, 0, none⟩)) (w.alloc (.mapIter none 0 #[] 0)) := fun w => run_range_nilMap w _ _ _ Try.underlying24
  go_enter Try.func44, Try.ntmps44
  go_wp2_with fail
  go_loopg [8] 0 (fun mm _ wx => wx = w.alloc (.mapIter none 0 #[] 0))
  case atStart => rfl
  case round =>
    obtain rfl := hrel
    have hnx : ∀ ty, (Instr.next (.pointer (some ⟨w.heap.size, 0, none⟩)) false ty).run Try.prog (w.alloc (.mapIter none 0 #[] 0)) = .ok (.tuple #[.bool false]) (w.alloc (.mapIter none 0 #[] 0)) := fun ty => run_next_nilMap w ty 0 0 #[]
    go_wp2
    go_end0
    exact ⟨rfl, (Kp.refl [] w).alloc _⟩
theorem SpO.len {w : World} {m : Option Nat} {L : List Pg} (h : SpO w m L) (ty : TypeId) : (Builtin.len_ #[24] ty #[.map m]).run Try.prog w = .ok (.int .i64 (L.length : Int)) w := by
  cases m with
  | none =>
    have e : L = [] := h
    subst e
    simp [Builtin.len_, run_underlying Try.underlying24, goInt, Result.andThen]
  | some b =>
    obtain ⟨es, clock, hb, E⟩ := h
    have hl := E.kv.length_eq
    simp only [List.length_map] at hl
    have hl' : es.size = L.length := by simpa using hl
    simp [Builtin.len_, run_underlying Try.underlying24, MapKept.run_getObj_map hb, goInt, Result.andThen, hl']
theorem delfunc_any {w : World} {m : Option Nat} {L : List Pg} (h : SpO w m L) {g : Nat} {cb : Array Value} (eg : ∀ args w, (callFunc g args).run Try.prog w = .ok (.enter g args) w) {F : Pg → Bool} (hF : ∀ b, m = some b → WantsPg g cb w b L F) (hok : ∀ x ∈ L, pageOk x.s x.p = true) :
    Calls Try.prog 44 #[.map m, .func (.func g) #[] cb] w fun e w' => e = .returned (.tuple #[]) ∧ SpO w' m (L.filter fun y => !F y) ∧ Kp m.toList w w' := by
  cases m with
  | none =>
    have e : L = [] := h
    subst e
    refine (delfunc_nil _ w).mono ?_
    rintro e w' ⟨rfl, K⟩
    exact ⟨rfl, rfl, K⟩
  | some b => exact delfunc_calls h eg (hF b rfl) hok
set_option maxHeartbeats 1000000 in
theorem sthose_calls {w : World} {y : Nat} {m : Option Nat} {L : List Pg} (h : SP w y m L) {g : Nat} {cb : Array Value} (eg : ∀ args w, (callFunc g args).run Try.prog w = .ok (.enter g args) w) {F : Pg → Bool} (hF : ∀ b, m = some b → WantsPg g cb w b L F) :
    Calls Try.prog 34 #[.pointer (some ⟨y, 0, none⟩), .func (.func g) #[] cb] w (SPP w y m (L.filter fun y => !F y) (.int .i64 ((L.length : Int) - ((L.filter fun y => !F y).length : Int)))) := by
  have c0 := h.head.cell (i := 0) rfl
  have hl1 := h.mo.len
  have hs := h.small
  have hf := List.length_filter_le (fun y : Pg => !F y) L
  have H := hide h
  have hcon := hide (delfunc_any h.mo eg hF h.ok)
  obtain ⟨M, hM⟩ : ∃ M, (L.filter fun y => !F y) = M := ⟨_, rfl⟩
  rw [hM] at hf ⊢
  replace hM := hide hM
  have hny : Hid (y ∉ m.toList) := fun q => h.ne y (Option.mem_toList.1 q) rfl
  clear h eg hF
  go_enter Try.func34, Try.ntmps34
  go_wp2_with fail
  refine (unhide hcon).mono ?_
  rintro e W1 ⟨rfl, hO, K⟩
  have B1 := (unhide H).head.kept K (unhide hny)
  have c1 := B1.cell (i := 0) rfl
  have hl2 := hO.len
  have hfin : Hid (SP W1 y m M ∧ Kp (y :: m.toList) w W1) := by
    refine ⟨?_, K.mono (fun i q => List.mem_cons_of_mem _ q)⟩
    rw [← unhide hM]
    exact (unhide H).filt _ B1 hO
  rw [unhide hM] at hl2
  clear hcon hO K B1 c0 hl1 hM
  go_wp2
  go_ret
  exact ⟨rfl, m, (unhide hfin).1, (unhide hfin).2, fun b e => .inl e⟩
set_option maxHeartbeats 400000 in
theorem dropw {w : World} {b g : Nat} {L : List Pg} {fr : Int} (hB : Bk w g 3 [.int .i64 fr]) (hg : g ≠ b) : WantsPg 35 #[.pointer (some ⟨g, 0, none⟩)] w b L (fun x => x.f == fr) := by
  intro W K x hx
  have c0 := (((hB.kept K (by simpa using hg)).alloc (.cells #[.int .i64 x.s, .int .i64 x.p] 30)).alloc (.cells #[.int .i64 x.f, .int .i64 x.r] 34)).cell (i := 0) rfl
  have K1 := hide (((Kp.refl [] W).alloc (.cells #[.int .i64 x.s, .int .i64 x.p] 30)).alloc (.cells #[.int .i64 x.f, .int .i64 x.r] 34))
  obtain ⟨xs, xp, xf, xr⟩ := x
  simp only at K1 c0 ⊢
  clear hx K hB
  show Calls Try.prog 35 #[.agg #[.int .i64 xs, .int .i64 xp], .agg #[.int .i64 xf, .int .i64 xr], .pointer (some ⟨g, 0, none⟩)] W _
  go_enter Try.func35, Try.ntmps35
  go_wp2
  go_ret
  exact ⟨rfl, unhide K1⟩
set_option maxHeartbeats 400000 in
theorem emptyw {w : World} {b g : Nat} {L : List Pg} {sp : Int} (hB : Bk w g 3 [.int .i64 sp]) (hg : g ≠ b) : WantsPg 36 #[.pointer (some ⟨g, 0, none⟩)] w b L (fun x => x.s == sp) := by
  intro W K x hx
  have c0 := (((hB.kept K (by simpa using hg)).alloc (.cells #[.int .i64 x.s, .int .i64 x.p] 30)).alloc (.cells #[.int .i64 x.f, .int .i64 x.r] 34)).cell (i := 0) rfl
  have K1 := hide (((Kp.refl [] W).alloc (.cells #[.int .i64 x.s, .int .i64 x.p] 30)).alloc (.cells #[.int .i64 x.f, .int .i64 x.r] 34))
  obtain ⟨xs, xp, xf, xr⟩ := x
  simp only at K1 c0 ⊢
  clear hx K hB
  show Calls Try.prog 36 #[.agg #[.int .i64 xs, .int .i64 xp], .agg #[.int .i64 xf, .int .i64 xr], .pointer (some ⟨g, 0, none⟩)] W _
  go_enter Try.func36, Try.ntmps36
  go_wp2
  go_ret
  exact ⟨rfl, unhide K1⟩
theorem SPP.pre {w w1 : World} {y : Nat} {m : Option Nat} {L : List Pg} {v : Value} {e : Ending} {w' : World} (K : Kp [] w w1) (h : SPP w1 y m L v e w') : SPP w y m L v e w' := by
  obtain ⟨rfl, m', hT, hK, hm⟩ := h
  exact ⟨rfl, m', hT, K.trans hK (by simp) (fun i q => .inl q), fun b hb => (hm b hb).imp id (fun q => Nat.le_trans K.size q)⟩
set_option maxHeartbeats 400000 in
theorem sdrop_calls {w : World} {y : Nat} {m : Option Nat} {L : List Pg} (h : SP w y m L) (fr : Int) :
    Calls Try.prog 15 #[.pointer (some ⟨y, 0, none⟩), .int .i64 fr] w (SPP w y m (L.filter fun x => x.f != fr) (.int .i64 ((L.length : Int) - ((L.filter fun x => x.f != fr).length : Int)))) := by
  have eg : ∀ args w, (callFunc 35 args).run Try.prog w = .ok (.enter 35 args) w := enters_of Try.func35 (by kernel_rfl) rfl
  have K1 := (Kp.refl [] w).alloc (.cells #[.int .i64 fr] 3)
  have hcon := hide (sthose_calls (h.grew K1) (g := 35) (cb := #[.pointer (some ⟨w.heap.size, 0, none⟩)]) eg (F := fun x => x.f == fr) (fun b hb => dropw (Bk.new w 3 [.int .i64 fr]) (by have := h.lt b hb; omega)))
  replace K1 := hide K1
  clear h eg
  go_enter Try.func15, Try.ntmps15
  go_wp2_with fail
  refine (unhide hcon).mono ?_
  rintro e W1 hP
  have hP2 := hide (hP.pre (unhide K1))
  obtain ⟨rfl, _⟩ := hP
  clear hcon K1
  go_wp2
  go_ret
  exact unhide hP2
set_option maxHeartbeats 400000 in
theorem sempty_calls {w : World} {y : Nat} {m : Option Nat} {L : List Pg} (h : SP w y m L) (sp : Int) :
    Calls Try.prog 17 #[.pointer (some ⟨y, 0, none⟩), .int .i64 sp] w (SPP w y m (L.filter fun x => x.s != sp) (.int .i64 ((L.length : Int) - ((L.filter fun x => x.s != sp).length : Int)))) := by
  have eg : ∀ args w, (callFunc 36 args).run Try.prog w = .ok (.enter 36 args) w := enters_of Try.func36 (by kernel_rfl) rfl
  have K1 := (Kp.refl [] w).alloc (.cells #[.int .i64 sp] 3)
  have hcon := hide (sthose_calls (h.grew K1) (g := 36) (cb := #[.pointer (some ⟨w.heap.size, 0, none⟩)]) eg (F := fun x => x.s == sp) (fun b hb => emptyw (Bk.new w 3 [.int .i64 sp]) (by have := h.lt b hb; omega)))
  replace K1 := hide K1
  clear h eg
  go_enter Try.func17, Try.ntmps17
  go_wp2_with fail
  refine (unhide hcon).mono ?_
  rintro e W1 hP
  have hP2 := hide (hP.pre (unhide K1))
  obtain ⟨rfl, _⟩ := hP
  clear hcon K1
  go_wp2
  go_ret
  exact unhide hP2
end Go.Proofs.Ytlallciikcmjmaa
