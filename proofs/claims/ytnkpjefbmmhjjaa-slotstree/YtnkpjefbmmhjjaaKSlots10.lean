/- The program's table: the children of each place, in a map. -/
import Derived.Test.YtnkpjefbmmhjjaaKSlots9
import Derived.Test.YtnkpjefbmmhjjaaKGrp
import Derived.Laws.IdiomRangeMap
namespace Go.Proofs.Ytnkpjefbmmhjjaa
open Go.RowKit
set_option linter.unusedVariables false
def ByP (w : World) (L : List Sl) (e : Ending) (w' : World) : Prop := ∃ cb C D, e = .returned (.map (some cb)) ∧ D.Perm L ∧ Mp w' cb C ∧ Grp w.heap.size w' cb C D ∧ Kp [] w w'
theorem Try.zeroPls (w : World) : (zeroValue 46).run Try.prog w = .ok (.slice none 0 0) w := by kernel_rfl
theorem Mp.noCells {w : World} {b : Nat} {G : List ((Int × Int) × Value)} (h : Mp w b G) : ∀ cur e, w.heap[b]? ≠ some (.cells cur e (0, 0)) := by
  obtain ⟨es, clock, hb, _⟩ := h
  intro cur e q
  rw [hb] at q
  cases q
theorem psrc_bk {w : World} {g : Nat} {n s : Int} (h : Bk w g 35 [.int .i64 n, .int .i64 s]) (c : Nat) : PSrc w (.slice (some ⟨g, 0, none⟩) 1 c) [(n, s)] :=
  .inr ⟨_, c, rfl, fun j u hu => by rw [Addr.add_mid, Nat.zero_add]; exact h.cell hu⟩
theorem Me.grown {w w' : World} {b : Nat} {G : List ((Int × Int) × Value)} {q : Int × Int} {st : Nat} {row : Option Nat} (h : Me w b G q st) (hg : w.grownBy w' row) (hn : some b ≠ row) : Me w' b G q st := by
  have hlt := h.mp.lt
  obtain ⟨es, clock, hb, E⟩ := h
  exact ⟨es, clock, (hg.block b hlt hn).trans hb, E⟩
/-- The entry at a place, met. -/
theorem Grp.meet {base : Nat} {w : World} {cb : Nat} {C : List ((Int × Int) × Value)} {D : List Sl} (hM : Mp w cb C) (h : Grp base w cb C D) {u v : Int} (hi : PIn (u, v)) (hz : isN u v = false) :
    ∃ (v0 : Value) (st : Nat) (C1 : List ((Int × Int) × Value)) (w' : World), (Instr.mapEntry 72 (.map (some cb)) (.agg #[.int .i64 u, .int .i64 v])).run Try.prog w = .ok (.tuple #[v0, .int .i64 (st : Int)]) w' ∧ Me w' cb C1 (u, v) st ∧ Kp [cb] w w' ∧ Grp base w' cb C1 D ∧ ((u, v), v0) ∈ C1 := by
  by_cases hq : ∃ v0, ((u, v), v0) ∈ C
  · obtain ⟨v0, hv⟩ := hq
    obtain ⟨st, w', hr, hE, hK⟩ := hM.entry_hit Try.underlying72 hv
    exact ⟨v0, st, C, w', hr, hE, hK, h.kept hK (fun i hi' => by simp at hi'; subst hi'; exact hM.noCells), hv⟩
  · have hn : ∀ p ∈ C, p.1 ≠ (u, v) := fun p hp e => hq ⟨p.2, by rw [← e]; exact hp⟩
    obtain ⟨st, w', hr, hE, hK⟩ := hM.entry_miss Try.underlying72 Try.zeroPls hi hn
    exact ⟨_, st, _, w', hr, hE, hK, (h.blank hz hn).kept hK (fun i hi' => by simp at hi'; subst hi'; exact hM.noCells), by simp⟩
theorem Rg.keptBy {w w' : World} {b r : Nat} {G T : List ((Int × Int) × Value)} {S : List Nat} (h : Rg w b r G T) (k : Kp S w w') (hb' : b ∉ S) (hr' : r ∉ S) : Rg w' b r G T := h.kept k hb' hr'
/-- What lies aside while a range goes on: the map that is filled is another block than the map that is gone over and the range itself. -/
theorem Rg.apart {w : World} {b r cb : Nat} {G T C : List ((Int × Int) × Value)} (h : Rg w b r G T) (hM : Mp w cb C) : cb ≠ r := by
  obtain ⟨es, clock, since, seen, c0, hb, E, hr, _⟩ := h
  obtain ⟨es', clock', hb', _⟩ := hM
  intro e
  rw [e, hr] at hb'
  cases hb'
set_option maxRecDepth 4000 in
set_option maxHeartbeats 4000000 in
theorem byparent_calls {w : World} {t : Nat} {m : Option Nat} {L : List Sl} (h : PT w t m L) (hpar : ∀ x ∈ L, PIn (x.u, x.v)) :
    Calls Try.prog 44 #[.pointer (some ⟨t, 0, none⟩)] w (ByP w L) := by
  have hs := h.small
  have hmm := @run_makeMap Try.prog
  have K0 := hide ((Kp.refl [] w).alloc (.map #[] 0))
  have M0 := hide (Mp.made w)
  have c0 : (w.alloc (.map #[] 0)).cell? ⟨t, 0, none⟩ = some (.map m) := (h.head.alloc _).cell rfl
  have hsz0 : (w.alloc (.map #[] 0)).heap.size = w.heap.size + 1 := by simp
  cases m with
  | none =>
    have e : L = [] := h.mo
    subst e
    clear h
    have hrg : ∀ w, (Instr.range 25 (.map none)).run Try.prog w = .ok (.pointer (some ⟨w.heap.size, 0, none⟩)) (w.alloc (.mapIter none 0 #[] 0)) := fun w => run_range_nilMap w _ _ _ Try.underlying25
    go_enter Try.func44, Try.ntmps44
    go_wp2_with fail
    generalize w.alloc (.map #[] 0) = w0 at *
    go_loopg [12] 0 (fun m v wx => wx = w0.alloc (.mapIter none 0 #[] 0))
    case atStart => rfl
    case round =>
      subst hrel
      have hnx : ∀ ty, (Instr.next (.pointer (some ⟨w.heap.size + 1, 0, none⟩)) false ty).run Try.prog (w0.alloc (.mapIter none 0 #[] 0)) = .ok (.tuple #[.bool false]) (w0.alloc (.mapIter none 0 #[] 0)) := fun ty => by
        have := run_next_nilMap (P := Try.prog) w0 ty 0 0 #[]
        rw [hsz0] at this
        exact this
      go_wp2
      go_ret
      exact ⟨w.heap.size, [], [], rfl, List.Perm.refl _, (unhide M0).kept ((Kp.refl [] w0).alloc _) (by simp), ⟨by simp, by simp, by simp⟩, (unhide K0).alloc _⟩
  | some b =>
    have hMb : Mp (w.alloc (.map #[] 0)) b (L.map slKV) := Mp.kept h.mo (unhide K0) (by simp)
    obtain ⟨w1, hrg, hR1, K1, hs1⟩ := hMb.range Try.underlying25
    have K1' := hide ((unhide K0).then K1)
    have M1 := hide ((unhide M0).kept K1 (by simp))
    rw [hsz0] at hR1 hrg
    have hR1' := hide hR1
    have hlt := hide h.mo.lt
    have hpar' := hide hpar
    clear h hpar K1 hR1 hMb M0 K0
    go_enter Try.func44, Try.ntmps44
    go_wp2_with fail
    go_loopg [12] L.length (fun mm v wx => ∃ D T C, (D ++ T).Perm L ∧ mm = T.length ∧ Rg wx b (w.heap.size + 1) (L.map slKV) (T.map slKV) ∧ Mp wx w.heap.size C ∧ Grp w.heap.size wx w.heap.size C D ∧ Kp [] w wx)
    case atStart => exact ⟨[], L, [], List.Perm.refl _, rfl, unhide hR1', unhide M1, ⟨by simp, by simp, by simp⟩, unhide K1'⟩
    case round =>
      obtain ⟨D, T, C, hDT, rfl, hRg, hM, hG, hK⟩ := hrel
      clear hrg c0 hs1 hR1' K1' M1 hmm hsz0
      have hlen := hDT.length_eq
      rw [List.length_append] at hlen
      have hap := hRg.apart hM
      rcases hRg.step with ⟨rfl, hnx⟩ | ⟨x, T', w2, hT, hnx, hRg2, hK2, hsz, hen⟩
      · rw [List.append_nil] at hDT
        replace hM := hide hM
        replace hG := hide hG
        replace hK := hide hK
        replace hDT := hide hDT
        clear hRg
        go_wp2
        go_ret
        exact ⟨w.heap.size, C, D, rfl, unhide hDT, unhide hM, unhide hG, unhide hK⟩
      · obtain ⟨k, o, z, bb, r, u, v, xn, xs, hV⟩ : ∃ k o z bb r u v xn xs : Int, x = ⟨xn, xs, u, v, k, o, z, bb, r⟩ := ⟨_, _, _, _, _, _, _, _, _, rfl⟩
        have hxL : x ∈ L := hDT.mem_iff.1 (by simp [hT.mem_iff])
        have hpi : Hid (PIn (u, v)) := by have := unhide hpar' x hxL; rw [hV] at this; exact this
        have hxu : Hid ((x.u, x.v) = (u, v)) := by unfold Hid; rw [hV]
        have hxn : Hid ((x.n, x.s) = (xn, xs)) := by unfold Hid; rw [hV]
        have hVV : holdV x = .agg #[.int .i64 k, .int .i64 o, .int .i64 z, .int .i64 bb, .int .i64 r, .int .i64 u, .int .i64 v] := by rw [hV]; rfl
        have hN1 : x.n = xn := by rw [hV]
        have hN2 : x.s = xs := by rw [hV]
        rw [hVV, hN1, hN2] at hnx hen
        have hDT' : Hid ((D ++ [x] ++ T').Perm L) := by
          unfold Hid
          rw [List.append_assoc]
          exact ((hT.symm.append_left D).trans hDT)
        have hTl : Hid (T'.length < T.length) := by unfold Hid; rw [hT.length_eq]; simp
        have hDl : D.length + 1 ≤ 65536 := by have := hT.length_eq; simp at this; omega
        have KA := hide (hK.trans hK2 (T := []) (by simp) (by intro i hi; simp at hi; subst hi; exact .inr (by omega)))
        have hM2 := hide (hM.kept hK2 (by simp))
        have hG2 := hide (hG.kept hK2 (by
          intro i hi cur e
          simp at hi
          subst hi
          obtain ⟨es, clock, since, seen, cc, _, _, hr, _⟩ := hRg
          rw [hr]
          simp))
        have hRg2' := hide hRg2
        have hszr := hide hK.size
        clear hDT hK hK2 hRg hT hN1 hN2 hVV hM hG hRg2 hxL hlen hV
        have KB := hide (((Kp.refl [] w2).alloc (.cells #[.int .i64 xn, .int .i64 xs] 35)).alloc (.cells #[.int .i64 k, .int .i64 o, .int .i64 z, .int .i64 bb, .int .i64 r, .int .i64 u, .int .i64 v] 60))
        have BB := hide ((Bk.new w2 35 [.int .i64 xn, .int .i64 xs]).alloc (.cells #[.int .i64 k, .int .i64 o, .int .i64 z, .int .i64 bb, .int .i64 r, .int .i64 u, .int .i64 v] 60))
        have BC := hide (Bk.next (p := w2.heap.size + 1) (w2.alloc (.cells #[.int .i64 xn, .int .i64 xs] 35)) 60 [.int .i64 k, .int .i64 o, .int .i64 z, .int .i64 bb, .int .i64 r, .int .i64 u, .int .i64 v] (by simp))
        obtain ⟨is, hIs⟩ : ∃ is, isN u v = is := ⟨_, rfl⟩
        replace hIs := hide hIs
        go_wp2_with fail
        refine (isnone_to (unhide hIs)).mono ?_
        rintro e W3 ⟨rfl, K3⟩
        have B3 := (unhide BB).kept K3 (by simp)
        have B4 := (unhide BC).kept K3 (by simp)
        have KC := (unhide KB).then K3
        have R3 := hide ((unhide hRg2').kept KC (by simp) (by simp))
        have M3 := hide ((unhide hM2).kept KC (by simp))
        have G3 := hide ((unhide hG2).kept KC (by simp))
        have KD := hide ((unhide KA).then KC)
        have d0 := B3.cell (i := 0) rfl
        have d1 := B3.cell (i := 1) rfl
        have d5 := B4.cell (i := 5) rfl
        have d6 := B4.cell (i := 6) rfl
        rw [hsz] at d0 d1 d5 d6
        clear B3 B4 K3 KC BB BC KB KA hRg2' hM2 hG2
        cases is
        · have KE := (Kp.refl [] W3).alloc (.cells #[.int .i64 xn, .int .i64 xs] 35)
          obtain ⟨v0, st, C1, W4, hme, hE4, hK4, hG4, hv0⟩ := Grp.meet ((unhide M3).kept KE (by simp)) ((unhide G3).kept KE (by simp)) (unhide hpi) (unhide hIs)
          have hap3 := hide ((unhide R3).apart (unhide M3))
          have hbl := hide (unhide hlt)
          have R4 := hide (((unhide R3).kept KE (by simp) (by simp)).kept hK4 (by have := unhide hlt; simp; omega) (by have := unhide hap3; simp))
          have K4 := hide (((unhide KD).then KE).trans hK4 (T := []) (by simp) (by simp))
          have S4 := hide (psrc_bk ((Bk.new W3 35 [.int .i64 xn, .int .i64 xs]).kept hK4 (by have := (unhide M3).lt; simp; omega)) 1)
          have P4 := hide (hG4.own _ hv0).2
          have P4l := sel_len (sonF u v) D
          have nd4 := hide hE4.mp.nd
          replace hE4 := hide hE4
          replace hG4 := hide hG4
          replace hv0 := hide hv0
          clear hK4 KE M3 G3 R3 KD
          go_wp2_with (first
            | (at_builtin; refine plist_app rfl _ _ rfl w.heap.size v0 (.slice (some ⟨W3.heap.size, 0, none⟩) 1 1) (sel (sonF u v) D) [(xn, xs)] rfl rfl (unhide P4) (unhide S4) ?c1 ?c2 ?_)
            | go_in)
          case c1 => simp; omega
          case c2 => exact (unhide K4).size
          intro v' W5 hP5 hg5 hat5
          have hE5 := (unhide hE4).grown hg5 (fun e => by
            obtain ⟨cur, hc⟩ := (unhide P4).cells e.symm
            exact (unhide hE4).mp.noCells _ _ hc)
          obtain ⟨W6, hst0, hM6, hK6⟩ := hE5.store 72 v'
          have hst : (Instr.entryStore 72 (.map (some w.heap.size)) (.int .i64 (st : Int)) v').run Try.prog W5 = .ok () W6 := hst0
          have hG6 := hide ((unhide hG4).more (unhide nd4) (unhide hv0) (x := x) (unhide hxu) (by rw [unhide hxn]; exact hP5) hg5 hat5 hK6 hE5.mp.noCells)
          have R5 := (unhide R4).grown hg5 (unhide P4) (fun k _ => rfl)
          have R6 := hide (R5.kept hK6 (by have := unhide hlt; simp; omega) (by have := R5.apart hE5.mp; simp))
          have K5 := kp_grown (unhide K4) hg5 (fun g hg => (World.ownsRow.lt (unhide P4) g hg).1)
          have K6 := hide (K5.trans hK6 (T := []) (by simp) (by simp))
          replace hM6 := hide hM6
          clear hst0 hK6 hE5 R5 K5 hP5 hg5 hat5 hme
          go_wp2
          go_roundg T'.length
          case measure => exact unhide hTl
          case rel => exact ⟨D ++ [x], T', _, unhide hDT', rfl, unhide R6, unhide hM6, unhide hG6, unhide K6⟩
        · have hG4 := hide ((unhide G3).skip (x := x) (by have := unhide hxu; simp at this; rw [this.1, this.2]; exact unhide hIs))
          go_wp2
          go_roundg T'.length
          case measure => exact unhide hTl
          case rel => exact ⟨D ++ [x], T', C, unhide hDT', rfl, unhide R3, unhide M3, unhide hG4, unhide KD⟩
end Go.Proofs.Ytnkpjefbmmhjjaa
