/- The program's queue (runq.Queue): a row a priority; where a thread stands (find). -/
import Derived.Test.YtennmoaaieedpaaKQue2
import Derived.Test.YtennmoaaieedpaaKShelf
namespace Go.Proofs.Ytennmoaaieedpaa
open Go.RowKit
set_option linter.unusedVariables false
/-- At block q eight rows of integers, each in memory of its own newer than base. -/
structure QR (base : Nat) (w : World) (q : Nat) (vs : List Value) (F : Nat → List Int) : Prop where
  head : Bk w q 27 vs
  len : vs.length = 8
  own : ∀ (i : Nat) (v : Value), vs[i]? = some v → Gr.Rw intE base w v (F i)
  apart : ∀ (i j : Nat) (v v' : Value) (g : Nat), vs[i]? = some v → vs[j]? = some v' → v.ownBlock = some g → v'.ownBlock = some g → i = j
  new : base ≤ q
  small : ∀ i, i < 8 → (F i).length ≤ 65536
theorem QR.grew {base : Nat} {w w' : World} {q : Nat} {vs : List Value} {F : Nat → List Int} (h : QR base w q vs F) (k : Kp [] w w') : QR base w' q vs F :=
  ⟨h.head.kept k (by simp), h.len, fun i v e => (h.own i v e).grew k, h.apart, h.new, h.small⟩
theorem QR.at {base : Nat} {w : World} {q : Nat} {vs : List Value} {F : Nat → List Int} (h : QR base w q vs F) {i : Nat} (hi : i < 8) : ∃ v, vs[i]? = some v ∧ Gr.Rw intE base w v (F i) ∧ w.cell? ⟨q, i, none⟩ = some v := by
  have hl : i < vs.length := by rw [h.len]; exact hi
  have e := List.getElem?_eq_getElem hl
  exact ⟨_, e, h.own i _ e, h.head.cell e⟩
theorem QR.start (base : Nat) (w : World) (hb : base ≤ w.heap.size) : QR base (w.alloc (.cells #[.slice none 0 0, .slice none 0 0, .slice none 0 0, .slice none 0 0, .slice none 0 0, .slice none 0 0, .slice none 0 0, .slice none 0 0] 27)) w.heap.size [.slice none 0 0, .slice none 0 0, .slice none 0 0, .slice none 0 0, .slice none 0 0, .slice none 0 0, .slice none 0 0, .slice none 0 0] (fun _ => []) := by
  have hall : ∀ (i : Nat) (v : Value), [Value.slice none 0 0, .slice none 0 0, .slice none 0 0, .slice none 0 0, .slice none 0 0, .slice none 0 0, .slice none 0 0, .slice none 0 0][i]? = some v → v = .slice none 0 0 := by
    intro i v e
    have := List.mem_of_getElem? e
    simpa using this
  refine ⟨Bk.new w _ [.slice none 0 0, .slice none 0 0, .slice none 0 0, .slice none 0 0, .slice none 0 0, .slice none 0 0, .slice none 0 0, .slice none 0 0], rfl, fun i v e => ?_, fun i j v v' g e e' hg => ?_, hb, fun i _ => by simp⟩
  · rw [hall i v e]; exact Gr.Rw.nil _ _
  · rw [hall i v e] at hg; cases hg
theorem index_to {base : Nat} {w : World} {v : Value} {M : List Int} (h : Gr.Rw intE base w v M) (hs : M.length ≤ 65536) {t r : Int} (hr : Lib.idxOf M t = r) :
    Calls Try.prog 28 #[v, .int .i64 t] w fun e w' => e = .returned (.int .i64 r) ∧ w' = w := by
  subst hr
  rcases h.addr with ⟨rfl, rfl⟩ | ⟨g, c, rfl, _⟩
  · exact AnyG.slices_Index_int_empty Try.shIdx none 0 t w
  · have := AnyG.slices_Index_int Try.shIdx g 0 M.length c M t w (Nat.le_refl _) (by omega) (fun j hj => by
      have := h.cell (i := j) (j := 0) (x := M[j]) (List.getElem?_eq_getElem hj) rfl
      rw [Nat.mul_one, Nat.add_zero] at this
      rw [Nat.zero_add, this]
      simp [List.getD_eq_getElem?_getD, List.getElem?_eq_getElem hj])
    rwa [List.take_length] at this
theorem idx_miss {M : List Int} {t : Int} (h : t ∉ M) : Lib.idxOf M t = -1 := by
  have := Lib.idxOf_miss M M.length t (fun j hj e => h (by
    rw [List.getD_eq_getElem?_getD, List.getElem?_eq_getElem hj] at e
    exact e ▸ List.getElem_mem hj))
  rwa [List.take_length] at this
theorem idx_hit {M : List Int} {t : Int} (hn : M.Nodup) {k : Nat} (h : M[k]? = some t) : Lib.idxOf M t = (k : Int) := by
  obtain ⟨hk, e⟩ := List.getElem?_eq_some_iff.1 h
  have := Lib.idxOf_hit M M.length k t hk (Nat.le_refl _) (by rw [List.getD_eq_getElem?_getD, h]; rfl) (fun j hj e' => by
    rw [List.getD_eq_getElem?_getD, List.getElem?_eq_getElem (by omega)] at e'
    have e2 : M[j]'(by omega) = M[k] := by rw [e]; exact e'
    have := (List.getElem_inj hn).1 e2
    omega)
  rwa [List.take_length] at this
theorem QR.eight {base : Nat} {w : World} {q : Nat} {vs : List Value} {F : Nat → List Int} (h : QR base w q vs F) : ∃ a0 a1 a2 a3 a4 a5 a6 a7 c0 c1 c2 c3 c4 c5 c6 c7, vs = [.slice a0 (F 0).length c0, .slice a1 (F 1).length c1, .slice a2 (F 2).length c2, .slice a3 (F 3).length c3, .slice a4 (F 4).length c4, .slice a5 (F 5).length c5, .slice a6 (F 6).length c6, .slice a7 (F 7).length c7] := by
  have hl := h.len
  have ho := h.own
  match vs, hl with
  | [v0, v1, v2, v3, v4, v5, v6, v7], _ =>
    obtain ⟨a0, c0, rfl⟩ := (ho 0 _ rfl).form
    obtain ⟨a1, c1, rfl⟩ := (ho 1 _ rfl).form
    obtain ⟨a2, c2, rfl⟩ := (ho 2 _ rfl).form
    obtain ⟨a3, c3, rfl⟩ := (ho 3 _ rfl).form
    obtain ⟨a4, c4, rfl⟩ := (ho 4 _ rfl).form
    obtain ⟨a5, c5, rfl⟩ := (ho 5 _ rfl).form
    obtain ⟨a6, c6, rfl⟩ := (ho 6 _ rfl).form
    obtain ⟨a7, c7, rfl⟩ := (ho 7 _ rfl).form
    exact ⟨_, _, _, _, _, _, _, _, _, _, _, _, _, _, _, _, rfl⟩
theorem idx8_0 (a0 a1 a2 a3 a4 a5 a6 a7 : Option Addr) (n0 n1 n2 n3 n4 n5 n6 n7 k0 k1 k2 k3 k4 k5 k6 k7 : Nat) (w : World) : (Instr.index 25 (.agg #[.slice a0 n0 k0, .slice a1 n1 k1, .slice a2 n2 k2, .slice a3 n3 k3, .slice a4 n4 k4, .slice a5 n5 k5, .slice a6 n6 k6, .slice a7 n7 k7]) (.int .i64 0)).run Try.prog w = .ok (.slice a0 n0 k0) w := by kernel_rfl
theorem idx8_1 (a0 a1 a2 a3 a4 a5 a6 a7 : Option Addr) (n0 n1 n2 n3 n4 n5 n6 n7 k0 k1 k2 k3 k4 k5 k6 k7 : Nat) (w : World) : (Instr.index 25 (.agg #[.slice a0 n0 k0, .slice a1 n1 k1, .slice a2 n2 k2, .slice a3 n3 k3, .slice a4 n4 k4, .slice a5 n5 k5, .slice a6 n6 k6, .slice a7 n7 k7]) (.int .i64 1)).run Try.prog w = .ok (.slice a1 n1 k1) w := by kernel_rfl
theorem idx8_2 (a0 a1 a2 a3 a4 a5 a6 a7 : Option Addr) (n0 n1 n2 n3 n4 n5 n6 n7 k0 k1 k2 k3 k4 k5 k6 k7 : Nat) (w : World) : (Instr.index 25 (.agg #[.slice a0 n0 k0, .slice a1 n1 k1, .slice a2 n2 k2, .slice a3 n3 k3, .slice a4 n4 k4, .slice a5 n5 k5, .slice a6 n6 k6, .slice a7 n7 k7]) (.int .i64 2)).run Try.prog w = .ok (.slice a2 n2 k2) w := by kernel_rfl
theorem idx8_3 (a0 a1 a2 a3 a4 a5 a6 a7 : Option Addr) (n0 n1 n2 n3 n4 n5 n6 n7 k0 k1 k2 k3 k4 k5 k6 k7 : Nat) (w : World) : (Instr.index 25 (.agg #[.slice a0 n0 k0, .slice a1 n1 k1, .slice a2 n2 k2, .slice a3 n3 k3, .slice a4 n4 k4, .slice a5 n5 k5, .slice a6 n6 k6, .slice a7 n7 k7]) (.int .i64 3)).run Try.prog w = .ok (.slice a3 n3 k3) w := by kernel_rfl
theorem idx8_4 (a0 a1 a2 a3 a4 a5 a6 a7 : Option Addr) (n0 n1 n2 n3 n4 n5 n6 n7 k0 k1 k2 k3 k4 k5 k6 k7 : Nat) (w : World) : (Instr.index 25 (.agg #[.slice a0 n0 k0, .slice a1 n1 k1, .slice a2 n2 k2, .slice a3 n3 k3, .slice a4 n4 k4, .slice a5 n5 k5, .slice a6 n6 k6, .slice a7 n7 k7]) (.int .i64 4)).run Try.prog w = .ok (.slice a4 n4 k4) w := by kernel_rfl
theorem idx8_5 (a0 a1 a2 a3 a4 a5 a6 a7 : Option Addr) (n0 n1 n2 n3 n4 n5 n6 n7 k0 k1 k2 k3 k4 k5 k6 k7 : Nat) (w : World) : (Instr.index 25 (.agg #[.slice a0 n0 k0, .slice a1 n1 k1, .slice a2 n2 k2, .slice a3 n3 k3, .slice a4 n4 k4, .slice a5 n5 k5, .slice a6 n6 k6, .slice a7 n7 k7]) (.int .i64 5)).run Try.prog w = .ok (.slice a5 n5 k5) w := by kernel_rfl
theorem idx8_6 (a0 a1 a2 a3 a4 a5 a6 a7 : Option Addr) (n0 n1 n2 n3 n4 n5 n6 n7 k0 k1 k2 k3 k4 k5 k6 k7 : Nat) (w : World) : (Instr.index 25 (.agg #[.slice a0 n0 k0, .slice a1 n1 k1, .slice a2 n2 k2, .slice a3 n3 k3, .slice a4 n4 k4, .slice a5 n5 k5, .slice a6 n6 k6, .slice a7 n7 k7]) (.int .i64 6)).run Try.prog w = .ok (.slice a6 n6 k6) w := by kernel_rfl
theorem idx8_7 (a0 a1 a2 a3 a4 a5 a6 a7 : Option Addr) (n0 n1 n2 n3 n4 n5 n6 n7 k0 k1 k2 k3 k4 k5 k6 k7 : Nat) (w : World) : (Instr.index 25 (.agg #[.slice a0 n0 k0, .slice a1 n1 k1, .slice a2 n2 k2, .slice a3 n3 k3, .slice a4 n4 k4, .slice a5 n5 k5, .slice a6 n6 k6, .slice a7 n7 k7]) (.int .i64 7)).run Try.prog w = .ok (.slice a7 n7 k7) w := by kernel_rfl
set_option maxHeartbeats 4000000 in
theorem find_no {base : Nat} {w : World} {q : Nat} {vs : List Value} {F : Nat → List Int} (h : QR base w q vs F) {t : Int} (hn : ∀ i, i < 8 → t ∉ F i) :
    Calls Try.prog 24 #[.pointer (some ⟨q, 0, none⟩), .int .i64 t] w fun e w' => e = .returned (.tuple #[.int .i64 0, .int .i64 0, .bool false]) ∧ Kp [] w w' := by
  obtain ⟨a0, a1, a2, a3, a4, a5, a6, a7, k0, k1, k2, k3, k4, k5, k6, k7, rfl⟩ := h.eight
  have H := hide h
  have c0 := h.head.cell (i := 0) rfl
  have c1 := h.head.cell (i := 1) rfl
  have c2 := h.head.cell (i := 2) rfl
  have c3 := h.head.cell (i := 3) rfl
  have c4 := h.head.cell (i := 4) rfl
  have c5 := h.head.cell (i := 5) rfl
  have c6 := h.head.cell (i := 6) rfl
  have c7 := h.head.cell (i := 7) rfl
  replace hn := hide hn
  clear h
  go_enter Try.func24, Try.ntmps24
  go_wp2_with fail
  clear c0 c1 c2 c3 c4 c5 c6 c7
  go_loopg [14] 8 (fun m i wx => ∃ j : Nat, j ≤ 8 ∧ m = 8 - j ∧ i = .int .i64 j ∧ wx = w)
  case atStart => exact ⟨0, by omega, rfl, rfl, rfl⟩
  case round =>
    obtain ⟨j, hj, rfl, rfl, rfl⟩ := hrel
    match j, hj with
    | 0, _ =>
      have hx := hide (idx_miss (unhide hn 0 (by decide)))
      have hix := idx8_0 a0 a1 a2 a3 a4 a5 a6 a7 (F 0).length (F 1).length (F 2).length (F 3).length (F 4).length (F 5).length (F 6).length (F 7).length k0 k1 k2 k3 k4 k5 k6 k7
      go_wp2_with fail
      refine (index_to ((unhide H).own 0 _ rfl) ((unhide H).small 0 (by decide)) (unhide hx)).mono ?_
      rintro e W1 ⟨rfl, hW⟩
      subst hW
      go_wp2
      go_roundg 7
      case measure => omega
      case rel => exact ⟨1, by omega, rfl, by go_num, rfl⟩
    | 1, _ =>
      have hx := hide (idx_miss (unhide hn 1 (by decide)))
      have hix := idx8_1 a0 a1 a2 a3 a4 a5 a6 a7 (F 0).length (F 1).length (F 2).length (F 3).length (F 4).length (F 5).length (F 6).length (F 7).length k0 k1 k2 k3 k4 k5 k6 k7
      go_wp2_with fail
      refine (index_to ((unhide H).own 1 _ rfl) ((unhide H).small 1 (by decide)) (unhide hx)).mono ?_
      rintro e W1 ⟨rfl, hW⟩
      subst hW
      go_wp2
      go_roundg 6
      case measure => omega
      case rel => exact ⟨2, by omega, rfl, by go_num, rfl⟩
    | 2, _ =>
      have hx := hide (idx_miss (unhide hn 2 (by decide)))
      have hix := idx8_2 a0 a1 a2 a3 a4 a5 a6 a7 (F 0).length (F 1).length (F 2).length (F 3).length (F 4).length (F 5).length (F 6).length (F 7).length k0 k1 k2 k3 k4 k5 k6 k7
      go_wp2_with fail
      refine (index_to ((unhide H).own 2 _ rfl) ((unhide H).small 2 (by decide)) (unhide hx)).mono ?_
      rintro e W1 ⟨rfl, hW⟩
      subst hW
      go_wp2
      go_roundg 5
      case measure => omega
      case rel => exact ⟨3, by omega, rfl, by go_num, rfl⟩
    | 3, _ =>
      have hx := hide (idx_miss (unhide hn 3 (by decide)))
      have hix := idx8_3 a0 a1 a2 a3 a4 a5 a6 a7 (F 0).length (F 1).length (F 2).length (F 3).length (F 4).length (F 5).length (F 6).length (F 7).length k0 k1 k2 k3 k4 k5 k6 k7
      go_wp2_with fail
      refine (index_to ((unhide H).own 3 _ rfl) ((unhide H).small 3 (by decide)) (unhide hx)).mono ?_
      rintro e W1 ⟨rfl, hW⟩
      subst hW
      go_wp2
      go_roundg 4
      case measure => omega
      case rel => exact ⟨4, by omega, rfl, by go_num, rfl⟩
    | 4, _ =>
      have hx := hide (idx_miss (unhide hn 4 (by decide)))
      have hix := idx8_4 a0 a1 a2 a3 a4 a5 a6 a7 (F 0).length (F 1).length (F 2).length (F 3).length (F 4).length (F 5).length (F 6).length (F 7).length k0 k1 k2 k3 k4 k5 k6 k7
      go_wp2_with fail
      refine (index_to ((unhide H).own 4 _ rfl) ((unhide H).small 4 (by decide)) (unhide hx)).mono ?_
      rintro e W1 ⟨rfl, hW⟩
      subst hW
      go_wp2
      go_roundg 3
      case measure => omega
      case rel => exact ⟨5, by omega, rfl, by go_num, rfl⟩
    | 5, _ =>
      have hx := hide (idx_miss (unhide hn 5 (by decide)))
      have hix := idx8_5 a0 a1 a2 a3 a4 a5 a6 a7 (F 0).length (F 1).length (F 2).length (F 3).length (F 4).length (F 5).length (F 6).length (F 7).length k0 k1 k2 k3 k4 k5 k6 k7
      go_wp2_with fail
      refine (index_to ((unhide H).own 5 _ rfl) ((unhide H).small 5 (by decide)) (unhide hx)).mono ?_
      rintro e W1 ⟨rfl, hW⟩
      subst hW
      go_wp2
      go_roundg 2
      case measure => omega
      case rel => exact ⟨6, by omega, rfl, by go_num, rfl⟩
    | 6, _ =>
      have hx := hide (idx_miss (unhide hn 6 (by decide)))
      have hix := idx8_6 a0 a1 a2 a3 a4 a5 a6 a7 (F 0).length (F 1).length (F 2).length (F 3).length (F 4).length (F 5).length (F 6).length (F 7).length k0 k1 k2 k3 k4 k5 k6 k7
      go_wp2_with fail
      refine (index_to ((unhide H).own 6 _ rfl) ((unhide H).small 6 (by decide)) (unhide hx)).mono ?_
      rintro e W1 ⟨rfl, hW⟩
      subst hW
      go_wp2
      go_roundg 1
      case measure => omega
      case rel => exact ⟨7, by omega, rfl, by go_num, rfl⟩
    | 7, _ =>
      have hx := hide (idx_miss (unhide hn 7 (by decide)))
      have hix := idx8_7 a0 a1 a2 a3 a4 a5 a6 a7 (F 0).length (F 1).length (F 2).length (F 3).length (F 4).length (F 5).length (F 6).length (F 7).length k0 k1 k2 k3 k4 k5 k6 k7
      go_wp2_with fail
      refine (index_to ((unhide H).own 7 _ rfl) ((unhide H).small 7 (by decide)) (unhide hx)).mono ?_
      rintro e W1 ⟨rfl, hW⟩
      subst hW
      go_wp2
      go_roundg 0
      case measure => omega
      case rel => exact ⟨8, by omega, rfl, by go_num, rfl⟩
    | 8, _ =>
      go_wp2
      exact bodyPost_ret (v := .tuple #[.int .i64 0, .int .i64 0, .bool false]) (by simp [results, Try.results24, go_sem, *]) rfl ⟨rfl, Kp.refl _ _⟩
set_option maxHeartbeats 8000000 in
theorem find_yes {base : Nat} {w : World} {q : Nat} {vs : List Value} {F : Nat → List Int} (h : QR base w q vs F) {t : Int} {p k : Nat} (hp : p < 8) (hn : ∀ i, i < p → t ∉ F i) (hd : (F p).Nodup) (hk : (F p)[k]? = some t) :
    Calls Try.prog 24 #[.pointer (some ⟨q, 0, none⟩), .int .i64 t] w fun e w' => e = .returned (.tuple #[.int .i64 p, .int .i64 k, .bool true]) ∧ Kp [] w w' := by
  obtain ⟨a0, a1, a2, a3, a4, a5, a6, a7, k0, k1, k2, k3, k4, k5, k6, k7, rfl⟩ := h.eight
  have H := hide h
  have c0 := h.head.cell (i := 0) rfl
  have c1 := h.head.cell (i := 1) rfl
  have c2 := h.head.cell (i := 2) rfl
  have c3 := h.head.cell (i := 3) rfl
  have c4 := h.head.cell (i := 4) rfl
  have c5 := h.head.cell (i := 5) rfl
  have c6 := h.head.cell (i := 6) rfl
  have c7 := h.head.cell (i := 7) rfl
  have hkl : k < (F p).length := (List.getElem?_eq_some_iff.1 hk).1
  have hks := h.small p hp
  have HK := hide (idx_hit hd hk)
  replace hn := hide hn
  clear h hd hk
  go_enter Try.func24, Try.ntmps24
  go_wp2_with fail
  clear c0 c1 c2 c3 c4 c5 c6 c7
  go_loopg [14] 8 (fun m i wx => ∃ j : Nat, j ≤ p ∧ m = 8 - j ∧ i = .int .i64 j ∧ wx = w)
  case atStart => exact ⟨0, by omega, rfl, rfl, rfl⟩
  case round =>
    obtain ⟨j, hj, rfl, rfl, rfl⟩ := hrel
    match j, hj with
    | 0, hj =>
      by_cases hjp : p = 0
      · subst hjp
        have hix := idx8_0 a0 a1 a2 a3 a4 a5 a6 a7 (F 0).length (F 1).length (F 2).length (F 3).length (F 4).length (F 5).length (F 6).length (F 7).length k0 k1 k2 k3 k4 k5 k6 k7
        have b1 : (0 : Int) ≤ (k : Int) := by omega
        go_wp2_with fail
        refine (index_to ((unhide H).own 0 _ rfl) ((unhide H).small 0 (by decide)) (unhide HK)).mono ?_
        rintro e W1 ⟨rfl, hW⟩
        subst hW
        go_wp2
        exact bodyPost_ret (v := .tuple #[.int .i64 0, .int .i64 k, .bool true]) (by simp [results, Try.results24, go_sem, *]) rfl ⟨rfl, Kp.refl _ _⟩
      · have hx := hide (idx_miss (unhide hn 0 (by omega)))
        have hix := idx8_0 a0 a1 a2 a3 a4 a5 a6 a7 (F 0).length (F 1).length (F 2).length (F 3).length (F 4).length (F 5).length (F 6).length (F 7).length k0 k1 k2 k3 k4 k5 k6 k7
        clear HK
        go_wp2_with fail
        refine (index_to ((unhide H).own 0 _ rfl) ((unhide H).small 0 (by decide)) (unhide hx)).mono ?_
        rintro e W1 ⟨rfl, hW⟩
        subst hW
        go_wp2
        go_roundg 7
        case measure => omega
        case rel => exact ⟨1, by omega, rfl, by go_num, rfl⟩
    | 1, hj =>
      by_cases hjp : p = 1
      · subst hjp
        have hix := idx8_1 a0 a1 a2 a3 a4 a5 a6 a7 (F 0).length (F 1).length (F 2).length (F 3).length (F 4).length (F 5).length (F 6).length (F 7).length k0 k1 k2 k3 k4 k5 k6 k7
        have b1 : (0 : Int) ≤ (k : Int) := by omega
        go_wp2_with fail
        refine (index_to ((unhide H).own 1 _ rfl) ((unhide H).small 1 (by decide)) (unhide HK)).mono ?_
        rintro e W1 ⟨rfl, hW⟩
        subst hW
        go_wp2
        exact bodyPost_ret (v := .tuple #[.int .i64 1, .int .i64 k, .bool true]) (by simp [results, Try.results24, go_sem, *]) rfl ⟨rfl, Kp.refl _ _⟩
      · have hx := hide (idx_miss (unhide hn 1 (by omega)))
        have hix := idx8_1 a0 a1 a2 a3 a4 a5 a6 a7 (F 0).length (F 1).length (F 2).length (F 3).length (F 4).length (F 5).length (F 6).length (F 7).length k0 k1 k2 k3 k4 k5 k6 k7
        clear HK
        go_wp2_with fail
        refine (index_to ((unhide H).own 1 _ rfl) ((unhide H).small 1 (by decide)) (unhide hx)).mono ?_
        rintro e W1 ⟨rfl, hW⟩
        subst hW
        go_wp2
        go_roundg 6
        case measure => omega
        case rel => exact ⟨2, by omega, rfl, by go_num, rfl⟩
    | 2, hj =>
      by_cases hjp : p = 2
      · subst hjp
        have hix := idx8_2 a0 a1 a2 a3 a4 a5 a6 a7 (F 0).length (F 1).length (F 2).length (F 3).length (F 4).length (F 5).length (F 6).length (F 7).length k0 k1 k2 k3 k4 k5 k6 k7
        have b1 : (0 : Int) ≤ (k : Int) := by omega
        go_wp2_with fail
        refine (index_to ((unhide H).own 2 _ rfl) ((unhide H).small 2 (by decide)) (unhide HK)).mono ?_
        rintro e W1 ⟨rfl, hW⟩
        subst hW
        go_wp2
        exact bodyPost_ret (v := .tuple #[.int .i64 2, .int .i64 k, .bool true]) (by simp [results, Try.results24, go_sem, *]) rfl ⟨rfl, Kp.refl _ _⟩
      · have hx := hide (idx_miss (unhide hn 2 (by omega)))
        have hix := idx8_2 a0 a1 a2 a3 a4 a5 a6 a7 (F 0).length (F 1).length (F 2).length (F 3).length (F 4).length (F 5).length (F 6).length (F 7).length k0 k1 k2 k3 k4 k5 k6 k7
        clear HK
        go_wp2_with fail
        refine (index_to ((unhide H).own 2 _ rfl) ((unhide H).small 2 (by decide)) (unhide hx)).mono ?_
        rintro e W1 ⟨rfl, hW⟩
        subst hW
        go_wp2
        go_roundg 5
        case measure => omega
        case rel => exact ⟨3, by omega, rfl, by go_num, rfl⟩
    | 3, hj =>
      by_cases hjp : p = 3
      · subst hjp
        have hix := idx8_3 a0 a1 a2 a3 a4 a5 a6 a7 (F 0).length (F 1).length (F 2).length (F 3).length (F 4).length (F 5).length (F 6).length (F 7).length k0 k1 k2 k3 k4 k5 k6 k7
        have b1 : (0 : Int) ≤ (k : Int) := by omega
        go_wp2_with fail
        refine (index_to ((unhide H).own 3 _ rfl) ((unhide H).small 3 (by decide)) (unhide HK)).mono ?_
        rintro e W1 ⟨rfl, hW⟩
        subst hW
        go_wp2
        exact bodyPost_ret (v := .tuple #[.int .i64 3, .int .i64 k, .bool true]) (by simp [results, Try.results24, go_sem, *]) rfl ⟨rfl, Kp.refl _ _⟩
      · have hx := hide (idx_miss (unhide hn 3 (by omega)))
        have hix := idx8_3 a0 a1 a2 a3 a4 a5 a6 a7 (F 0).length (F 1).length (F 2).length (F 3).length (F 4).length (F 5).length (F 6).length (F 7).length k0 k1 k2 k3 k4 k5 k6 k7
        clear HK
        go_wp2_with fail
        refine (index_to ((unhide H).own 3 _ rfl) ((unhide H).small 3 (by decide)) (unhide hx)).mono ?_
        rintro e W1 ⟨rfl, hW⟩
        subst hW
        go_wp2
        go_roundg 4
        case measure => omega
        case rel => exact ⟨4, by omega, rfl, by go_num, rfl⟩
    | 4, hj =>
      by_cases hjp : p = 4
      · subst hjp
        have hix := idx8_4 a0 a1 a2 a3 a4 a5 a6 a7 (F 0).length (F 1).length (F 2).length (F 3).length (F 4).length (F 5).length (F 6).length (F 7).length k0 k1 k2 k3 k4 k5 k6 k7
        have b1 : (0 : Int) ≤ (k : Int) := by omega
        go_wp2_with fail
        refine (index_to ((unhide H).own 4 _ rfl) ((unhide H).small 4 (by decide)) (unhide HK)).mono ?_
        rintro e W1 ⟨rfl, hW⟩
        subst hW
        go_wp2
        exact bodyPost_ret (v := .tuple #[.int .i64 4, .int .i64 k, .bool true]) (by simp [results, Try.results24, go_sem, *]) rfl ⟨rfl, Kp.refl _ _⟩
      · have hx := hide (idx_miss (unhide hn 4 (by omega)))
        have hix := idx8_4 a0 a1 a2 a3 a4 a5 a6 a7 (F 0).length (F 1).length (F 2).length (F 3).length (F 4).length (F 5).length (F 6).length (F 7).length k0 k1 k2 k3 k4 k5 k6 k7
        clear HK
        go_wp2_with fail
        refine (index_to ((unhide H).own 4 _ rfl) ((unhide H).small 4 (by decide)) (unhide hx)).mono ?_
        rintro e W1 ⟨rfl, hW⟩
        subst hW
        go_wp2
        go_roundg 3
        case measure => omega
        case rel => exact ⟨5, by omega, rfl, by go_num, rfl⟩
    | 5, hj =>
      by_cases hjp : p = 5
      · subst hjp
        have hix := idx8_5 a0 a1 a2 a3 a4 a5 a6 a7 (F 0).length (F 1).length (F 2).length (F 3).length (F 4).length (F 5).length (F 6).length (F 7).length k0 k1 k2 k3 k4 k5 k6 k7
        have b1 : (0 : Int) ≤ (k : Int) := by omega
        go_wp2_with fail
        refine (index_to ((unhide H).own 5 _ rfl) ((unhide H).small 5 (by decide)) (unhide HK)).mono ?_
        rintro e W1 ⟨rfl, hW⟩
        subst hW
        go_wp2
        exact bodyPost_ret (v := .tuple #[.int .i64 5, .int .i64 k, .bool true]) (by simp [results, Try.results24, go_sem, *]) rfl ⟨rfl, Kp.refl _ _⟩
      · have hx := hide (idx_miss (unhide hn 5 (by omega)))
        have hix := idx8_5 a0 a1 a2 a3 a4 a5 a6 a7 (F 0).length (F 1).length (F 2).length (F 3).length (F 4).length (F 5).length (F 6).length (F 7).length k0 k1 k2 k3 k4 k5 k6 k7
        clear HK
        go_wp2_with fail
        refine (index_to ((unhide H).own 5 _ rfl) ((unhide H).small 5 (by decide)) (unhide hx)).mono ?_
        rintro e W1 ⟨rfl, hW⟩
        subst hW
        go_wp2
        go_roundg 2
        case measure => omega
        case rel => exact ⟨6, by omega, rfl, by go_num, rfl⟩
    | 6, hj =>
      by_cases hjp : p = 6
      · subst hjp
        have hix := idx8_6 a0 a1 a2 a3 a4 a5 a6 a7 (F 0).length (F 1).length (F 2).length (F 3).length (F 4).length (F 5).length (F 6).length (F 7).length k0 k1 k2 k3 k4 k5 k6 k7
        have b1 : (0 : Int) ≤ (k : Int) := by omega
        go_wp2_with fail
        refine (index_to ((unhide H).own 6 _ rfl) ((unhide H).small 6 (by decide)) (unhide HK)).mono ?_
        rintro e W1 ⟨rfl, hW⟩
        subst hW
        go_wp2
        exact bodyPost_ret (v := .tuple #[.int .i64 6, .int .i64 k, .bool true]) (by simp [results, Try.results24, go_sem, *]) rfl ⟨rfl, Kp.refl _ _⟩
      · have hx := hide (idx_miss (unhide hn 6 (by omega)))
        have hix := idx8_6 a0 a1 a2 a3 a4 a5 a6 a7 (F 0).length (F 1).length (F 2).length (F 3).length (F 4).length (F 5).length (F 6).length (F 7).length k0 k1 k2 k3 k4 k5 k6 k7
        clear HK
        go_wp2_with fail
        refine (index_to ((unhide H).own 6 _ rfl) ((unhide H).small 6 (by decide)) (unhide hx)).mono ?_
        rintro e W1 ⟨rfl, hW⟩
        subst hW
        go_wp2
        go_roundg 1
        case measure => omega
        case rel => exact ⟨7, by omega, rfl, by go_num, rfl⟩
    | 7, hj =>
      by_cases hjp : p = 7
      · subst hjp
        have hix := idx8_7 a0 a1 a2 a3 a4 a5 a6 a7 (F 0).length (F 1).length (F 2).length (F 3).length (F 4).length (F 5).length (F 6).length (F 7).length k0 k1 k2 k3 k4 k5 k6 k7
        have b1 : (0 : Int) ≤ (k : Int) := by omega
        go_wp2_with fail
        refine (index_to ((unhide H).own 7 _ rfl) ((unhide H).small 7 (by decide)) (unhide HK)).mono ?_
        rintro e W1 ⟨rfl, hW⟩
        subst hW
        go_wp2
        exact bodyPost_ret (v := .tuple #[.int .i64 7, .int .i64 k, .bool true]) (by simp [results, Try.results24, go_sem, *]) rfl ⟨rfl, Kp.refl _ _⟩
      · have hx := hide (idx_miss (unhide hn 7 (by omega)))
        have hix := idx8_7 a0 a1 a2 a3 a4 a5 a6 a7 (F 0).length (F 1).length (F 2).length (F 3).length (F 4).length (F 5).length (F 6).length (F 7).length k0 k1 k2 k3 k4 k5 k6 k7
        clear HK
        go_wp2_with fail
        refine (index_to ((unhide H).own 7 _ rfl) ((unhide H).small 7 (by decide)) (unhide hx)).mono ?_
        rintro e W1 ⟨rfl, hW⟩
        subst hW
        go_wp2
        go_roundg 0
        case measure => omega
        case rel => exact ⟨8, by omega, rfl, by go_num, rfl⟩
    | j + 8, hj => omega
end Go.Proofs.Ytennmoaaieedpaa
