/- The walk of LookSays. -/
import Derived.Test.YtjjgjgncnifjmaaKTabs6
import Derived.Test.YtjjgjgncnifjmaaKBox
import Derived.Test.YtjjgjgncnifjmaaKArgs
namespace Go.Proofs.Ytjjgjgncnifjmaa
open Go.RowKit
set_option linter.unusedVariables false
theorem joinN_bd (v d : Int) : 0 ≤ joinN v d ∧ joinN v d < 4294967296 := by unfold joinN; omega
theorem rjoin_to (v d j : Int) (w : World) (h : joinN v d = j) :
    Calls Try.prog 10 #[.int .i64 v, .int .i64 d] w fun e w' => e = .returned (.int .u32 j) ∧ w' = w := by subst h; exact rjoin_calls v d w
theorem kp6 {W wx : World} (K : Kp [] W wx) {a1 a2 a3 a4 a5 a6 : Addr} {v1 v2 v3 v4 v5 v6 : Value} (h : W.cell? a1 = some v1 ∧ W.cell? a2 = some v2 ∧ W.cell? a3 = some v3 ∧ W.cell? a4 = some v4 ∧ W.cell? a5 = some v5 ∧ W.cell? a6 = some v6) : wx.cell? a1 = some v1 ∧ wx.cell? a2 = some v2 ∧ wx.cell? a3 = some v3 ∧ wx.cell? a4 = some v4 ∧ wx.cell? a5 = some v5 ∧ wx.cell? a6 = some v6 :=
  ⟨K.cell h.1, K.cell h.2.1, K.cell h.2.2.1, K.cell h.2.2.2.1, K.cell h.2.2.2.2.1, K.cell h.2.2.2.2.2⟩
/-- The two tables, the roots, the addresses. -/
structure Sy (w : World) (t Rb Ab : Nat) (L : List Sl) (W : World) : Prop where
  tb : Tb w t L W
  rt : ∃ ra rc, RT (t + 1) W (t + 1) ra rc L
  roots : ∀ j, j < 3 → ∃ k o z b r : Int, W.cell? ⟨Rb, j * 5, none⟩ = some (.int .i64 k) ∧ W.cell? ⟨Rb, j * 5 + 1, none⟩ = some (.int .i64 o) ∧ W.cell? ⟨Rb, j * 5 + 2, none⟩ = some (.int .i64 z) ∧ W.cell? ⟨Rb, j * 5 + 3, none⟩ = some (.int .i64 b) ∧ W.cell? ⟨Rb, j * 5 + 4, none⟩ = some (.int .i64 r)
  all : ∀ l, l < 6 → ∃ a : Int, W.cell? ⟨Ab, l, none⟩ = some (.int .u32 a) ∧ 0 ≤ a ∧ a < 4294967296
theorem Sy.grew {w : World} {t Rb Ab : Nat} {L : List Sl} {W wx : World} (h : Sy w t Rb Ab L W) (K : Kp [] W wx) : Sy w t Rb Ab L wx := by
  refine ⟨h.tb.grew K, ?_, fun j hj => ?_, fun l hl => ?_⟩
  · obtain ⟨ra, rc, hr⟩ := h.rt
    exact ⟨ra, rc, hr.grew K⟩
  · obtain ⟨k, o, z, b, r, c1, c2, c3, c4, c5⟩ := h.roots j hj
    exact ⟨k, o, z, b, r, K.cell c1, K.cell c2, K.cell c3, K.cell c4, K.cell c5⟩
  · obtain ⟨a, c1, c2⟩ := h.all l hl
    exact ⟨a, K.cell c1, c2⟩
theorem kp2 {W wx : World} (K : Kp [] W wx) {a1 a2 : Addr} {v1 v2 : Value} (h : W.cell? a1 = some v1 ∧ W.cell? a2 = some v2) : wx.cell? a1 = some v1 ∧ wx.cell? a2 = some v2 := ⟨K.cell h.1, K.cell h.2⟩
theorem kp5 {W wx : World} (K : Kp [] W wx) {a1 a2 a3 a4 a5 : Addr} {v1 v2 v3 v4 v5 : Value} (h : W.cell? a1 = some v1 ∧ W.cell? a2 = some v2 ∧ W.cell? a3 = some v3 ∧ W.cell? a4 = some v4 ∧ W.cell? a5 = some v5) : wx.cell? a1 = some v1 ∧ wx.cell? a2 = some v2 ∧ wx.cell? a3 = some v3 ∧ wx.cell? a4 = some v4 ∧ wx.cell? a5 = some v5 :=
  ⟨K.cell h.1, K.cell h.2.1, K.cell h.2.2.1, K.cell h.2.2.2.1, K.cell h.2.2.2.2⟩
theorem roots_of {W : World} {Rb : Nat} {T : TypeId} {rk ro rz rb rr : Int} (h : Bk W Rb T [.int .i64 rk, .int .i64 ro, .int .i64 rz, .int .i64 rb, .int .i64 rr, .int .i64 2, .int .i64 1, .int .i64 0, .int .i64 0, .int .i64 0, .int .i64 2, .int .i64 2, .int .i64 1, .int .i64 1, .int .i64 0]) (j : Nat) (hj : j < 3) : ∃ k o z b r : Int, W.cell? ⟨Rb, j * 5, none⟩ = some (.int .i64 k) ∧ W.cell? ⟨Rb, j * 5 + 1, none⟩ = some (.int .i64 o) ∧ W.cell? ⟨Rb, j * 5 + 2, none⟩ = some (.int .i64 z) ∧ W.cell? ⟨Rb, j * 5 + 3, none⟩ = some (.int .i64 b) ∧ W.cell? ⟨Rb, j * 5 + 4, none⟩ = some (.int .i64 r) := by
  match j, hj with
  | 0, _ => exact ⟨_, _, _, _, _, h.cell (i := 0) rfl, h.cell (i := 1) rfl, h.cell (i := 2) rfl, h.cell (i := 3) rfl, h.cell (i := 4) rfl⟩
  | 1, _ => exact ⟨_, _, _, _, _, h.cell (i := 5) rfl, h.cell (i := 6) rfl, h.cell (i := 7) rfl, h.cell (i := 8) rfl, h.cell (i := 9) rfl⟩
  | 2, _ => exact ⟨_, _, _, _, _, h.cell (i := 10) rfl, h.cell (i := 11) rfl, h.cell (i := 12) rfl, h.cell (i := 13) rfl, h.cell (i := 14) rfl⟩
theorem all_of {W : World} {Ab : Nat} {T : TypeId} {a A1 A2 A3 A4 A5 : Int} (h : Bk W Ab T [.int .u32 a, .int .u32 A1, .int .u32 A2, .int .u32 A3, .int .u32 A4, .int .u32 A5]) (ha : 0 ≤ a ∧ a < 4294967296) (h1 : 0 ≤ A1 ∧ A1 < 4294967296) (h2 : 0 ≤ A2 ∧ A2 < 4294967296) (h3 : 0 ≤ A3 ∧ A3 < 4294967296) (h4 : 0 ≤ A4 ∧ A4 < 4294967296) (h5 : 0 ≤ A5 ∧ A5 < 4294967296) (l : Nat) (hl : l < 6) : ∃ a : Int, W.cell? ⟨Ab, l, none⟩ = some (.int .u32 a) ∧ 0 ≤ a ∧ a < 4294967296 := by
  match l, hl with
  | 0, _ => exact ⟨_, h.cell (i := 0) rfl, ha⟩
  | 1, _ => exact ⟨_, h.cell (i := 1) rfl, h1⟩
  | 2, _ => exact ⟨_, h.cell (i := 2) rfl, h2⟩
  | 3, _ => exact ⟨_, h.cell (i := 3) rfl, h3⟩
  | 4, _ => exact ⟨_, h.cell (i := 4) rfl, h4⟩
  | 5, _ => exact ⟨_, h.cell (i := 5) rfl, h5⟩
theorem findV_form (q : Option (Int × Int)) : ∃ n s c : Int, findV q = .tuple #[.agg #[.int .i64 n, .int .i64 s], .int .i64 c] := by
  cases q with
  | none => exact ⟨0, 0, 2, rfl⟩
  | some p => exact ⟨p.1, p.2, 0, rfl⟩
theorem look_form (L : List Sl) (q : Option (Int × Int)) (kind : Int) : ∃ k o z b r n s c : Int, lookAt L q kind = .tuple #[.agg #[.int .i64 k, .int .i64 o, .int .i64 z, .int .i64 b, .int .i64 r], .agg #[.int .i64 n, .int .i64 s], .int .i64 c] := by
  cases q with
  | none => exact ⟨0, 0, 0, 0, 0, 0, 0, 2, rfl⟩
  | some p =>
    unfold lookAt
    simp only
    cases lkS L p.1 p.2 with
    | none => exact ⟨0, 0, 0, 0, 0, 0, 0, 4, rfl⟩
    | some x =>
      simp only
      split
      · exact ⟨x.k, x.o, x.z, x.b, x.r, p.1, p.2, 0, rfl⟩
      · exact ⟨0, 0, 0, 0, 0, 0, 0, 5, rfl⟩
theorem sfind {w : World} {t Rb Ab : Nat} {L : List Sl} {W wx : World} (h : Sy w t Rb Ab L W) (K : Kp [] W wx) {k o z b r a : Int} (ha : 0 ≤ a ∧ a < 4294967296) {v : Value} (hv : findV (findL L k o z b r a) = v) :
    Calls Try.prog 12 #[.pointer (some ⟨t, 0, none⟩), .agg #[.int .i64 k, .int .i64 o, .int .i64 z, .int .i64 b, .int .i64 r], .int .u32 a] wx fun e w' => e = .returned v ∧ Kp [] wx w' := by
  subst hv
  exact bfind (h.tb.grew K) ha rfl
theorem srfind {w : World} {t Rb Ab : Nat} {L : List Sl} {W wx : World} (h : Sy w t Rb Ab L W) (K : Kp [] W wx) {k o z b r a : Int} (ha : 0 ≤ a ∧ a < 4294967296) {v : Value} (hv : findV (findL L k o z b r a) = v) :
    Calls Try.prog 13 #[.pointer (some ⟨t + 1, 0, none⟩), .agg #[.int .i64 k, .int .i64 o, .int .i64 z, .int .i64 b, .int .i64 r], .int .u32 a] wx fun e w' => e = .returned v ∧ Kp [] wx w' := by
  subst hv
  obtain ⟨ra, rc, hr⟩ := h.rt
  exact rfind_calls (hr.grew K) k o z b r a ha
theorem scap {w : World} {t Rb Ab : Nat} {L : List Sl} {W wx : World} (h : Sy w t Rb Ab L W) (K : Kp [] W wx) {k o z b r a kind : Int} (ha : 0 ≤ a ∧ a < 4294967296) {v : Value} (hv : lookAt L (findL L k o z b r a) kind = v) :
    Calls Try.prog 14 #[.pointer (some ⟨t, 0, none⟩), .agg #[.int .i64 k, .int .i64 o, .int .i64 z, .int .i64 b, .int .i64 r], .int .u32 a, .int .i64 kind] wx fun e w' => e = .returned v ∧ Kp [] wx w' := bcap (h.tb.grew K) ha rfl hv
theorem srcap {w : World} {t Rb Ab : Nat} {L : List Sl} {W wx : World} (h : Sy w t Rb Ab L W) (K : Kp [] W wx) {k o z b r a kind : Int} (ha : 0 ≤ a ∧ a < 4294967296) {v : Value} (hv : lookAt L (findL L k o z b r a) kind = v) :
    Calls Try.prog 15 #[.pointer (some ⟨t + 1, 0, none⟩), .agg #[.int .i64 k, .int .i64 o, .int .i64 z, .int .i64 b, .int .i64 r], .int .u32 a, .int .i64 kind] wx fun e w' => e = .returned v ∧ Kp [] wx w' := by
  subst hv
  obtain ⟨ra, rc, hr⟩ := h.rt
  exact rcap_calls (hr.grew K) k o z b r a kind ha
set_option maxRecDepth 20000 in
set_option maxHeartbeats 16000000 in
theorem says_in (la : Option Addr) (cap : Nat) (zs : List Int) (rk ro rz rb rr a kind : Int) (w : World) (hl : zs.length ≤ 120) (hI : Ints .i64 w la zs) (ha : 0 ≤ a ∧ a < 4294967296) :
    Calls Try.prog 3 #[.slice la zs.length cap, .agg #[.int .i64 rk, .int .i64 ro, .int .i64 rz, .int .i64 rb, .int .i64 rr], .int .u32 a, .int .i64 kind] w fun e w' => e = .returned (.bool true) ∧ Below w.heap.size w w' := by
  have d1 : decide ((120 : Int) < (zs.length : Int)) = false := decide_eq_false (by omega)
  obtain ⟨kd, hkd⟩ : ∃ x, kind % 11 = x := ⟨_, rfl⟩
  have bkd : 0 ≤ kd ∧ kd < 11 := by omega
  replace hkd := hide hkd
  replace hI := hide hI
  replace ha := hide ha
  go_enter Try.func3, Try.ntmps3
  go_wp2_with fail
  refine (first_calls _).mono ?_
  rintro e W0 ⟨rfl, K0⟩
  have R0 := hide (((Bk.new w 24 [.int .i64 rk, .int .i64 ro, .int .i64 rz, .int .i64 rb, .int .i64 rr]).kept K0 (by simp)).alloc (.cells #[.slice la zs.length cap, .int .i64 0] 29))
  have S0 := hide (sq_start cap (((Kp.refl [] w).alloc (.cells #[.int .i64 rk, .int .i64 ro, .int .i64 rz, .int .i64 rb, .int .i64 rr] 24)).then K0) (unhide hI))
  obtain ⟨p, ep⟩ : ∃ p, W0.heap.size = p := ⟨_, rfl⟩
  rw [ep] at S0
  clear K0
  go_wp2_with fail
  generalize W0.alloc (.cells #[.slice la zs.length cap, .int .i64 0] 29) = W1 at *
  clear ep
  refine (tables_calls (unhide S0)).mono ?_
  rintro e W2 ⟨t, L, k, rfl, P2, hk, G2⟩
  have R2 := G2.cap (unhide R0)
  replace P2 := hide P2
  have r0 := R2.cell (i := 0) rfl
  have r1 := R2.cell (i := 1) rfl
  have r2 := R2.cell (i := 2) rfl
  have r3 := R2.cell (i := 3) rfl
  have r4 := R2.cell (i := 4) rfl
  clear S0 R0 G2 R2
  go_wp2_with fail
  refine (number_to _ _ _ _ (by omega) (by omega) (unhide hkd)).mono ?_
  rintro e w' ⟨rfl, rfl⟩
  have P3 := hide ((unhide P2).grew ((Kp.refl [] w').alloc (.cells #[.int .i64 rk, .int .i64 ro, .int .i64 rz, .int .i64 rb, .int .i64 rr, .int .i64 2, .int .i64 1, .int .i64 0, .int .i64 0, .int .i64 0, .int .i64 2, .int .i64 2, .int .i64 1, .int .i64 1, .int .i64 0] 24)))
  have R3 := hide (Bk.new w' 24 [.int .i64 rk, .int .i64 ro, .int .i64 rz, .int .i64 rb, .int .i64 rr, .int .i64 2, .int .i64 1, .int .i64 0, .int .i64 0, .int .i64 0, .int .i64 2, .int .i64 2, .int .i64 1, .int .i64 1, .int .i64 0])
  obtain ⟨Rb, eR⟩ : ∃ x, w'.heap.size = x := ⟨_, rfl⟩
  rw [eR] at R3
  go_wp2_with fail
  generalize w'.alloc (.cells #[.int .i64 rk, .int .i64 ro, .int .i64 rz, .int .i64 rb, .int .i64 rr, .int .i64 2, .int .i64 1, .int .i64 0, .int .i64 0, .int .i64 0, .int .i64 2, .int .i64 2, .int .i64 1, .int .i64 1, .int .i64 0] 24) = W3 at *
  clear eR P2 r0 r1 r2 r3 r4
  obtain ⟨n1, e1⟩ : ∃ x, nx zs (k) 16 = x := ⟨_, rfl⟩
  obtain ⟨A1, hA1⟩ : ∃ x, joinN n1 4 = x := ⟨_, rfl⟩
  have bA1 := hide (joinN_bd n1 4)
  rw [hA1] at bA1
  replace hA1 := hide hA1
  refine (next_calls (unhide P3).sq (by omega) 16 (by omega) (by omega)).mono ?_
  rintro e V1 ⟨rfl, S, K⟩
  have Q := (unhide P3).turnS K S
  have P4 := hide Q.1
  have R4 := hide (Q.2.cap (unhide R3))
  rw [e1]
  replace e1 := hide e1
  clear S K Q P3 R3
  go_wp2_with fail
  refine (rjoin_to _ _ A1 _ (unhide hA1)).mono ?_
  rintro e w' ⟨rfl, rfl⟩
  go_wp2_with fail
  obtain ⟨n2, e2⟩ : ∃ x, nx zs (k + 1) 256 = x := ⟨_, rfl⟩
  obtain ⟨A2, hA2⟩ : ∃ x, joinN n2 8 = x := ⟨_, rfl⟩
  have bA2 := hide (joinN_bd n2 8)
  rw [hA2] at bA2
  replace hA2 := hide hA2
  refine (next_calls (unhide P4).sq (by omega) 256 (by omega) (by omega)).mono ?_
  rintro e V2 ⟨rfl, S, K⟩
  have Q := (unhide P4).turnS K S
  have P5 := hide Q.1
  have R5 := hide (Q.2.cap (unhide R4))
  rw [e2]
  replace e2 := hide e2
  clear S K Q P4 R4
  go_wp2_with fail
  refine (rjoin_to _ _ A2 _ (unhide hA2)).mono ?_
  rintro e w' ⟨rfl, rfl⟩
  go_wp2_with fail
  obtain ⟨n3, e3⟩ : ∃ x, nx zs (k + 2) 1048576 = x := ⟨_, rfl⟩
  obtain ⟨A3, hA3⟩ : ∃ x, joinN n3 20 = x := ⟨_, rfl⟩
  have bA3 := hide (joinN_bd n3 20)
  rw [hA3] at bA3
  replace hA3 := hide hA3
  refine (next_calls (unhide P5).sq (by omega) 1048576 (by omega) (by omega)).mono ?_
  rintro e V3 ⟨rfl, S, K⟩
  have Q := (unhide P5).turnS K S
  have P6 := hide Q.1
  have R6 := hide (Q.2.cap (unhide R5))
  rw [e3]
  replace e3 := hide e3
  clear S K Q P5 R5
  go_wp2_with fail
  refine (rjoin_to _ _ A3 _ (unhide hA3)).mono ?_
  rintro e w' ⟨rfl, rfl⟩
  go_wp2_with fail
  obtain ⟨n4, e4⟩ : ∃ x, nx zs (k + 3) 16777216 = x := ⟨_, rfl⟩
  obtain ⟨A4, hA4⟩ : ∃ x, joinN n4 24 = x := ⟨_, rfl⟩
  have bA4 := hide (joinN_bd n4 24)
  rw [hA4] at bA4
  replace hA4 := hide hA4
  refine (next_calls (unhide P6).sq (by omega) 16777216 (by omega) (by omega)).mono ?_
  rintro e V4 ⟨rfl, S, K⟩
  have Q := (unhide P6).turnS K S
  have P7 := hide Q.1
  have R7 := hide (Q.2.cap (unhide R6))
  rw [e4]
  replace e4 := hide e4
  clear S K Q P6 R6
  go_wp2_with fail
  refine (rjoin_to _ _ A4 _ (unhide hA4)).mono ?_
  rintro e w' ⟨rfl, rfl⟩
  go_wp2_with fail
  obtain ⟨n5, e5⟩ : ∃ x, nx zs (k + 4) 32 = x := ⟨_, rfl⟩
  obtain ⟨A5, hA5⟩ : ∃ x, joinN n5 5 = x := ⟨_, rfl⟩
  have bA5 := hide (joinN_bd n5 5)
  rw [hA5] at bA5
  replace hA5 := hide hA5
  refine (next_calls (unhide P7).sq (by omega) 32 (by omega) (by omega)).mono ?_
  rintro e V5 ⟨rfl, S, K⟩
  have Q := (unhide P7).turnS K S
  have P8 := hide Q.1
  have R8 := hide (Q.2.cap (unhide R7))
  rw [e5]
  replace e5 := hide e5
  clear S K Q P7 R7
  go_wp2_with fail
  refine (rjoin_to _ _ A5 _ (unhide hA5)).mono ?_
  rintro e w' ⟨rfl, rfl⟩
  go_wp2_with fail
  have HY0 := hide (Sy.mk (Ab := w'.heap.size) ((unhide P8).tab.grew ((Kp.refl [] w').alloc (.cells #[.int .u32 a, .int .u32 A1, .int .u32 A2, .int .u32 A3, .int .u32 A4, .int .u32 A5] 25))) (by obtain ⟨ra, rc, hr⟩ := (unhide P8).rt; exact ⟨ra, rc, hr.grew ((Kp.refl [] w').alloc _)⟩) (roots_of ((unhide R8).alloc (.cells #[.int .u32 a, .int .u32 A1, .int .u32 A2, .int .u32 A3, .int .u32 A4, .int .u32 A5] 25))) (all_of (Bk.new w' 25 [.int .u32 a, .int .u32 A1, .int .u32 A2, .int .u32 A3, .int .u32 A4, .int .u32 A5]) (unhide ha) (unhide bA1) (unhide bA2) (unhide bA3) (unhide bA4) (unhide bA5)))
  obtain ⟨Ab, eA⟩ : ∃ x, w'.heap.size = x := ⟨_, rfl⟩
  rw [eA] at HY0 ⊢
  clear eA P8 R8 bA1 bA2 bA3 bA4 bA5 hA1 hA2 hA3 hA4 hA5 e1 e2 e3 e4 e5
  generalize w'.alloc (.cells #[.int .u32 a, .int .u32 A1, .int .u32 A2, .int .u32 A3, .int .u32 A4, .int .u32 A5] 25) = Wb at *
  go_loopg [16] 3 (fun m i wx => ∃ j : Nat, j ≤ 3 ∧ m = 3 - j ∧ i = .int .i64 j ∧ Kp [] Wb wx)
  case atStart => exact ⟨0, by omega, rfl, rfl, Kp.refl [] _⟩
  case round =>
    obtain ⟨j, hj, rfl, rfl, hK⟩ := hrel
    by_cases hlt : j < 3
    · have b1 : (j : Int) < 3 := by omega
      obtain ⟨k1, o1, z1, bb, r1, hroot⟩ := (unhide HY0).roots j hlt
      replace hroot := hide hroot
      replace hK := hide hK
      have tj : ((j : Int)).toNat = j := Int.toNat_natCast j
      go_wp2_with fail
      go_loopg [17] 6 (fun m i wx => ∃ l : Nat, l ≤ 6 ∧ m = 6 - l ∧ i = .int .i64 l ∧ Kp [] Wb wx)
      case atStart => exact ⟨0, by omega, rfl, rfl, unhide hK⟩
      case round =>
        obtain ⟨l, hl6, rfl, rfl, hK2⟩ := hrel
        clear hK
        by_cases hlt2 : l < 6
        · have b2 : (l : Int) < 6 := by omega
          have tl : ((l : Int)).toNat = l := Int.toNat_natCast l
          obtain ⟨a1, hall, ba1⟩ := (unhide HY0).all l hlt2
          obtain ⟨f1, f2, fc, hF⟩ := findV_form (findL L k1 o1 z1 bb r1 a1)
          obtain ⟨g1, g2, g3, g4, g5, g6, g7, gc, hGv⟩ := look_form L (findL L k1 o1 z1 bb r1 a1) kd
          have HS := hide (show Wb.cell? ⟨Rb, j * 5, none⟩ = some (.int .i64 k1) ∧ Wb.cell? ⟨Rb, j * 5 + 1, none⟩ = some (.int .i64 o1) ∧ Wb.cell? ⟨Rb, j * 5 + 2, none⟩ = some (.int .i64 z1) ∧ Wb.cell? ⟨Rb, j * 5 + 3, none⟩ = some (.int .i64 bb) ∧ Wb.cell? ⟨Rb, j * 5 + 4, none⟩ = some (.int .i64 r1) ∧ Wb.cell? ⟨Ab, l, none⟩ = some (.int .u32 a1) from ⟨(unhide hroot).1, (unhide hroot).2.1, (unhide hroot).2.2.1, (unhide hroot).2.2.2.1, (unhide hroot).2.2.2.2, hall⟩)
          replace hF := hide hF
          replace hGv := hide hGv
          replace ba1 := hide ba1
          clear hall
          have HY := hide ((unhide HY0).grew hK2)
          have hKb := hide hK2
          have HSn := hide (kp6 hK2 (unhide HS))
          clear HS hK2
          have HS := hide (unhide HSn)
          clear HSn
          go_upto_region 20 with fail
          go_cut [18, 19] (fun p e wx => ∃ q, p = .pointer (some ⟨q, 0, none⟩) ∧ e = .int .i64 fc ∧ (wx.cell? ⟨q, 0, none⟩ = some (.int .i64 f1) ∧ wx.cell? ⟨q, 1, none⟩ = some (.int .i64 f2)) ∧ Kp [] wr wx)
          case first =>
            have Zb := hide (Kp.refl [] wr)
            have Z0 := hide (Kp.refl [] wr).drew
            go_region_held3 (fun w' => w'.cell? ⟨Rb, j * 5, none⟩ = some (.int .i64 k1) ∧ w'.cell? ⟨Rb, j * 5 + 1, none⟩ = some (.int .i64 o1) ∧ w'.cell? ⟨Rb, j * 5 + 2, none⟩ = some (.int .i64 z1) ∧ w'.cell? ⟨Rb, j * 5 + 3, none⟩ = some (.int .i64 bb) ∧ w'.cell? ⟨Rb, j * 5 + 4, none⟩ = some (.int .i64 r1) ∧ w'.cell? ⟨Ab, l, none⟩ = some (.int .u32 a1)) ((refine kp6 ?_ (unhide HS); (repeat (with_reducible first | exact unhide Z2 | exact unhide Z0 | exact ((unhide Zb).alloc _).drew | exact (((unhide Zb).alloc _).alloc _).drew | refine Kp.alloc ?_ _ | refine Kp.setCell ?_ (.inr (Nat.le_trans (unhide Zb).size (unhide Q2).nw)) _ | refine Kp.setCell ?_ (.inr (Nat.le_trans (unhide Zb).size (unhide P2).nw)) _)))) (first
              | (go_at_call 12; (with_reducible refine (sfind (unhide HY) (unhide Z0) (unhide ba1) (unhide hF)).mono ?_); rintro e W5 ⟨rfl, K5⟩; have Z2 := hide ((unhide Z0).then K5); clear K5)
              | (go_at_call 12; (with_reducible refine (sfind (unhide HY) ((unhide Zb).alloc _).drew (unhide ba1) (unhide hF)).mono ?_); rintro e W5 ⟨rfl, K5⟩; have P2 := hide ((BoxP.ofd wr).grew K5); have Z2 := hide (((unhide Zb).alloc _).drew.then K5); clear K5; obtain ⟨y0, y1, y2, y3⟩ := (unhide P2).facts))
            all_goals
              go_wp2
              go_meet
              case rel =>
                with_reducible first
                  | exact ⟨_, rfl, rfl, (fpB (unhide Z2) (unhide P2)).rel⟩
                  | exact ⟨_, rfl, rfl, (fpA (unhide Z2)).rel⟩
          case rest =>
            obtain ⟨q1, rfl, rfl, hcq1, hKK⟩ := hcut
            have HYn := hide ((unhide HY).grew hKK)
            have HSn := hide (kp6 hKK (unhide HS))
            have hKn := hide ((unhide hKb).then hKK)
            clear HY HS hKb
            have HY := hide (unhide HYn)
            have HS := hide (unhide HSn)
            have hKb := hide (unhide hKn)
            clear HYn HSn hKn
            replace hcq1 := hide hcq1
            clear hKK
            go_upto_region 21 with fail
            go_cut [20, 21] (fun p e wx => ∃ q, p = .pointer (some ⟨q, 0, none⟩) ∧ e = .int .i64 fc ∧ (wx.cell? ⟨q, 0, none⟩ = some (.int .i64 f1) ∧ wx.cell? ⟨q, 1, none⟩ = some (.int .i64 f2)) ∧ Kp [] wc wx)
            case first =>
              have Zb := hide (Kp.refl [] wc)
              have Z0 := hide (Kp.refl [] wc).drew
              go_region_held3 (fun w' => w'.cell? ⟨Rb, j * 5, none⟩ = some (.int .i64 k1) ∧ w'.cell? ⟨Rb, j * 5 + 1, none⟩ = some (.int .i64 o1) ∧ w'.cell? ⟨Rb, j * 5 + 2, none⟩ = some (.int .i64 z1) ∧ w'.cell? ⟨Rb, j * 5 + 3, none⟩ = some (.int .i64 bb) ∧ w'.cell? ⟨Rb, j * 5 + 4, none⟩ = some (.int .i64 r1) ∧ w'.cell? ⟨Ab, l, none⟩ = some (.int .u32 a1)) ((refine kp6 ?_ (unhide HS); (repeat (with_reducible first | exact unhide Z2 | exact unhide Z0 | exact ((unhide Zb).alloc _).drew | exact (((unhide Zb).alloc _).alloc _).drew | refine Kp.alloc ?_ _ | refine Kp.setCell ?_ (.inr (Nat.le_trans (unhide Zb).size (unhide Q2).nw)) _ | refine Kp.setCell ?_ (.inr (Nat.le_trans (unhide Zb).size (unhide P2).nw)) _)))) (first
                | (go_at_call 13; (with_reducible refine (srfind (unhide HY) (unhide Z0) (unhide ba1) (unhide hF)).mono ?_); rintro e W5 ⟨rfl, K5⟩; have Z2 := hide ((unhide Z0).then K5); clear K5)
                | (go_at_call 13; (with_reducible refine (srfind (unhide HY) ((unhide Zb).alloc _).drew (unhide ba1) (unhide hF)).mono ?_); rintro e W5 ⟨rfl, K5⟩; have P2 := hide ((BoxP.ofd wc).grew K5); have Z2 := hide (((unhide Zb).alloc _).drew.then K5); clear K5; obtain ⟨y0, y1, y2, y3⟩ := (unhide P2).facts))
              all_goals
                go_wp2
                go_meet
                case rel =>
                  with_reducible first
                    | exact ⟨_, rfl, rfl, (fpB (unhide Z2) (unhide P2)).rel⟩
                    | exact ⟨_, rfl, rfl, (fpA (unhide Z2)).rel⟩
            case rest =>
              obtain ⟨q2, rfl, rfl, hcq2, hKK⟩ := hcut
              have HYn := hide ((unhide HY).grew hKK)
              have HSn := hide (kp6 hKK (unhide HS))
              have hKn := hide ((unhide hKb).then hKK)
              clear HY HS hKb
              have HY := hide (unhide HYn)
              have HS := hide (unhide HSn)
              have hKb := hide (unhide hKn)
              clear HYn HSn hKn
              have nn := hide (kp2 hKK (unhide hcq1))
              clear hcq1
              have hcq1 := hide (unhide nn)
              clear nn
              replace hcq2 := hide hcq2
              clear hKK
              go_upto_region 22 with fail
              go_cut [22, 23, 24] (fun c p e wx => ∃ u q, c = .pointer (some ⟨u, 0, none⟩) ∧ p = .pointer (some ⟨q, 0, none⟩) ∧ e = .int .i64 gc ∧ (wx.cell? ⟨u, 0, none⟩ = some (.int .i64 g1) ∧ wx.cell? ⟨u, 1, none⟩ = some (.int .i64 g2) ∧ wx.cell? ⟨u, 2, none⟩ = some (.int .i64 g3) ∧ wx.cell? ⟨u, 3, none⟩ = some (.int .i64 g4) ∧ wx.cell? ⟨u, 4, none⟩ = some (.int .i64 g5)) ∧ (wx.cell? ⟨q, 0, none⟩ = some (.int .i64 g6) ∧ wx.cell? ⟨q, 1, none⟩ = some (.int .i64 g7)) ∧ Kp [] wc wx)
              case first =>
                have Zb := hide (Kp.refl [] wc)
                have Z0 := hide (Kp.refl [] wc).drew
                go_region_held3 (fun w' => w'.cell? ⟨Rb, j * 5, none⟩ = some (.int .i64 k1) ∧ w'.cell? ⟨Rb, j * 5 + 1, none⟩ = some (.int .i64 o1) ∧ w'.cell? ⟨Rb, j * 5 + 2, none⟩ = some (.int .i64 z1) ∧ w'.cell? ⟨Rb, j * 5 + 3, none⟩ = some (.int .i64 bb) ∧ w'.cell? ⟨Rb, j * 5 + 4, none⟩ = some (.int .i64 r1) ∧ w'.cell? ⟨Ab, l, none⟩ = some (.int .u32 a1)) ((refine kp6 ?_ (unhide HS); (repeat (with_reducible first | exact unhide Z2 | exact unhide Z0 | exact ((unhide Zb).alloc _).drew | exact (((unhide Zb).alloc _).alloc _).drew | refine Kp.alloc ?_ _ | refine Kp.setCell ?_ (.inr (Nat.le_trans (unhide Zb).size (unhide Q2).nw)) _ | refine Kp.setCell ?_ (.inr (Nat.le_trans (unhide Zb).size (unhide P2).nw)) _)))) (first
                  | (go_at_call 14; (with_reducible refine (scap (unhide HY) (unhide Z0) (unhide ba1) (unhide hGv)).mono ?_); rintro e W5 ⟨rfl, K5⟩; have Z2 := hide ((unhide Z0).then K5); clear K5)
                  | (go_at_call 14; (with_reducible refine (scap (unhide HY) ((unhide Zb).alloc _).drew (unhide ba1) (unhide hGv)).mono ?_); rintro e W5 ⟨rfl, K5⟩; (with_reducible first | (have P2 := hide ((BoxP.ofd wc).grew K5)) | (have Q2 := hide ((BoxQ.ofd wc).grew K5))); have Z2 := hide (((unhide Zb).alloc _).drew.then K5); clear K5; (try (obtain ⟨y0, y1, y2, y3⟩ := (unhide P2).facts)); (try (obtain ⟨x0, x1, x2, x3, x4, x5, x6⟩ := (unhide Q2).facts)))
                  | (go_at_call 14; (with_reducible refine (scap (unhide HY) (((unhide Zb).alloc _).alloc _).drew (unhide ba1) (unhide hGv)).mono ?_); rintro e W5 ⟨rfl, K5⟩; (with_reducible first | (have P2 := hide ((BoxP.oldd wc).grew K5); have Q2 := hide ((BoxQ.nextd wc).grew K5)) | (have Q2 := hide ((BoxQ.oldd wc).grew K5); have P2 := hide ((BoxP.nextd wc).grew K5))); have Z2 := hide ((((unhide Zb).alloc _).alloc _).drew.then K5); clear K5; obtain ⟨y0, y1, y2, y3⟩ := (unhide P2).facts; obtain ⟨x0, x1, x2, x3, x4, x5, x6⟩ := (unhide Q2).facts))
                all_goals
                  go_wp2
                  go_meet
                  case rel =>
                    with_reducible first
                      | exact ⟨_, _, rfl, rfl, rfl, (cpE (unhide Z2) (unhide Q2) (unhide P2)).rel⟩
                      | exact ⟨_, _, rfl, rfl, rfl, (cpC (unhide Z2) (unhide Q2)).rel⟩
                      | exact ⟨_, _, rfl, rfl, rfl, (cpD (unhide Z2) (unhide P2)).rel⟩
                      | exact ⟨_, _, rfl, rfl, rfl, (cpA (unhide Z2)).rel⟩
                      | exact ⟨_, _, rfl, rfl, rfl, (cpB (unhide Z2)).rel⟩
              case rest =>
                obtain ⟨uq3, q3, rfl, rfl, rfl, huq3, hcq3, hKK⟩ := hcut
                have HYn := hide ((unhide HY).grew hKK)
                have HSn := hide (kp6 hKK (unhide HS))
                have hKn := hide ((unhide hKb).then hKK)
                clear HY HS hKb
                have HY := hide (unhide HYn)
                have HS := hide (unhide HSn)
                have hKb := hide (unhide hKn)
                clear HYn HSn hKn
                have nn := hide (kp2 hKK (unhide hcq1))
                clear hcq1
                have hcq1 := hide (unhide nn)
                clear nn
                have nn := hide (kp2 hKK (unhide hcq2))
                clear hcq2
                have hcq2 := hide (unhide nn)
                clear nn
                replace hcq3 := hide hcq3
                replace huq3 := hide huq3
                clear hKK
                go_upto_region 23 with fail
                go_cut [25, 26, 27] (fun c p e wx => ∃ u q, c = .pointer (some ⟨u, 0, none⟩) ∧ p = .pointer (some ⟨q, 0, none⟩) ∧ e = .int .i64 gc ∧ (wx.cell? ⟨u, 0, none⟩ = some (.int .i64 g1) ∧ wx.cell? ⟨u, 1, none⟩ = some (.int .i64 g2) ∧ wx.cell? ⟨u, 2, none⟩ = some (.int .i64 g3) ∧ wx.cell? ⟨u, 3, none⟩ = some (.int .i64 g4) ∧ wx.cell? ⟨u, 4, none⟩ = some (.int .i64 g5)) ∧ (wx.cell? ⟨q, 0, none⟩ = some (.int .i64 g6) ∧ wx.cell? ⟨q, 1, none⟩ = some (.int .i64 g7)) ∧ Kp [] wc wx)
                case first =>
                  have Zb := hide (Kp.refl [] wc)
                  have Z0 := hide (Kp.refl [] wc).drew
                  go_region_held3 (fun w' => w'.cell? ⟨Rb, j * 5, none⟩ = some (.int .i64 k1) ∧ w'.cell? ⟨Rb, j * 5 + 1, none⟩ = some (.int .i64 o1) ∧ w'.cell? ⟨Rb, j * 5 + 2, none⟩ = some (.int .i64 z1) ∧ w'.cell? ⟨Rb, j * 5 + 3, none⟩ = some (.int .i64 bb) ∧ w'.cell? ⟨Rb, j * 5 + 4, none⟩ = some (.int .i64 r1) ∧ w'.cell? ⟨Ab, l, none⟩ = some (.int .u32 a1)) ((refine kp6 ?_ (unhide HS); (repeat (with_reducible first | exact unhide Z2 | exact unhide Z0 | exact ((unhide Zb).alloc _).drew | exact (((unhide Zb).alloc _).alloc _).drew | refine Kp.alloc ?_ _ | refine Kp.setCell ?_ (.inr (Nat.le_trans (unhide Zb).size (unhide Q2).nw)) _ | refine Kp.setCell ?_ (.inr (Nat.le_trans (unhide Zb).size (unhide P2).nw)) _)))) (first
                    | (go_at_call 15; (with_reducible refine (srcap (unhide HY) (unhide Z0) (unhide ba1) (unhide hGv)).mono ?_); rintro e W5 ⟨rfl, K5⟩; have Z2 := hide ((unhide Z0).then K5); clear K5)
                    | (go_at_call 15; (with_reducible refine (srcap (unhide HY) ((unhide Zb).alloc _).drew (unhide ba1) (unhide hGv)).mono ?_); rintro e W5 ⟨rfl, K5⟩; (with_reducible first | (have P2 := hide ((BoxP.ofd wc).grew K5)) | (have Q2 := hide ((BoxQ.ofd wc).grew K5))); have Z2 := hide (((unhide Zb).alloc _).drew.then K5); clear K5; (try (obtain ⟨y0, y1, y2, y3⟩ := (unhide P2).facts)); (try (obtain ⟨x0, x1, x2, x3, x4, x5, x6⟩ := (unhide Q2).facts)))
                    | (go_at_call 15; (with_reducible refine (srcap (unhide HY) (((unhide Zb).alloc _).alloc _).drew (unhide ba1) (unhide hGv)).mono ?_); rintro e W5 ⟨rfl, K5⟩; (with_reducible first | (have P2 := hide ((BoxP.oldd wc).grew K5); have Q2 := hide ((BoxQ.nextd wc).grew K5)) | (have Q2 := hide ((BoxQ.oldd wc).grew K5); have P2 := hide ((BoxP.nextd wc).grew K5))); have Z2 := hide ((((unhide Zb).alloc _).alloc _).drew.then K5); clear K5; obtain ⟨y0, y1, y2, y3⟩ := (unhide P2).facts; obtain ⟨x0, x1, x2, x3, x4, x5, x6⟩ := (unhide Q2).facts))
                  all_goals
                    go_wp2
                    go_meet
                    case rel =>
                      with_reducible first
                        | exact ⟨_, _, rfl, rfl, rfl, (cpE (unhide Z2) (unhide Q2) (unhide P2)).rel⟩
                        | exact ⟨_, _, rfl, rfl, rfl, (cpC (unhide Z2) (unhide Q2)).rel⟩
                        | exact ⟨_, _, rfl, rfl, rfl, (cpD (unhide Z2) (unhide P2)).rel⟩
                        | exact ⟨_, _, rfl, rfl, rfl, (cpA (unhide Z2)).rel⟩
                        | exact ⟨_, _, rfl, rfl, rfl, (cpB (unhide Z2)).rel⟩
                case rest =>
                  obtain ⟨uq4, q4, rfl, rfl, rfl, huq4, hcq4, hKK⟩ := hcut
                  have HYn := hide ((unhide HY).grew hKK)
                  have HSn := hide (kp6 hKK (unhide HS))
                  have hKn := hide ((unhide hKb).then hKK)
                  clear HY HS hKb
                  have HY := hide (unhide HYn)
                  have HS := hide (unhide HSn)
                  have hKb := hide (unhide hKn)
                  clear HYn HSn hKn
                  have nn := hide (kp2 hKK (unhide hcq1))
                  clear hcq1
                  have hcq1 := hide (unhide nn)
                  clear nn
                  have nn := hide (kp2 hKK (unhide hcq2))
                  clear hcq2
                  have hcq2 := hide (unhide nn)
                  clear nn
                  have nn := hide (kp2 hKK (unhide hcq3))
                  clear hcq3
                  have hcq3 := hide (unhide nn)
                  clear nn
                  have nn := hide (kp5 hKK (unhide huq3))
                  clear huq3
                  have huq3 := hide (unhide nn)
                  clear nn
                  clear hKK
                  obtain ⟨m0, m1⟩ := unhide hcq1
                  obtain ⟨m2, m3⟩ := unhide hcq2
                  obtain ⟨m4, m5⟩ := unhide hcq3
                  obtain ⟨m6, m7⟩ := hcq4
                  obtain ⟨v0, v1, v2, v3, v4⟩ := unhide huq3
                  obtain ⟨v5, v6, v7, v8, v9⟩ := huq4
                  go_wp2
                  go_roundg (6 - (l + 1))
                  case measure => omega
                  case rel => exact ⟨l + 1, by omega, rfl, by go_num, unhide hKb⟩
        · have b2 : decide ((l : Int) < 6) = false := by simp; omega
          replace hK2 := hide hK2
          go_wp2
          go_roundg (3 - (j + 1))
          case measure => omega
          case rel => exact ⟨j + 1, by omega, rfl, by go_num, unhide hK2⟩
    · have b1 : decide ((j : Int) < 3) = false := by simp; omega
      have hB := hide ((unhide HY0).tb.kp.then hK)
      clear hK
      go_wp2
      go_ret
      exact ⟨rfl, (unhide hB).below (Nat.le_refl _) (by simp)⟩
end Go.Proofs.Ytjjgjgncnifjmaa
