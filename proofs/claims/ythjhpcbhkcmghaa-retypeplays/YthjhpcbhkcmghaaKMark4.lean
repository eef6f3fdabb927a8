/- The document's marks: taken, reset. -/
import Derived.Test.YthjhpcbhkcmghaaKMark1
namespace Go.Proofs.Ythjhpcbhkcmghaa
open Go.RowKit
set_option linter.unusedVariables false
theorem Dch.pre {base y : Nat} {w W w' : World} {a : Option Addr} {cap : Nat} {M : List Mk} (h : RM base w y a cap M) (k : Kp [] w W) (T : Dch base y W w') : Dch base y w w' := (Dch.of k).trans T h.nomark
set_option maxRecDepth 4000 in
set_option maxHeartbeats 1000000 in
theorem rreset_calls {base : Nat} {w : World} {y : Nat} {a : Option Addr} {cap : Nat} {M : List Mk} (h : RM base w y a cap M) (b z : Int) (hM : M.length < 65536) :
    Calls Try.prog 16 #[.pointer (some ⟨y, 0, none⟩), .agg #[.int .i64 b, .int .i64 z]] w (RMP base y w (.tuple #[]) (setML M b z 0)) := by
  have H := hide h
  have K0 := hide ((Kp.refl [] w).alloc (.cells #[.int .i64 b, .int .i64 z] 45))
  clear h
  go_enter Try.func16, Try.ntmps16
  go_wp2_with fail
  refine (rset_calls ((unhide H).grew (unhide K0)) b z 0 hM).mono ?_
  rintro e W1 ⟨rfl, hR, hD⟩
  replace hR := hide hR
  replace hD := hide hD
  go_wp2
  exact bodyPost_ret (v := .tuple #[]) (by simp [results, Try.results16, go_sem, *]) rfl ⟨rfl, unhide hR, Dch.pre (unhide H) (unhide K0) (unhide hD)⟩
set_option maxRecDepth 4000 in
set_option maxHeartbeats 1000000 in
theorem rtake_no {base : Nat} {w : World} {y : Nat} {a : Option Addr} {cap : Nat} {M : List Mk} (h : RM base w y a cap M) {b z n u : Int} (hu : usedL M b z = u) (hs : IntKind.i64.wrap (z - u) = z - u) (hno : n < 1 ∨ z - u < n) :
    Calls Try.prog 18 #[.pointer (some ⟨y, 0, none⟩), .agg #[.int .i64 b, .int .i64 z], .int .i64 n] w fun e w' => e = .returned (.tuple #[.int .i64 0, .bool false]) ∧ Kp [] w w' := by
  have H := hide h
  have K0 := hide ((Kp.refl [] w).alloc (.cells #[.int .i64 b, .int .i64 z] 45))
  have B0 := hide (Bk.new w 45 [.int .i64 b, .int .i64 z])
  replace hu := hide hu
  clear h
  go_enter Try.func18, Try.ntmps18
  go_wp2_with fail
  refine (rused_to ((unhide H).grew (unhide K0)) (unhide hu)).mono ?_
  rintro e W1 ⟨rfl, K1⟩
  have z1 := ((unhide B0).kept K1 (by simp)).cell (i := 1) rfl
  have K2 := hide ((unhide K0).then K1)
  clear K1 K0 B0
  by_cases h1 : n < 1
  · clear hno
    go_wp2
    exact bodyPost_ret (v := .tuple #[.int .i64 0, .bool false]) (by simp [results, Try.results18, go_sem, *]) rfl ⟨rfl, unhide K2⟩
  · have h2 : z - u < n := by omega
    have h3 : decide (n < 1) = false := decide_eq_false h1
    clear hno h1
    go_wp2
    exact bodyPost_ret (v := .tuple #[.int .i64 0, .bool false]) (by simp [results, Try.results18, go_sem, *]) rfl ⟨rfl, unhide K2⟩
set_option maxRecDepth 4000 in
set_option maxHeartbeats 1000000 in
theorem rtake_yes {base : Nat} {w : World} {y : Nat} {a : Option Addr} {cap : Nat} {M : List Mk} (h : RM base w y a cap M) {b z n u : Int} (hM : M.length < 65536) (hu : usedL M b z = u) (hs : IntKind.i64.wrap (z - u) = z - u) (ha : IntKind.i64.wrap (u + n) = u + n) (hb : IntKind.i64.wrap (b + u) = b + u) (h1 : 1 ≤ n) (h2 : n ≤ z - u) :
    Calls Try.prog 18 #[.pointer (some ⟨y, 0, none⟩), .agg #[.int .i64 b, .int .i64 z], .int .i64 n] w (RMP base y w (.tuple #[.int .i64 (b + u), .bool true]) (setML M b z (u + n))) := by
  have H := hide h
  have K0 := hide ((Kp.refl [] w).alloc (.cells #[.int .i64 b, .int .i64 z] 45))
  have B0 := hide (Bk.new w 45 [.int .i64 b, .int .i64 z])
  have hy := hide h.lt
  replace hu := hide hu
  clear h
  go_enter Try.func18, Try.ntmps18
  go_wp2_with fail
  refine (rused_to ((unhide H).grew (unhide K0)) (unhide hu)).mono ?_
  rintro e W1 ⟨rfl, K1⟩
  have B1 := hide ((unhide B0).kept K1 (by simp))
  have z0 := (unhide B1).cell (i := 0) rfl
  have z1 := (unhide B1).cell (i := 1) rfl
  have K2 := hide ((unhide K0).then K1)
  have hd1 : decide (n < 1) = false := decide_eq_false (by omega)
  have hd2 : decide (z - u < n) = false := decide_eq_false (by omega)
  clear K1 K0 B0 h1 h2
  go_wp2_with fail
  refine (rset_calls ((unhide H).grew (unhide K2)) b z (u + n) hM).mono ?_
  rintro e W2 ⟨rfl, hR, hD⟩
  have x0 := (hD.bk (unhide B1) (by have := unhide hy; omega) (by decide)).cell (i := 0) rfl
  replace hR := hide hR
  replace hD := hide hD
  clear z0 z1
  go_wp2
  exact bodyPost_ret (v := .tuple #[.int .i64 (b + u), .bool true]) (by simp [results, Try.results18, go_sem, *]) rfl ⟨rfl, unhide hR, Dch.pre (unhide H) (unhide K2) (unhide hD)⟩
end Go.Proofs.Ythjhpcbhkcmghaa
