/- The program's maps: Clear, Look. -/
import Derived.Test.YtlallciikcmjmaaKSpc1
import Derived.Test.YtlallciikcmjmaaKWord
namespace Go.Proofs.Ytlallciikcmjmaa
open Go.RowKit
set_option linter.unusedVariables false
/-- What is left without a page. -/
def pgDel (L : List Pg) (s p : Int) : List Pg := L.filter fun x => !(x.s == s && x.p == p)
theorem pgDel_kv (L : List Pg) (s p : Int) : Gm.without (s, p) (L.map kvPg) = (pgDel L s p).map kvPg := by
  unfold Gm.without pgDel
  rw [List.filter_map]
  congr 1
  refine List.filter_congr fun x _ => ?_
  show (!decide ((x.s, x.p) = (s, p))) = _
  rw [show decide ((x.s, x.p) = (s, p)) = (x.s == s && x.p == p) from by rw [Bool.eq_iff_iff]; simp]
theorem pgDel_none {L : List Pg} {s p : Int} (h : pgAt L s p = none) : pgDel L s p = L := by
  unfold pgDel
  rw [List.filter_eq_self]
  intro x hx
  have := pgAt_none.1 h x hx
  cases hb : (x.s == s && x.p == p) with
  | false => rfl
  | true =>
    rw [Bool.and_eq_true, beq_iff_eq, beq_iff_eq] at hb
    exact absurd hb this
theorem PgRises.filter {L : List Pg} (h : PgRises L) (f : Pg → Bool) : PgRises (L.filter f) := List.Pairwise.filter f h
theorem pgDel_some {L : List Pg} {s p : Int} {i : Nat} (hr : PgRises L) (h : pgAt L s p = some i) : L.eraseIdx i = pgDel L s p := by
  obtain ⟨x, hx, e1, e2⟩ := pgAt_some h
  subst e1 e2
  obtain ⟨hlt, hje⟩ := List.getElem?_eq_some_iff.1 hx
  have e : L = L.take i ++ x :: L.drop (i + 1) := by rw [← hje, List.getElem_cons_drop, List.take_append_drop]
  have hr' : PgRises (L.take i ++ x :: L.drop (i + 1)) := by rw [← e]; exact hr
  unfold PgRises at hr'
  rw [List.pairwise_append] at hr'
  obtain ⟨_, h2, h3⟩ := hr'
  rw [List.pairwise_cons] at h2
  rw [List.eraseIdx_eq_take_drop_succ]
  conv => rhs; rw [e]
  unfold pgDel
  rw [List.filter_append, List.filter_cons_of_neg (by simp), List.filter_eq_self.2, List.filter_eq_self.2]
  · intro z hz
    have h4 := (pgBef_iff _ _ _ _).1 (h2.1 z hz)
    simp
    omega
  · intro z hz
    have h4 := (pgBef_iff _ _ _ _).1 (h3 z hz x (by simp))
    simp
    omega
theorem SpO.del {w : World} {m : Option Nat} {L : List Pg} (h : SpO w m L) {s p : Int} (hi : PgIn (s, p)) (ty : TypeId) :
    ∃ w', (Builtin.delete_ #[24, 30] ty #[.map m, .agg #[.int .i64 s, .int .i64 p]]).run Try.prog w = .ok (.tuple #[]) w' ∧ SpO w' m (pgDel L s p) ∧ Kp m.toList w w' := by
  cases m with
  | none =>
    have e : L = [] := h
    subst e
    exact ⟨w, Gm.del_nil (K := pgK) Try.underlying24 (q := (s, p)) hi ty, rfl, Kp.refl _ _⟩
  | some b =>
    cases hg : pgGet L s p with
    | none =>
      have hn := pgGet_none hg
      obtain ⟨w', h1, h2, h3⟩ := Gm.Mp.del_miss h Try.underlying24 (q := (s, p)) hi (pg_miss hn) ty
      exact ⟨w', h1, by rw [pgDel_none hn]; exact h2, h3⟩
    | some x =>
      obtain ⟨hx, e1, e2⟩ := pgGet_mem hg
      subst e1 e2
      obtain ⟨w', h1, h2, h3⟩ := Gm.Mp.del h Try.underlying24 (q := (x.s, x.p)) (v0 := .agg #[.int .i64 x.f, .int .i64 x.r]) (List.mem_map.2 ⟨x, hx, rfl⟩) ty
      rw [pgDel_kv] at h2
      exact ⟨w', h1, h2, h3⟩
theorem SP.filt {w w' : World} {y : Nat} {m : Option Nat} {L : List Pg} (h : SP w y m L) (f : Pg → Bool) (hb : Bk w' y 26 [.map m]) (ho : SpO w' m (L.filter f)) : SP w' y m (L.filter f) :=
  ⟨hb, ho, h.rises.filter f, fun x hx => h.ok x ((List.mem_filter.1 hx).1), by have := List.length_filter_le f L; have := h.small; omega⟩
set_option maxRecDepth 4000 in
set_option maxHeartbeats 1000000 in
theorem sclear_calls {w : World} {y : Nat} {m : Option Nat} {L : List Pg} (h : SP w y m L) {s p : Int} (hi : PgIn (s, p)) :
    Calls Try.prog 13 #[.pointer (some ⟨y, 0, none⟩), .agg #[.int .i64 s, .int .i64 p]] w (SPP w y m (pgDel L s p) (.bool (pgGet L s p).isSome)) := by
  obtain ⟨a, b, hV⟩ := mapV_form (pgGet L s p)
  obtain ⟨is, hIs⟩ : ∃ is, (pgGet L s p).isSome = is := ⟨_, rfl⟩
  have hS : Hid (∀ w', Kp [] (w.alloc (.cells #[.int .i64 s, .int .i64 p] 30)) w' → w'.cell? ⟨y, 0, none⟩ = some (.map m) ∧ w'.cell? ⟨w.heap.size, 0, none⟩ = some (.int .i64 s) ∧ w'.cell? ⟨w.heap.size, 1, none⟩ = some (.int .i64 p) ∧ (Instr.lookup 24 (.map m) (.agg #[.int .i64 s, .int .i64 p]) true).run Try.prog w' = .ok (.tuple #[.agg #[.int .i64 a, .int .i64 b], .bool is]) w') := fun w' K => by
    obtain ⟨B, K1⟩ := box_pg K
    obtain ⟨q1, q2⟩ := h.first K1 hi hV hIs
    exact ⟨q1, B.cell rfl, B.cell rfl, q2⟩
  rw [hIs]
  have H := hide h
  have K0 := hide (Kp.refl [] (w.alloc (.cells #[.int .i64 s, .int .i64 p] 30)))
  have KW := hide ((Kp.refl [] w).alloc (.cells #[.int .i64 s, .int .i64 p] 30))
  have B0 := hide (Bk.new w 30 [.int .i64 s, .int .i64 p])
  have hnb : Hid (y ∉ m.toList ∧ w.heap.size ∉ m.toList) := by
    refine ⟨fun mm => ?_, fun mm => ?_⟩
    · exact h.ne y (Option.mem_toList.1 mm) rfl
    · have := h.lt _ (Option.mem_toList.1 mm)
      omega
  clear h hV hIs
  go_enter Try.func13, Try.ntmps13
  go_wp2_with fail
  have hw1 : (w.alloc (.cells #[.int .i64 s, .int .i64 p] 30)).heap.size = w.heap.size + 1 := by simp
  generalize w.alloc (.cells #[.int .i64 s, .int .i64 p] 30) = w1 at *
  go_region_held3 (fun w' => w'.cell? ⟨y, 0, none⟩ = some (.map m) ∧ w'.cell? ⟨w.heap.size, 0, none⟩ = some (.int .i64 s) ∧ w'.cell? ⟨w.heap.size, 1, none⟩ = some (.int .i64 p) ∧ (Instr.lookup 24 (.map m) (.agg #[.int .i64 s, .int .i64 p]) true).run Try.prog w' = .ok (.tuple #[.agg #[.int .i64 a, .int .i64 b], .bool is]) w') (first | exact unhide hS _ ((unhide K0).drew) | exact unhide hS _ (((unhide K0).alloc _).drew)) (fail)
  all_goals
    have K2 := hide (((Kp.refl [] w1).alloc (.cells #[.int .i64 a, .int .i64 b] 34)).drew)
    generalize (w1.alloc (.cells #[.int .i64 a, .int .i64 b] 34)).drew = w3 at *
    have K3 := hide ((unhide KW).then (unhide K2))
    have P3 := hide ((unhide H).grew (unhide K3))
    have B3 := hide ((unhide B0).kept (unhide K2) (by simp))
    obtain ⟨W6, hdl, hM6, hK6⟩ := SpO.del (w := w3.drew) (((unhide P3).mo).kept ((Kp.refl [] w3).drew) (by simp)) hi 0
    have hdel : ∀ ty, (Builtin.delete_ #[24, 30] ty #[.map m, .agg #[.int .i64 s, .int .i64 p]]).run Try.prog w3.drew = .ok (.tuple #[]) W6 := fun ty => hdl
    have hS2 : Hid (∀ w', Kp m.toList w3 w' → w'.cell? ⟨y, 0, none⟩ = some (.map m) ∧ w'.cell? ⟨w.heap.size, 0, none⟩ = some (.int .i64 s) ∧ w'.cell? ⟨w.heap.size, 1, none⟩ = some (.int .i64 p)) := fun w' kk => ⟨((unhide P3).head.kept kk (unhide hnb).1).cell rfl, ((unhide B3).kept kk (unhide hnb).2).cell rfl, ((unhide B3).kept kk (unhide hnb).2).cell rfl⟩
    have K5 := hide (Kp.refl m.toList w3).drew
    have K6 := hide ((Kp.refl m.toList w3).drew.then hK6)
    replace hM6 := hide hM6
    have cc := unhide hS2 _ (unhide K5)
    clear hdl hK6
    go_wp2_with fail
    go_region_held3 (fun w' => w'.cell? ⟨y, 0, none⟩ = some (.map m) ∧ w'.cell? ⟨w.heap.size, 0, none⟩ = some (.int .i64 s) ∧ w'.cell? ⟨w.heap.size, 1, none⟩ = some (.int .i64 p)) (first | exact unhide hS2 _ (unhide K5) | exact unhide hS2 _ (unhide K6)) (fail)
    all_goals
      go_wp2
      refine bodyPost_ret (v := .bool is) (by simp [results, Try.results13, go_sem, *]) rfl ⟨rfl, m, ?_, ?_, fun b e => .inl e⟩
      · exact (unhide H).filt _ ((unhide P3).head.kept (unhide K6) (unhide hnb).1) (unhide hM6)
      · exact (unhide K3).trans (unhide K6) (by simp) (fun i q => .inl (by simp only [List.mem_cons]; exact .inr q))
theorem wrap64_inj {a b : Nat} (ha : a < 18446744073709551616) (hb : b < 18446744073709551616) (h : IntKind.i64.wrap (a : Int) = IntKind.i64.wrap (b : Int)) : a = b := by
  rw [IntKind.wrap_i64, IntKind.wrap_i64] at h
  omega
theorem wrap64_of {r : Int} (h1 : -9223372036854775808 ≤ r) (h2 : r ≤ 9223372036854775807) : IntKind.i64.wrap ((BitVec.ofInt 64 r).toNat : Int) = r := by
  rw [BitVec.toNat_ofInt, IntKind.wrap_i64]
  omega
/-- None of these that isn't one of those. -/
theorem andNot_no {r x : Int} (h1 : -9223372036854775808 ≤ r) (h2 : r ≤ 9223372036854775807) : bits .andNot .i64 r x = 0 ↔ bits .and .i64 x r = r := by
  show IntKind.i64.wrap ((BitVec.ofInt 64 r &&& ~~~ BitVec.ofInt 64 x).toNat : Int) = 0 ↔ IntKind.i64.wrap ((BitVec.ofInt 64 x &&& BitVec.ofInt 64 r).toNat : Int) = r
  have hr := wrap64_of h1 h2
  generalize BitVec.ofInt 64 r = R at *
  generalize BitVec.ofInt 64 x = X at *
  have e : (R &&& ~~~X = 0#64) ↔ (X &&& R = R) := by
    constructor
    · intro h
      refine BitVec.eq_of_getLsbD_eq fun i hi => ?_
      have h9 := congrArg (fun v : BitVec 64 => v.getLsbD i) h
      simp [hi] at h9 ⊢
      exact h9
    · intro h
      refine BitVec.eq_of_getLsbD_eq fun i hi => ?_
      have h9 := congrArg (fun v : BitVec 64 => v.getLsbD i) h
      simp [hi] at h9 ⊢
      exact h9
  constructor
  · intro h
    have h0 : IntKind.i64.wrap ((0 : Nat) : Int) = 0 := by rw [IntKind.wrap_i64]; omega
    have := wrap64_inj (R &&& ~~~X).isLt (by decide) (h.trans h0.symm)
    rw [e.1 (BitVec.eq_of_toNat_eq (by rw [this]; rfl)), hr]
  · intro h
    have := wrap64_inj (X &&& R).isLt R.isLt (h.trans hr.symm)
    rw [e.2 (BitVec.eq_of_toNat_eq this)]
    rfl
theorem field9 (a : Int) (h0 : 0 ≤ a) (h1 : a < 4294967296) (w : World) :
    Calls Try.prog 38 #[.int .u32 a, .int .i64 0, .int .i64 9] w fun e w' => e = .returned (.int .u32 (a % 512)) ∧ Kp [] w w' := by
  refine (field_calls a 0 9 w h0 h1).mono ?_
  rintro e w' ⟨rfl, k, rfl⟩
  refine ⟨ret_int ?_, (Kp.refl [] w).drewN k⟩
  have e9 : (widthOf 0 9).toNat = 9 := by decide
  rw [e9]
  unfold fldN
  simp
  omega
theorem pgLook_none {L : List Pg} {s a n r : Int} (h : pgGet L s (a / 512) = none) : pgLook L s a n r = none := by
  unfold pgLook
  rw [h]
  split <;> rfl
theorem pgLook_some {L : List Pg} {s a n r : Int} {x : Pg} (h : pgGet L s (a / 512) = some x) (hok : ∀ x ∈ L, pageOk x.s x.p = true) : pgLook L s a n r = if n < 0 ∨ n > 512 - a % 512 ∨ bits .and .i64 x.r r ≠ r then none else some (x.f, a % 512) := by
  unfold pgLook
  obtain ⟨hx, e1, e2⟩ := pgGet_mem h
  have h9 := hok x hx
  unfold pageOk at h9
  simp only [Bool.and_eq_true, decide_eq_true_iff] at h9
  rw [if_neg (by omega), h]
set_option maxRecDepth 4000 in
set_option maxHeartbeats 1000000 in
theorem slook_calls {w : World} {y : Nat} {m : Option Nat} {L : List Pg} (h : SP w y m L) {s a n r : Int} (hs : -9223372036854775808 ≤ s ∧ s ≤ 9223372036854775807) (h0 : 0 ≤ a) (h1 : a < 4294967296) (hr : -9223372036854775808 ≤ r ∧ r ≤ 9223372036854775807) :
    Calls Try.prog 24 #[.pointer (some ⟨y, 0, none⟩), .int .i64 s, .int .u32 a, .int .i64 n, .int .i64 r] w fun e w' => e = .returned (lookV (pgLook L s a n r)) ∧ Kp [] w w' := by
  have hi : PgIn (s, a / 512) := pgIn_of hs (by omega)
  have H := hide h
  obtain ⟨o, ho⟩ : ∃ o, pgGet L s (a / 512) = o := ⟨_, rfl⟩
  cases o with
  | none =>
    have hv := hide (pgLook_none (n := n) (r := r) ho)
    have hS : Hid (∀ w', Kp [] w w' → w'.cell? ⟨y, 0, none⟩ = some (.map m) ∧ (Instr.lookup 24 (.map m) (.agg #[.int .i64 s, .int .i64 (a / 512)]) true).run Try.prog w' = .ok (.tuple #[.agg #[.int .i64 0, .int .i64 0], .bool false]) w') := fun w' K => h.first K hi (by rw [ho]; rfl) (by rw [ho]; rfl)
    clear h ho hi
    go_enter Try.func24, Try.ntmps24
    go_wp2_with fail
    refine (field9 a h0 h1 _).mono ?_
    rintro e W1 ⟨rfl, K1⟩
    obtain ⟨c0, c1⟩ := unhide hS _ K1
    replace K1 := hide K1
    go_wp2
    refine bodyPost_ret (v := .tuple #[.int .i64 0, .int .i64 0, .bool false]) (by simp [results, Try.results24, go_sem, *]) rfl ⟨by rw [unhide hv]; rfl, (unhide K1).alloc _⟩
  | some x =>
    have hv := hide (pgLook_some (n := n) (r := r) ho h.ok)
    have hS : Hid (∀ w', Kp [] w w' → w'.cell? ⟨y, 0, none⟩ = some (.map m) ∧ (Instr.lookup 24 (.map m) (.agg #[.int .i64 s, .int .i64 (a / 512)]) true).run Try.prog w' = .ok (.tuple #[.agg #[.int .i64 x.f, .int .i64 x.r], .bool true]) w') := fun w' K => h.first K hi (by rw [ho]; rfl) (by rw [ho]; rfl)
    have hN := hide (andNot_no (x := x.r) hr.1 hr.2)
    obtain ⟨xs, xp, xf, xr⟩ := x
    simp only at hv hS hN
    clear h ho hi
    obtain ⟨q1, hq1⟩ : ∃ q, decide (n < 0) = q := ⟨_, rfl⟩
    obtain ⟨q2, hq2⟩ : ∃ q, decide (512 - a % 512 < n) = q := ⟨_, rfl⟩
    obtain ⟨q3, hq3⟩ : ∃ q, (bits .andNot .i64 r xr != 0) = q := ⟨_, rfl⟩
    have hlook : Hid (pgLook L s a n r = if q1 || (q2 || q3) then none else some (xf, a % 512)) := by
      unfold Hid
      rw [unhide hv, ← hq1, ← hq2, ← hq3]
      have e : (n < 0 ∨ n > 512 - a % 512 ∨ bits .and .i64 xr r ≠ r) ↔ (decide (n < 0) || (decide (512 - a % 512 < n) || (bits .andNot .i64 r xr != 0))) = true := by
        simp only [Bool.or_eq_true, decide_eq_true_iff, bne_iff_ne, ne_eq, unhide hN]
      by_cases hh : (n < 0 ∨ n > 512 - a % 512 ∨ bits .and .i64 xr r ≠ r)
      · rw [if_pos hh, if_pos (e.1 hh)]
      · rw [if_neg hh, if_neg (fun q => hh (e.2 q))]
    clear hv hN
    cases q1 <;> cases q2 <;> cases q3 <;>
    · go_enter Try.func24, Try.ntmps24
      go_wp2_with fail
      refine (field9 a h0 h1 _).mono ?_
      rintro e W1 ⟨rfl, K1⟩
      obtain ⟨c0, c1⟩ := unhide hS _ K1
      replace K1 := hide K1
      go_wp2
      first
        | exact bodyPost_ret (v := .tuple #[.int .i64 0, .int .i64 0, .bool false]) (by simp [results, Try.results24, go_sem, *]) rfl ⟨by rw [unhide hlook]; rfl, (unhide K1).alloc _⟩
        | exact bodyPost_ret (v := .tuple #[.int .i64 xf, .int .i64 (a % 512), .bool true]) (by simp [results, Try.results24, go_sem, *]) rfl ⟨by rw [unhide hlook]; rfl, (unhide K1).alloc _⟩
end Go.Proofs.Ytlallciikcmjmaa
