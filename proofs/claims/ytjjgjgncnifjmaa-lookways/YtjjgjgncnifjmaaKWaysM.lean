/- The mathematics of LookWays. -/
import Derived.Test.YtjjgjgncnifjmaaKGuardM
import Derived.Test.YtjjgjgncnifjmaaKTbD
namespace Go.Proofs.Ytjjgjgncnifjmaa
open Go.RowKit
set_option linter.unusedVariables false
/-- The slots from the i-th on, m of them, one behind the other. -/
def tvF (kf : Nat → Nat) : Nat → Nat → Nat
  | _, 0 => 0
  | i, m + 1 => kf i * 16 ^ m + tvF kf (i + 1) m
/-- As they come to be: the next one behind those that are there. -/
def wvF (kf : Nat → Nat) : Nat → Nat
  | 0 => 0
  | j + 1 => wvF kf j * 16 + kf j
theorem tv_last (kf : Nat → Nat) (m : Nat) : ∀ i, tvF kf i (m + 1) = tvF kf i m * 16 + kf (i + m) := by
  induction m with
  | zero => intro i; simp [tvF]
  | succ m ih =>
    intro i
    have e1 : tvF kf i (m + 1 + 1) = kf i * 16 ^ (m + 1) + tvF kf (i + 1) (m + 1) := rfl
    have e2 : tvF kf i (m + 1) = kf i * 16 ^ m + tvF kf (i + 1) m := rfl
    have e3 : kf i * 16 ^ (m + 1) = kf i * 16 ^ m * 16 := by rw [Nat.pow_succ, Nat.mul_assoc]
    have e4 := ih (i + 1)
    have e5 : i + 1 + m = i + (m + 1) := by omega
    rw [e5] at e4
    omega
theorem wv_tv (kf : Nat → Nat) (n : Nat) : wvF kf n = tvF kf 0 n := by
  induction n with
  | zero => rfl
  | succ n ih =>
    have e := tv_last kf n 0
    have e2 : wvF kf (n + 1) = wvF kf n * 16 + kf n := rfl
    rw [e, e2, ih, Nat.zero_add]
theorem tv_lt {kf : Nat → Nat} (hk : ∀ i, kf i < 16) (m : Nat) : ∀ i, tvF kf i m < 16 ^ m := by
  induction m with
  | zero => intro i; exact Nat.one_pos
  | succ m ih =>
    intro i
    have e1 : tvF kf i (m + 1) = kf i * 16 ^ m + tvF kf (i + 1) m := rfl
    have h1 := ih (i + 1)
    have h2 : (kf i + 1) * 16 ^ m ≤ 16 * 16 ^ m := Nat.mul_le_mul_right _ (hk i)
    rw [Nat.add_mul, Nat.one_mul] at h2
    rw [e1, Nat.pow_succ]
    omega
theorem four_pow (k : Nat) : 2 ^ (4 * k) = 16 ^ k := by rw [Nat.pow_mul]
/-- A node, to this object. -/
def nodeAt (x : Sl) (o : Int) : Prop := x.k = 2 ∧ x.o = o ∧ x.z = 0 ∧ x.b = 0 ∧ x.r = 7
/-- One node of the way. -/
theorem way_step {L : List Sl} {kf : Nat → Nat} (hk : ∀ i, kf i < 16) {m i f : Nat} {r : Int} (h6 : m + 1 ≤ 6) (h64 : i + m + 1 ≤ 64) (hr : 0 ≤ r ∧ r ≤ 7) :
    goL L (f + 1) 2 (1 + (i : Int)) 0 0 r (tvF kf i (m + 1) : Int) ((4 * (m + 1) : Nat) : Int) = if 4 * m = 0 then some (1 + (i : Int), (kf i : Int)) else (match lkS L (1 + (i : Int)) (kf i) with | none => none | some x => goL L f x.k x.o x.z x.b x.r (tvF kf (i + 1) m : Int) ((4 * m : Nat) : Int)) := by
  have hv := tv_lt hk m (i + 1)
  have hki := hk i
  have h := goL_node (L := L) (m := f) (z := 0) (l := 4 * m) (o := 1 + (i : Int)) (b := 0) (r := r) (k := kf i) (v := tvF kf (i + 1) m) (by omega) (by omega) (by omega) hr ⟨by omega, by decide⟩ (by omega) ⟨by omega, by rw [four_pow]; omega⟩
  have e : ((0 * 16 + (kf i : Int)) * ((2 ^ (4 * m) : Nat) : Int) + (tvF kf (i + 1) m : Int)) = (tvF kf i (m + 1) : Int) := by
    have e1 : tvF kf i (m + 1) = kf i * 16 ^ m + tvF kf (i + 1) m := rfl
    rw [e1, four_pow, Int.natCast_add, Int.natCast_mul]; simp
  have e2 : ((0 + 4 + 4 * m : Nat) : Int) = ((4 * (m + 1) : Nat) : Int) := by omega
  rw [e, e2] at h
  exact h
theorem way_go {L : List Sl} {kf : Nat → Nat} (hk : ∀ i, kf i < 16) (m : Nat) : ∀ (i f : Nat) (r : Int), (∀ j, i ≤ j → j < i + m → ∃ x, lkS L (1 + (j : Int)) (kf j) = some x ∧ nodeAt x (2 + (j : Int))) → m + 1 ≤ f → m + 1 ≤ 6 → i + m + 1 ≤ 64 → 0 ≤ r ∧ r ≤ 7 →
    goL L f 2 (1 + (i : Int)) 0 0 r (tvF kf i (m + 1) : Int) ((4 * (m + 1) : Nat) : Int) = some (1 + ((i + m : Nat) : Int), (kf (i + m) : Int)) := by
  induction m with
  | zero =>
    intro i f r _ hf h6 h64 hr
    obtain ⟨f, rfl⟩ : ∃ f', f = f' + 1 := ⟨f - 1, by omega⟩
    rw [way_step hk h6 h64 hr, if_pos rfl]
    rfl
  | succ m ih =>
    intro i f r hn hf h6 h64 hr
    obtain ⟨f, rfl⟩ : ∃ f', f = f' + 1 := ⟨f - 1, by omega⟩
    obtain ⟨x, hx, x1, x2, x3, x4, x5⟩ := hn i (by omega) (by omega)
    rw [way_step hk h6 h64 hr, if_neg (by omega), hx]
    simp only [x1, x2, x3, x4, x5]
    have h := ih (i + 1) f 7 (fun j h1 h2 => hn j (by omega) (by omega)) (by omega) (by omega) (by omega) (by omega)
    have e1 : 1 + ((i + 1 : Nat) : Int) = 2 + (i : Int) := by omega
    have e2 : i + 1 + m = i + (m + 1) := by omega
    rw [e1, e2] at h
    exact h
theorem way_broken {L : List Sl} {kf : Nat → Nat} (hk : ∀ i, kf i < 16) (b : Nat) : ∀ (i m f : Nat) (r : Int), (∀ j, i ≤ j → j < i + b → ∃ x, lkS L (1 + (j : Int)) (kf j) = some x ∧ nodeAt x (2 + (j : Int))) → (∀ x, lkS L (1 + ((i + b : Nat) : Int)) (kf (i + b)) = some x → x.k ≠ 2) → b < m → m + 1 ≤ 6 → i + m + 1 ≤ 64 → 0 ≤ r ∧ r ≤ 7 →
    goL L f 2 (1 + (i : Int)) 0 0 r (tvF kf i (m + 1) : Int) ((4 * (m + 1) : Nat) : Int) = none := by
  induction b with
  | zero =>
    intro i m f r _ hb hm h6 h64 hr
    cases f with
    | zero => rfl
    | succ f =>
      rw [way_step hk h6 h64 hr, if_neg (by omega)]
      cases hx : lkS L (1 + (i : Int)) (kf i) with
      | none => rfl
      | some x => exact goL_other (hb x hx)
  | succ b ih =>
    intro i m f r hn hb hm h6 h64 hr
    cases f with
    | zero => rfl
    | succ f =>
      obtain ⟨x, hx, x1, x2, x3, x4, x5⟩ := hn i (by omega) (by omega)
      obtain ⟨m, rfl⟩ : ∃ m', m = m' + 1 := ⟨m - 1, by omega⟩
      rw [way_step hk h6 h64 hr, if_neg (by omega), hx]
      simp only [x1, x2, x3, x4, x5]
      have h := ih (i + 1) m f 7 (fun j h1 h2 => hn j (by omega) (by omega)) (by rw [show i + 1 + b = i + (b + 1) by omega]; exact hb) (by omega) (by omega) (by omega) (by omega)
      have e1 : 1 + ((i + 1 : Nat) : Int) = 2 + (i : Int) := by omega
      rw [e1] at h
      exact h
/-- The table when j nodes were put. -/
structure Ws (kf : Nat → Nat) (j : Nat) (L : List Sl) : Prop where
  nd : ∀ i, i < j → ∃ x, lkS L (1 + (i : Int)) (kf i) = some x ∧ nodeAt x (2 + (i : Int))
  no : ∀ m s : Int, (j : Int) < m → lkS L m s = none
  len : L.length ≤ j
theorem ws_zero (kf : Nat → Nat) : Ws kf 0 [] := ⟨fun i h => absurd h (by omega), fun m s _ => rfl, by simp⟩
theorem place_of {n s : Int} (h1 : 1 ≤ n) (h2 : n ≤ 64) (h3 : 0 ≤ s) (h4 : s < 16) : placeOk n s = true := by rw [placeOk_iff]; unfold placeP; omega
theorem ws_put {kf : Nat → Nat} (hk : ∀ i, kf i < 16) {j : Nat} {L : List Sl} (h : Ws kf j L) (hj : j ≤ 5) :
    putP L (1 + (j : Int)) (kf j) 2 (2 + (j : Int)) 0 0 7 0 0 ∧ Ws kf (j + 1) (insL L ⟨1 + (j : Int), (kf j : Int), 0, 0, 2, 2 + (j : Int), 0, 0, 7⟩) := by
  have hkj := hk j
  have hn := h.no (1 + (j : Int)) (kf j) (by omega)
  refine ⟨⟨place_of (by omega) (by omega) (by omega) (by omega), at_none hn, ?_, .inl ⟨rfl, rfl⟩⟩, ⟨fun i hi => ?_, fun m s hm => ?_, ?_⟩⟩
  · rw [chk_iff]
    refine ⟨by omega, by omega, by omega, ?_⟩
    unfold fitP
    rw [if_neg (by omega), if_pos rfl]
    exact ⟨by omega, by omega, by omega, by decide⟩
  · rw [lk_ins hn]
    by_cases e : i = j
    · subst e
      rw [if_pos ⟨rfl, rfl⟩]
      exact ⟨_, rfl, rfl, rfl, rfl, rfl, rfl⟩
    · rw [if_neg (fun q => e (by have := q.1; simp only at this; omega))]
      exact h.nd i (by omega)
  · rw [lk_ins hn, if_neg (fun q => by have := q.1; simp only at this; omega)]
    exact h.no m s (by omega)
  · rw [ins_len]
    have := h.len
    omega
/-- The whole way, and what lies at its end. -/
structure We (kf : Nat → Nat) (n : Nat) (L : List Sl) : Prop where
  nd : ∀ i, i + 1 < n → ∃ x, lkS L (1 + (i : Int)) (kf i) = some x ∧ nodeAt x (2 + (i : Int))
  at_end : lkS L n (kf (n - 1)) = some ⟨n, kf (n - 1), 0, 0, 3, 9, 0, 0, 0⟩
  len : L.length ≤ 20
theorem we_of {kf : Nat → Nat} (hk : ∀ i, kf i < 16) {n : Nat} {L : List Sl} (h : Ws kf (n - 1) L) (h1 : 1 ≤ n) (h5 : n ≤ 5) :
    putP L n (kf (n - 1)) 3 9 0 0 0 0 0 ∧ We kf n (insL L ⟨n, kf (n - 1), 0, 0, 3, 9, 0, 0, 0⟩) := by
  have hkj := hk (n - 1)
  have hn := h.no n (kf (n - 1)) (by omega)
  refine ⟨⟨place_of (by omega) (by omega) (by omega) (by omega), at_none hn, by decide, .inl ⟨rfl, rfl⟩⟩, ⟨fun i hi => ?_, ?_, ?_⟩⟩
  · rw [lk_ins hn, if_neg (fun q => by have := q.1; simp only at this; omega)]
    exact h.nd i (by omega)
  · rw [lk_ins hn, if_pos ⟨rfl, rfl⟩]
  · rw [ins_len]
    have := h.len
    omega
theorem find_way {kf : Nat → Nat} (hk : ∀ i, kf i < 16) {n : Nat} (h1 : 1 ≤ n) (h5 : n ≤ 5) : ∃ V A : Int, (wvF kf n : Int) = V ∧ joinN V (4 * (n : Int)) = A ∧ (0 ≤ A ∧ A < 4294967296) ∧ ∀ L, (findL L 2 1 0 0 0 A = goL L 6 2 (1 + ((0 : Nat) : Int)) 0 0 0 (tvF kf 0 (n - 1 + 1) : Int) ((4 * (n - 1 + 1) : Nat) : Int)) := by
  have hv := tv_lt hk n 0
  rw [← four_pow, ← wv_tv] at hv
  have e4 : (4 * (n : Int)) = ((4 * n : Nat) : Int) := by omega
  have key : ∀ L, joinN (wvF kf n) (4 * (n : Int)) = (wvF kf n : Int) * 256 + 4 * (n : Int) ∧ (0 ≤ (wvF kf n : Int) * 256 + 4 * (n : Int) ∧ (wvF kf n : Int) * 256 + 4 * (n : Int) < 4294967296) ∧ findL L 2 1 0 0 0 ((wvF kf n : Int) * 256 + 4 * (n : Int)) = goL L 6 2 1 0 0 0 (wvF kf n) (4 * (n : Int)) := fun L =>
    findL_join (by omega) (by omega) (by omega) (by rw [e4, Int.toNat_natCast]; omega)
  refine ⟨_, _, rfl, (key []).1, (key []).2.1, fun L => (key L).2.2.trans ?_⟩
  rw [show n - 1 + 1 = n by omega, ← wv_tv, e4]
  rfl
theorem ws_find {kf : Nat → Nat} (hk : ∀ i, kf i < 16) {n : Nat} {L : List Sl} (h1 : 1 ≤ n) (h5 : n ≤ 5) (h : ∀ i, i + 1 < n → ∃ x, lkS L (1 + (i : Int)) (kf i) = some x ∧ nodeAt x (2 + (i : Int))) :
    goL L 6 2 (1 + ((0 : Nat) : Int)) 0 0 0 (tvF kf 0 (n - 1 + 1) : Int) ((4 * (n - 1 + 1) : Nat) : Int) = some ((n : Int), (kf (n - 1) : Int)) := by
  have q := way_go hk (n - 1) 0 6 0 (fun j _ hj => h j (by omega)) (by omega) (by omega) (by omega) (by omega)
  rw [Nat.zero_add] at q
  rw [q]
  have e : 1 + ((n - 1 : Nat) : Int) = (n : Int) := by omega
  rw [e]
theorem ws_empty {kf : Nat → Nat} {n : Nat} {L : List Sl} (h : Ws kf (n - 1) L) (h1 : 1 ≤ n) : lookAt L (some ((n : Int), (kf (n - 1) : Int))) 0 = .tuple #[.agg #[.int .i64 0, .int .i64 0, .int .i64 0, .int .i64 0, .int .i64 0], .agg #[.int .i64 0, .int .i64 0], .int .i64 4] := by
  unfold lookAt
  simp only [h.no n (kf (n - 1)) (by omega)]
theorem we_look {kf : Nat → Nat} {n : Nat} {L : List Sl} (h : We kf n L) (kind : Int) (hk : kind ≠ 0) : lookAt L (some ((n : Int), (kf (n - 1) : Int))) kind = if kind = 3 then .tuple #[.agg #[.int .i64 3, .int .i64 9, .int .i64 0, .int .i64 0, .int .i64 0], .agg #[.int .i64 n, .int .i64 (kf (n - 1))], .int .i64 0] else .tuple #[.agg #[.int .i64 0, .int .i64 0, .int .i64 0, .int .i64 0, .int .i64 0], .agg #[.int .i64 0, .int .i64 0], .int .i64 5] := by
  unfold lookAt
  simp only [h.at_end]
  by_cases e : kind = 3
  · subst e
    rw [if_pos (.inr rfl), if_pos rfl]
  · rw [if_neg (by simp only [not_or]; exact ⟨hk, fun q => e q.symm⟩), if_neg e]
/-- Broken at its b-th node: dropped there, then something else put. -/
theorem we_drop {kf : Nat → Nat} (hk : ∀ i, kf i < 16) {n b : Nat} {L L' : List Sl} {u v : Int} (h : We kf n L) (h1 : 1 ≤ n) (h5 : n ≤ 5) (hb : b + 1 < n) (hlen : L'.length ≤ L.length) (hno : lkS L' (1 + (b : Int)) (kf b) = none) (hel : ∀ n' s', ¬ (1 + (b : Int) = n' ∧ (kf b : Int) = s') → lkS L' n' s' = (lkS L n' s').map (reF (1 + (b : Int)) (kf b) u v)) :
    goL L' 6 2 (1 + ((0 : Nat) : Int)) 0 0 0 (tvF kf 0 (n - 1 + 1) : Int) ((4 * (n - 1 + 1) : Nat) : Int) = none ∧ putP L' (1 + (b : Int)) (kf b) 3 5 0 0 0 0 0 ∧ goL (insL L' ⟨1 + (b : Int), (kf b : Int), 0, 0, 3, 5, 0, 0, 0⟩) 6 2 (1 + ((0 : Nat) : Int)) 0 0 0 (tvF kf 0 (n - 1 + 1) : Int) ((4 * (n - 1 + 1) : Nat) : Int) = none ∧ L'.length < 65536 := by
  have hkb := hk b
  have hnd : ∀ j, j < b → ∃ x, lkS L' (1 + (j : Int)) (kf j) = some x ∧ nodeAt x (2 + (j : Int)) := fun j hj => by
    obtain ⟨x, hx, x1, x2, x3, x4, x5⟩ := h.nd j (by omega)
    obtain ⟨r1, r2, r3, r4, r5⟩ := reF_same (1 + (b : Int)) (kf b) u v x
    exact ⟨reF (1 + (b : Int)) (kf b) u v x, by rw [hel _ _ (by omega), hx]; rfl, by rw [r1, x1], by rw [r2, x2], by rw [r3, x3], by rw [r4, x4], by rw [r5, x5]⟩
  refine ⟨?_, ⟨place_of (by omega) (by omega) (by omega) (by omega), at_none hno, by decide, .inl ⟨rfl, rfl⟩⟩, ?_, by have := h.len; omega⟩
  · refine way_broken hk b 0 (n - 1) 6 0 (fun j _ hj => hnd j (by omega)) (fun x hx => ?_) (by omega) (by omega) (by omega) (by omega)
    rw [Nat.zero_add, hno] at hx
    cases hx
  · refine way_broken hk b 0 (n - 1) 6 0 (fun j _ hj => ?_) (fun x hx => ?_) (by omega) (by omega) (by omega) (by omega)
    · obtain ⟨x, hx, hx'⟩ := hnd j (by omega)
      exact ⟨x, by rw [lk_ins hno, if_neg (fun q => by have := q.1; simp only at this; omega)]; exact hx, hx'⟩
    · rw [Nat.zero_add, lk_ins hno, if_pos ⟨rfl, rfl⟩] at hx
      cases hx
      show (3 : Int) ≠ 2
      decide
end Go.Proofs.Ytjjgjgncnifjmaa
