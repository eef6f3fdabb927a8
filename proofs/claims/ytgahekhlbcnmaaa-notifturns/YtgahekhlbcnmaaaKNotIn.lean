/- The program's notification since a world: its word, those that wait; contracts by what comes out; the chapter's examples. -/
import Derived.Test.YtgahekhlbcnmaaaKNot1
namespace Go.Proofs.Ytgahekhlbcnmaaa
open Go.RowKit
set_option linter.unusedVariables false
set_option linter.unusedSimpArgs false
/-- Since w: at t there is the program's notification with this word, these that wait. -/
def NIn (w : World) (t : Nat) (word : Int) (L : List (Int × Int)) (wr : World) : Prop := LIg w t 1 31 [.int .u32 word] [] L wr
theorem NIn.kp {w wr : World} {t : Nat} {word : Int} {L : List (Int × Int)} (h : NIn w t word L wr) : Kp [] w wr := LIg.kp h
theorem NIn.new {w wr : World} {t : Nat} {word : Int} {L : List (Int × Int)} (h : NIn w t word L wr) : w.heap.size ≤ t := LIg.new h
theorem NIn.lt {w wr : World} {t : Nat} {word : Int} {L : List (Int × Int)} (h : NIn w t word L wr) : t < wr.heap.size := LIg.lt h
theorem NIn.nd {w wr : World} {t : Nat} {word : Int} {L : List (Int × Int)} (h : NIn w t word L wr) : L.Nodup := LIg.nd h
theorem NIn.small {w wr : World} {t : Nat} {word : Int} {L : List (Int × Int)} (h : NIn w t word L wr) : L.length ≤ 65536 := LIg.small h
theorem NIn.grew {w wr w' : World} {t : Nat} {word : Int} {L : List (Int × Int)} (h : NIn w t word L wr) (k : Kp [] wr w') : NIn w t word L w' := LIg.grew h k
theorem NIn.beside {w wr w' : World} {t g : Nat} {word : Int} {L : List (Int × Int)} {T : TypeId} {vs : List Value} (h : NIn w t word L wr) (k : Kp [g] wr w') (b : Bk wr g T vs) (hg : g ≠ t) (hn : w.heap.size ≤ g) : NIn w t word L w' := LIg.beside h k b hg hn
theorem NIn.of {w W wr : World} {t : Nat} (k : Kp [] w W) (ht : t = W.heap.size) (k' : Kp [] (W.alloc (.cells #[.int .u32 0, .map none, .int .i64 0, .int .i64 0] 31)) wr) : NIn w t 0 [] wr := by
  subst ht
  have hp : PL (W.alloc (.cells #[.int .u32 0, .map none, .int .i64 0, .int .i64 0] 31)) W.heap.size 1 31 [.int .u32 0] [] none (0, 0) [] := ⟨⟨rfl, Bk.new W _ [.int .u32 0, .map none, .int .i64 0, .int .i64 0]⟩, rfl, List.nodup_nil, by simp, by simp⟩
  exact ⟨(k.alloc _).then k', ⟨none, (0, 0), hp.grew k', by simp⟩, k.size⟩
theorem NIn.cell {w wr : World} {t : Nat} {word : Int} {L : List (Int × Int)} (h : NIn w t word L wr) : wr.cell? ⟨t, 0, none⟩ = some (.int .u32 word) ∧ ∀ i, wr.frozen? ⟨t, i, none⟩ = false := by
  obtain ⟨m, f, hs, hm⟩ := LIg.pl h
  exact ⟨hs.head.bk.cell (i := 0) rfl, hs.head.bk.frozen⟩
/-- Another word. -/
theorem NIn.word {w wr : World} {t : Nat} {a : Int} {L : List (Int × Int)} (h : NIn w t a L wr) (v : Int) : NIn w t v L (wr.setCell ⟨t, 0, none⟩ (.int .u32 v)) ∧ Lch w t wr (wr.setCell ⟨t, 0, none⟩ (.int .u32 v)) := by
  obtain ⟨m, f, hs, hm⟩ := LIg.pl h
  have k := (Kp.refl [t] wr).setCell (p := ⟨t, 0, none⟩) (.inl (by simp)) (.int .u32 v)
  have hn := NIn.new h
  refine ⟨⟨h.kp.trans k (by simp) (by simpa using hn), ⟨m, f, ⟨⟨rfl, hs.head.bk.set 0 (.int .u32 v)⟩, hs.mo.kept k (fun b e q => hs.ne b e (List.mem_singleton.1 q)), hs.nd, hs.ok, hs.small⟩, hm⟩, hn⟩, k.size, fun i c U z hi hne => ?_, fun q => q.trans k (by simp) (by simpa using hn)⟩
  exact (k.block i (Array.getElem?_eq_some_iff.1 hi).1 (by simpa using hne)).trans hi
theorem Lch.trans {w a b c : World} {y : Nat} (h : Lch w y a b) (k : Lch w y b c) : Lch w y a c := ⟨Nat.le_trans h.size k.size, fun i d U z q n => k.cells i d U z (h.cells i d U z q n) n, fun q => k.kp (h.kp q)⟩
/-- What a change of the notification leaves. -/
def NsC (w : World) (t : Nat) (word : Int) (L : List (Int × Int)) (wr : World) (v : Value) (e : Ending) (w' : World) : Prop := e = .returned v ∧ NIn w t word L w' ∧ Lch w t wr w'
theorem NsC.same {w wr w' : World} {t : Nat} {word : Int} {L : List (Int × Int)} {v : Value} (h : NIn w t word L wr) (k : Kp [] wr w') : NsC w t word L wr v (.returned v) w' := ⟨rfl, h.grew k, .of k⟩
/-- A box of an ID beside it filled, new since wr. -/
theorem box_id2 {w wr wx : World} {t g : Nat} {word : Int} {L : List (Int × Int)} {z1 z2 : Value} (h : NIn w t word L wx) (S : Lch w t wr wx) (b : Bk wx g 27 [z1, z2]) (hg : g ≠ t) (hr : wr.heap.size ≤ g) (hn : w.heap.size ≤ g) (x1 x2 : Int) :
    NIn w t word L ((wx.setCell ⟨g, 0, none⟩ (.int .i64 x1)).setCell ⟨g, 1, none⟩ (.int .i64 x2)) ∧ Lch w t wr ((wx.setCell ⟨g, 0, none⟩ (.int .i64 x1)).setCell ⟨g, 1, none⟩ (.int .i64 x2)) := by
  have k := ((Kp.refl [g] wx).setCell (p := ⟨g, 0, none⟩) (.inl (by simp)) (.int .i64 x1)).setCell (p := ⟨g, 1, none⟩) (.inl (by simp)) (.int .i64 x2)
  refine ⟨h.beside k b hg hn, Nat.le_trans S.size k.size, fun i c U z hi hne => ?_, fun q => (S.kp q).trans k (by simp) (by simpa using hn)⟩
  have h1 := S.cells i c U z hi hne
  have h2 := (Array.getElem?_eq_some_iff.1 hi).1
  exact (k.block i (Array.getElem?_eq_some_iff.1 h1).1 (by simp; omega)).trans h1
set_option maxHeartbeats 1000000 in
theorem nword {w wr : World} {t : Nat} {word : Int} {L : List (Int × Int)} (h : NIn w t word L wr) :
    Calls Try.prog 12 #[.pointer (some ⟨t, 0, none⟩)] wr fun e w' => e = .returned (.int .u32 word) ∧ Kp [] wr w' := by
  obtain ⟨c0, _⟩ := h.cell
  clear h
  go_enter Try.func12, Try.ntmps12
  go_wp2
  go_ret
  exact ⟨rfl, Kp.refl _ _⟩
set_option maxHeartbeats 1000000 in
theorem nwaits {w wr : World} {t : Nat} {word : Int} {L : List (Int × Int)} (h : NIn w t word L wr) :
    Calls Try.prog 10 #[.pointer (some ⟨t, 0, none⟩)] wr (ListId wr L) := by
  have H := hide h
  clear h
  go_enter Try.func10, Try.ntmps10
  go_wp2_with fail
  refine (lall (unhide H)).mono ?_
  rintro e W1 ⟨v, rfl, hR, K1⟩
  obtain ⟨a, c, rfl⟩ := hR.form
  replace hR := hide hR
  replace K1 := hide K1
  go_wp2
  go_ret
  exact ⟨_, rfl, unhide hR, unhide K1⟩
set_option maxRecDepth 4000 in
set_option maxHeartbeats 1000000 in
theorem ndrop {w wr : World} {t : Nat} {word : Int} {L L' : List (Int × Int)} (h : NIn w t word L wr) {q1 q2 : Int} {is : Bool} (hi : IdIn (q1, q2)) (hIs : lHas L (q1, q2) = is) (e : lDel L (q1, q2) = L') :
    Calls Try.prog 14 #[.pointer (some ⟨t, 0, none⟩), .agg #[.int .i64 q1, .int .i64 q2]] wr (NsC w t word L' wr (.bool is)) := by
  replace hi := hide hi
  replace hIs := hide hIs
  replace e := hide e
  have K0 := hide ((Kp.refl [] wr).alloc (.cells #[.int .i64 q1, .int .i64 q2] 27))
  have H := hide (h.grew (unhide K0))
  have B := hide (Bk.new wr 27 [.int .i64 q1, .int .i64 q2])
  have htw := hide h.lt
  clear h
  go_enter Try.func14, Try.ntmps14
  go_wp2_with fail
  generalize wr.alloc (.cells #[.int .i64 q1, .int .i64 q2] 27) = w1 at *
  have K1 := hide ((Kp.refl [] w1).drew)
  have B1 := hide ((unhide B).kept (unhide K1) (by simp))
  go_region_held3 (fun w' => w'.cell? ⟨wr.heap.size, 0, none⟩ = some (.int .i64 q1) ∧ w'.cell? ⟨wr.heap.size, 1, none⟩ = some (.int .i64 q2)) (first | with_reducible exact ⟨(unhide B2).cell rfl, (unhide B2).cell rfl⟩ | with_reducible exact ⟨(unhide B1).cell rfl, (unhide B1).cell rfl⟩) (first
    | (go_at_call 23; refine (ldrop (NIn.grew (unhide H) (unhide K1)) (unhide hi) (unhide hIs) (unhide e)).mono ?_; rintro e W2 ⟨rfl, X2, S2⟩; have Y2 := hide X2; have B2 := hide (S2.bk (unhide B1) (by have := unhide htw; omega)); have S3 := hide S2; clear X2 S2))
  all_goals
    go_wp2
    go_ret
    exact ⟨rfl, unhide Y2, (Lch.of ((unhide K0).then (unhide K1))).trans (unhide S3)⟩
set_option maxRecDepth 4000 in
set_option maxHeartbeats 1000000 in
/-- take: the word, which then is 0. -/
theorem ntake {w wr : World} {t : Nat} {word : Int} {L : List (Int × Int)} (h : NIn w t word L wr) :
    Calls Try.prog 19 #[.pointer (some ⟨t, 0, none⟩)] wr (NsC w t 0 L wr (.int .u32 word)) := by
  obtain ⟨c0, f0⟩ := h.cell
  obtain ⟨X, S⟩ := h.word 0
  replace X := hide X
  replace S := hide S
  clear h
  go_enter Try.func19, Try.ntmps19
  go_wp2
  exact bodyPost_ret (v := .int .u32 word) (by simp [results, Try.results19, go_sem, *]) rfl ⟨rfl, unhide X, unhide S⟩
set_option maxRecDepth 4000 in
set_option maxHeartbeats 1000000 in
theorem nwait_yes {w wr : World} {t : Nat} {word : Int} {L : List (Int × Int)} (h : NIn w t word L wr) (q1 q2 : Int) (hw : word ≠ 0) :
    Calls Try.prog 9 #[.pointer (some ⟨t, 0, none⟩), .agg #[.int .i64 q1, .int .i64 q2]] wr (NsC w t 0 L wr (.tuple #[.int .u32 word, .bool true])) := by
  have b0 : (word == 0) = false := beq_eq_false_iff_ne.2 hw
  have b1 : (word != 0) = true := bne_iff_ne.2 hw
  have K0 := hide ((Kp.refl [] wr).alloc (.cells #[.int .i64 q1, .int .i64 q2] 27))
  have H := hide (h.grew (unhide K0))
  obtain ⟨c0, f0⟩ := (unhide H).cell
  clear h hw
  go_enter Try.func9, Try.ntmps9
  go_wp2_with fail
  refine (ntake (unhide H)).mono ?_
  rintro e W1 ⟨rfl, X, S⟩
  replace X := hide X
  replace S := hide ((Lch.of (unhide K0)).trans S)
  clear c0 f0
  go_wp2
  exact bodyPost_ret (v := .tuple #[.int .u32 word, .bool true]) (by simp [results, Try.results9, go_sem, *]) rfl ⟨rfl, unhide X, unhide S⟩
set_option maxRecDepth 4000 in
set_option maxHeartbeats 1000000 in
theorem nwait_no {w wr : World} {t : Nat} {L L' : List (Int × Int)} (h : NIn w t 0 L wr) {q1 q2 : Int} (hi : IdIn (q1, q2)) (hL : L.length < 65536) (e : lPush L (q1, q2) = L') :
    Calls Try.prog 9 #[.pointer (some ⟨t, 0, none⟩), .agg #[.int .i64 q1, .int .i64 q2]] wr (NsC w t 0 L' wr (.tuple #[.int .u32 0, .bool false])) := by
  obtain ⟨is, hIs⟩ : ∃ v, (!lHas L (q1, q2)) = v := ⟨_, rfl⟩
  replace hi := hide hi
  replace hIs := hide hIs
  replace e := hide e
  replace hL := hide hL
  have K0 := hide ((Kp.refl [] wr).alloc (.cells #[.int .i64 q1, .int .i64 q2] 27))
  have H := hide (h.grew (unhide K0))
  have B := hide (Bk.new wr 27 [.int .i64 q1, .int .i64 q2])
  have htw := hide h.lt
  obtain ⟨c0, _⟩ := (unhide H).cell
  clear h
  go_enter Try.func9, Try.ntmps9
  go_wp2_with fail
  generalize wr.alloc (.cells #[.int .i64 q1, .int .i64 q2] 27) = w1 at *
  have K1 := hide ((Kp.refl [] w1).drew)
  have B1 := hide ((unhide B).kept (unhide K1) (by simp))
  clear c0
  go_region_held3 (fun w' => w'.cell? ⟨wr.heap.size, 0, none⟩ = some (.int .i64 q1) ∧ w'.cell? ⟨wr.heap.size, 1, none⟩ = some (.int .i64 q2)) (first | with_reducible exact ⟨(unhide B2).cell rfl, (unhide B2).cell rfl⟩ | with_reducible exact ⟨(unhide B1).cell rfl, (unhide B1).cell rfl⟩) (first
    | (go_at_call 18; refine (lpush (NIn.grew (unhide H) (unhide K1)) (unhide hi) (unhide hL) (unhide hIs) (unhide e)).mono ?_; rintro e W2 ⟨rfl, X2, S2⟩; have Y2 := hide X2; have B2 := hide (S2.bk (unhide B1) (by have := unhide htw; omega)); have S3 := hide S2; clear X2 S2))
  all_goals
    go_wp2
    exact bodyPost_ret (v := .tuple #[.int .u32 0, .bool false]) (by simp [results, Try.results9, go_sem, *]) rfl ⟨rfl, unhide Y2, (Lch.of ((unhide K0).then (unhide K1))).trans (unhide S3)⟩
set_option maxRecDepth 4000 in
set_option maxHeartbeats 2000000 in
theorem nsig_zero {w wr : World} {t : Nat} {word b : Int} {L : List (Int × Int)} (h : NIn w t word L wr) (hs : uor word b = 0) :
    Calls Try.prog 11 #[.pointer (some ⟨t, 0, none⟩), .int .u32 b] wr (NsC w t 0 L wr (.tuple #[.agg #[.int .i64 0, .int .i64 0], .int .u32 0, .bool false])) := by
  have K0 := (Kp.refl [] wr).alloc (.cells #[.int .i64 0, .int .i64 0] 27)
  have H := h.grew K0
  have B := Bk.new wr 27 [.int .i64 0, .int .i64 0]
  obtain ⟨c0, f0⟩ := H.cell
  obtain ⟨X, S⟩ := H.word 0
  have hlt := h.lt
  have hwn := h.kp.size
  have B2 := hide (S.bk B (by omega))
  replace X := hide X
  replace S := hide ((Lch.of K0).trans S)
  have hbs : bits .or .u32 word b = 0 := hs
  replace hlt := hide hlt
  replace hwn := hide hwn
  clear h H K0 B hs
  go_enter Try.func11, Try.ntmps11
  go_upto_region 2 with fail
  clear c0 f0 hbs
  generalize (wr.alloc (.cells #[.int .i64 0, .int .i64 0] 27)).setCell ⟨t, 0, none⟩ (.int .u32 0) = w2 at *
  obtain ⟨c0, _⟩ := (unhide X).cell
  have f0 := (unhide B2).frozen
  have e0 := (unhide B2).cell (i := 0) rfl
  have e1 := (unhide B2).cell (i := 1) rfl
  obtain ⟨X3, S3⟩ := box_id2 (unhide X) (unhide S) (unhide B2) (by have := unhide hlt; omega) (Nat.le_refl _) (unhide hwn) 0 0
  replace X3 := hide X3
  replace S3 := hide S3
  clear X B2 S
  go_wp2
  exact bodyPost_ret (v := .tuple #[.agg #[.int .i64 0, .int .i64 0], .int .u32 0, .bool false]) (by simp [results, Try.results11, go_sem, *]) rfl ⟨rfl, unhide X3, unhide S3⟩
set_option maxRecDepth 4000 in
set_option maxHeartbeats 2000000 in
theorem nsig_pop {w wr : World} {t : Nat} {word b s q1 q2 v1 v2 : Int} {is : Bool} {L : List (Int × Int)} (h : NIn w t word L wr) (hs : uor word b = s) (h0 : s ≠ 0) (hq : lFst L = (q1, q2)) (his : (!L.isEmpty) = is) (e1 : (if is = true then s else 0) = v1) (e2 : (if is = true then 0 else s) = v2) :
    Calls Try.prog 11 #[.pointer (some ⟨t, 0, none⟩), .int .u32 b] wr (NsC w t v2 L.tail wr (.tuple #[.agg #[.int .i64 q1, .int .i64 q2], .int .u32 v1, .bool is])) := by
  have hqz : is = false → q1 = 0 ∧ q2 = 0 := fun e => by
    rw [e] at his
    have : L = [] := by simpa using his
    rw [this] at hq
    cases hq
    exact ⟨rfl, rfl⟩
  replace hqz := hide hqz
  have E1 := hide e1
  have E2 := hide e2
  clear e1 e2
  have K0 := (Kp.refl [] wr).alloc (.cells #[.int .i64 0, .int .i64 0] 27)
  have H := h.grew K0
  have B := Bk.new wr 27 [.int .i64 0, .int .i64 0]
  obtain ⟨c0, f0⟩ := H.cell
  obtain ⟨X, S⟩ := H.word s
  have hlt := h.lt
  have hwn := h.kp.size
  have B2 := hide (S.bk B (by omega))
  replace X := hide X
  replace S := hide ((Lch.of K0).trans S)
  have hbs : bits .or .u32 word b = s := hs
  have b0 := wz_no h0
  replace hlt := hide hlt
  replace hwn := hide hwn
  replace hq := hide hq
  replace his := hide his
  clear h H K0 B hs h0
  go_enter Try.func11, Try.ntmps11
  go_upto_region 2 with fail
  clear c0 f0 hbs
  generalize (wr.alloc (.cells #[.int .i64 0, .int .i64 0] 27)).setCell ⟨t, 0, none⟩ (.int .u32 s) = w2 at *
  obtain ⟨c0, _⟩ := (unhide X).cell
  go_wp2_with fail
  refine (lpop (unhide X) (unhide hq) (unhide his) rfl).mono ?_
  rintro e W3 ⟨rfl, X3, S3⟩
  have B3 := hide (S3.bk (unhide B2) (by have := unhide hlt; omega))
  have T3 := hide ((unhide S).trans S3)
  replace X3 : Hid (NIn w t s L.tail W3) := X3
  have k4 := (Kp.refl [] W3).alloc (.cells #[.int .i64 q1, .int .i64 q2] 27)
  have X4 := hide ((unhide X3).grew k4)
  have B4 := hide ((unhide B3).kept k4 (by simp))
  have D4 := hide (Bk.new W3 27 [.int .i64 q1, .int .i64 q2])
  have T4 := hide ((unhide T3).trans (Lch.of k4))
  have hD : Hid (t < W3.heap.size ∧ wr.heap.size < W3.heap.size) := ⟨(unhide X3).lt, (unhide B3).lt⟩
  clear S3 c0 X B2 S X3 B3 T3 k4
  go_upto_region 5 with fail
  generalize W3.alloc (.cells #[.int .i64 q1, .int .i64 q2] 27) = W4 at *
  obtain ⟨D, eD⟩ : ∃ D, W3.heap.size = D := ⟨_, rfl⟩
  rw [eD] at D4 hD
  simp only [eD]
  clear eD
  cases is with
  | false =>
    obtain ⟨z1, z2⟩ := unhide hqz rfl
    subst z1 z2
    obtain rfl : 0 = v1 := by have := unhide E1; simpa using this
    obtain rfl : s = v2 := by have := unhide E2; simpa using this
    have f0 := (unhide B4).frozen
    have e0 := (unhide B4).cell (i := 0) rfl
    have e1 := (unhide B4).cell (i := 1) rfl
    obtain ⟨X5, S5⟩ := box_id2 (unhide X4) (unhide T4) (unhide B4) (by have := unhide hlt; omega) (Nat.le_refl _) (unhide hwn) 0 0
    replace X5 := hide X5
    replace S5 := hide S5
    clear X4 B4 T4
    go_wp2
    exact bodyPost_ret (v := .tuple #[.agg #[.int .i64 0, .int .i64 0], .int .u32 0, .bool false]) (by simp [results, Try.results11, go_sem, *]) rfl ⟨rfl, unhide X5, unhide S5⟩
  | true =>
    obtain rfl : s = v1 := by have := unhide E1; simpa using this
    obtain rfl : 0 = v2 := by have := unhide E2; simpa using this
    have f0 := (unhide B4).frozen
    have d0 := (unhide D4).cell (i := 0) rfl
    have d1 := (unhide D4).cell (i := 1) rfl
    go_upto_region 7 with fail
    clear f0 d0 d1
    have K5 := hide ((Kp.refl [] W4).drew)
    have X5 := hide ((unhide X4).grew (unhide K5))
    have T5 := hide ((unhide T4).trans (Lch.of (unhide K5)))
    have B5 := hide ((unhide B4).kept (unhide K5) (by simp))
    have D5 := hide ((unhide D4).kept (unhide K5) (by simp))
    clear X4 T4 B4 D4
    have d0 := (unhide D5).cell (i := 0) rfl
    have d1 := (unhide D5).cell (i := 1) rfl
    go_region_with ((go_at_call 19; refine (ntake (unhide X5)).mono ?_; rintro e W6 ⟨rfl, X6, S6⟩; have B6 := hide (S6.bk (unhide B5) (by have := unhide hlt; omega)); have D6 := hide (S6.bk (unhide D5) (by have := (unhide hD).1; omega)); have Y6 := hide X6; have T6 := hide ((unhide T5).trans S6); have f6 := (unhide B6).frozen; have g0 := (unhide B6).cell (i := 0) rfl; have g1 := (unhide B6).cell (i := 1) rfl; have h0 := (unhide D6).cell (i := 0) rfl; have h1 := (unhide D6).cell (i := 1) rfl; clear X6 S6))
    all_goals
      obtain ⟨X7, S7⟩ := box_id2 (unhide Y6) (unhide T6) (unhide B6) (by have := unhide hlt; omega) (Nat.le_refl _) (unhide hwn) q1 q2
      replace X7 := hide X7
      replace S7 := hide S7
      clear Y6 B6 D6 T6 h0 h1 d0 d1
      go_wp2
      exact bodyPost_ret (v := .tuple #[.agg #[.int .i64 q1, .int .i64 q2], .int .u32 s, .bool true]) (by simp [results, Try.results11, go_sem, *]) rfl ⟨rfl, unhide X7, unhide S7⟩
/-- What a Signal answers and leaves: the first (or zeros), the word (or 0), whether somebody was woken; the word behind it, those that wait. -/
def sigW (word b : Int) (L : List (Int × Int)) : Bool := decide (uor word b ≠ 0) && !L.isEmpty
def sigQ (word b : Int) (L : List (Int × Int)) : Int × Int := if sigW word b L = true then lFst L else (0, 0)
def sigB (word b : Int) (L : List (Int × Int)) : Int := if sigW word b L = true then uor word b else 0
def sigN (word b : Int) (L : List (Int × Int)) : Int := if sigW word b L = true then 0 else uor word b
def sigL (word b : Int) (L : List (Int × Int)) : List (Int × Int) := if sigW word b L = true then L.tail else L
theorem nsignal {w wr : World} {t : Nat} {word b : Int} {L : List (Int × Int)} (h : NIn w t word L wr) {q1 q2 w1 w2 : Int} {is : Bool} {L' : List (Int × Int)} (his : sigW word b L = is) (hq : sigQ word b L = (q1, q2)) (h1 : sigB word b L = w1) (h2 : sigN word b L = w2) (hL : sigL word b L = L') :
    Calls Try.prog 11 #[.pointer (some ⟨t, 0, none⟩), .int .u32 b] wr (NsC w t w2 L' wr (.tuple #[.agg #[.int .i64 q1, .int .i64 q2], .int .u32 w1, .bool is])) := by
  unfold sigQ at hq
  unfold sigB at h1
  unfold sigN at h2
  unfold sigL at hL
  by_cases h0 : uor word b = 0
  · have e : sigW word b L = false := by unfold sigW; rw [h0]; rfl
    rw [e] at his hq h1 h2 hL
    rw [if_neg (by simp)] at hq h1 h2 hL
    cases hq
    subst his h1 hL
    rw [h0] at h2
    subst h2
    exact nsig_zero h h0
  · cases L with
    | nil =>
      have e : sigW word b [] = false := by unfold sigW; simp
      rw [e] at his hq h1 h2 hL
      rw [if_neg (by simp)] at hq h1 h2 hL
      cases hq
      subst his h1 hL h2
      exact nsig_pop (q1 := 0) (q2 := 0) (is := false) h rfl h0 rfl rfl rfl rfl
    | cons x T =>
      have e : sigW word b (x :: T) = true := by unfold sigW; rw [decide_eq_true h0]; rfl
      rw [e] at his hq h1 h2 hL
      rw [if_pos rfl] at hq h1 h2 hL
      subst his h1 hL h2
      exact nsig_pop (is := true) h rfl h0 hq rfl rfl rfl
end Go.Proofs.Ytgahekhlbcnmaaa
