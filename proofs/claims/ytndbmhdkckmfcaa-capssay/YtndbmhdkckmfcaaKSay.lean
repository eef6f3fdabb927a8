/- The walk of CapsSay. -/
import Derived.Test.YtndbmhdkckmfcaaKLess
namespace Go.Proofs.Ytndbmhdkckmfcaa
open Go.RowKit
set_option linter.unusedVariables false
theorem Kp.cell {w w' : World} (k : Kp [] w w') {p : Addr} {v : Value} (h : w.cell? p = some v) : w'.cell? p = some v := by
  have hlt := World.block_lt_of_cell? w _ h
  rw [(k.below (Nat.le_refl _) (by simp)).cell hlt]
  exact h
/-- Four capabilities in a row, as a slice has them. -/
def AL (w : World) (H : Nat) (K O S B R : Nat → Int) (wx : World) : Prop :=
  (∀ i, i < 4 → wx.cell? ⟨H, i * 5, none⟩ = some (.int .i64 (K i)) ∧ wx.cell? ⟨H, i * 5 + 1, none⟩ = some (.int .i64 (O i)) ∧ wx.cell? ⟨H, i * 5 + 2, none⟩ = some (.int .i64 (S i)) ∧ wx.cell? ⟨H, i * 5 + 3, none⟩ = some (.int .i64 (B i)) ∧ wx.cell? ⟨H, i * 5 + 4, none⟩ = some (.int .i64 (R i))) ∧ Kp [] w wx
theorem AL.kept {w : World} {H : Nat} {K O S B R : Nat → Int} {wx wy : World} (h : AL w H K O S B R wx) (k : Kp [] wx wy) : AL w H K O S B R wy :=
  ⟨fun i hi => ⟨k.cell (h.1 i hi).1, k.cell (h.1 i hi).2.1, k.cell (h.1 i hi).2.2.1, k.cell (h.1 i hi).2.2.2.1, k.cell (h.1 i hi).2.2.2.2⟩, h.2.then k⟩
theorem AL.alloc {w : World} {H : Nat} {K O S B R : Nat → Int} {wx : World} (h : AL w H K O S B R wx) (o : Obj) : AL w H K O S B R (wx.alloc o) := h.kept ((Kp.refl [] wx).alloc o)
def pick4 (a b c d : Int) (i : Nat) : Int := if i = 0 then a else if i = 1 then b else if i = 2 then c else d
theorem AL.start {w wx : World} (k : Kp [] w wx) (k0 o0 s0 b0 r0 k1 o1 s1 b1 r1 k2 o2 s2 b2 r2 k3 o3 s3 b3 r3 : Int) :
    AL w wx.heap.size (pick4 k0 k1 k2 k3) (pick4 o0 o1 o2 o3) (pick4 s0 s1 s2 s3) (pick4 b0 b1 b2 b3) (pick4 r0 r1 r2 r3) (wx.alloc (.cells #[.int .i64 k0, .int .i64 o0, .int .i64 s0, .int .i64 b0, .int .i64 r0, .int .i64 k1, .int .i64 o1, .int .i64 s1, .int .i64 b1, .int .i64 r1, .int .i64 k2, .int .i64 o2, .int .i64 s2, .int .i64 b2, .int .i64 r2, .int .i64 k3, .int .i64 o3, .int .i64 s3, .int .i64 b3, .int .i64 r3] 23)) := by
  refine ⟨fun i hi => ?_, k.alloc _⟩
  have h := Bk.newA wx 23 #[.int .i64 k0, .int .i64 o0, .int .i64 s0, .int .i64 b0, .int .i64 r0, .int .i64 k1, .int .i64 o1, .int .i64 s1, .int .i64 b1, .int .i64 r1, .int .i64 k2, .int .i64 o2, .int .i64 s2, .int .i64 b2, .int .i64 r2, .int .i64 k3, .int .i64 o3, .int .i64 s3, .int .i64 b3, .int .i64 r3]
  have hc : i = 0 ∨ i = 1 ∨ i = 2 ∨ i = 3 := by omega
  rcases hc with rfl | rfl | rfl | rfl <;> exact ⟨h.cell rfl, h.cell rfl, h.cell rfl, h.cell rfl, h.cell rfl⟩
/-- The two that are handed in, and the numbers. -/
def In2 (w : World) (c d p : Nat) (a : Option Addr) (cap : Nat) (zs : List Int) (n : Nat) (k o s b r k' o' s' b' r' : Int) (wx : World) : Prop :=
  CapAt wx c k o s b r ∧ CapAt wx d k' o' s' b' r' ∧ Sq w wx p a cap zs n ∧ c < p ∧ d < p
theorem In2.cells {w : World} {c d p : Nat} {a : Option Addr} {cap : Nat} {zs : List Int} {n : Nat} {k o s b r k' o' s' b' r' : Int} {w' : World} (h : In2 w c d p a cap zs n k o s b r k' o' s' b' r' w') : w'.cell? ⟨c, 0, none⟩ = some (.int .i64 k) ∧ w'.cell? ⟨c, 1, none⟩ = some (.int .i64 o) ∧ w'.cell? ⟨c, 2, none⟩ = some (.int .i64 s) ∧ w'.cell? ⟨c, 3, none⟩ = some (.int .i64 b) ∧ w'.cell? ⟨c, 4, none⟩ = some (.int .i64 r) ∧ w'.cell? ⟨d, 0, none⟩ = some (.int .i64 k') ∧ w'.cell? ⟨d, 1, none⟩ = some (.int .i64 o') ∧ w'.cell? ⟨d, 2, none⟩ = some (.int .i64 s') ∧ w'.cell? ⟨d, 3, none⟩ = some (.int .i64 b') ∧ w'.cell? ⟨d, 4, none⟩ = some (.int .i64 r') :=
  have x := h.1.cells
  have y := h.2.1.cells
  ⟨x.1, x.2.1, x.2.2.1, x.2.2.2.1, x.2.2.2.2.1, y.1, y.2.1, y.2.2.1, y.2.2.2.1, y.2.2.2.2.1⟩
theorem In2.next {w : World} {c d p : Nat} {a : Option Addr} {cap : Nat} {zs : List Int} {n m : Nat} {k o s b r k' o' s' b' r' : Int} {wx wy : World} (h : In2 w c d p a cap zs n k o s b r k' o' s' b' r' wx) (hs : Sq w wy p a cap zs m) (kp : Kp [p] wx wy) : In2 w c d p a cap zs m k o s b r k' o' s' b' r' wy :=
  ⟨h.1.kept kp (by have := h.2.2.2.1; simp; omega), h.2.1.kept kp (by have := h.2.2.2.2; simp; omega), hs, h.2.2.2⟩
theorem In2.drew {w : World} {c d p : Nat} {a : Option Addr} {cap : Nat} {zs : List Int} {n : Nat} {k o s b r k' o' s' b' r' : Int} {wx : World} (h : In2 w c d p a cap zs n k o s b r k' o' s' b' r' wx) : In2 w c d p a cap zs n k o s b r k' o' s' b' r' wx.drew :=
  ⟨h.1, h.2.1, ⟨h.2.2.1.bk, h.2.2.1.new, h.2.2.1.kp.drew, h.2.2.1.ints, h.2.2.1.small⟩, h.2.2.2⟩
theorem mkcap_agg {w0 w : World} {p : Nat} {a : Option Addr} {cap : Nat} {zs : List Int} {n : Nat} (h : Sq w0 w p a cap zs n) (hn : n < 1000000000000) :
    Calls Try.prog 9 #[.pointer (some ⟨p, 0, none⟩)] w fun e w' => ∃ k o s b r m, e = .returned (.agg #[.int .i64 k, .int .i64 o, .int .i64 s, .int .i64 b, .int .i64 r]) ∧ Sq w0 w' p a cap zs m ∧ m ≤ n + 9 ∧ Kp [p] w w' ∧ CapIn k o s b r := mkcap_calls h hn
theorem In2.sq {w : World} {c d p : Nat} {a : Option Addr} {cap : Nat} {zs : List Int} {n : Nat} {k o s b r k' o' s' b' r' : Int} {wx : World} (h : In2 w c d p a cap zs n k o s b r k' o' s' b' r' wx) : Sq w wx p a cap zs n := h.2.2.1
theorem In2.alloc {w : World} {c d p : Nat} {a : Option Addr} {cap : Nat} {zs : List Int} {n : Nat} {k o s b r k' o' s' b' r' : Int} {wx : World} (h : In2 w c d p a cap zs n k o s b r k' o' s' b' r' wx) (ob : Obj) : In2 w c d p a cap zs n k o s b r k' o' s' b' r' (wx.alloc ob) :=
  h.next (h.sq.kept ((Kp.refl [] wx).alloc ob) (by simp) (by simp)) ((Kp.refl _ _).alloc ob)
theorem rcheck_to (k o s b r : Int) (v : Bool) (w : World) (h : chk k o s b r = v) :
    Calls Try.prog 13 #[capV k o s b r] w fun e w' => e = .returned (.bool v) ∧ Kp [] w w' := by subst h; exact rcheck_calls k o s b r w
theorem rless_agg (k o s b r m v : Int) (w : World) (h : lessR r m = v) :
    Calls Try.prog 15 #[capV k o s b r, .int .i64 m] w fun e w' => e = .returned (.agg #[.int .i64 k, .int .i64 o, .int .i64 s, .int .i64 b, .int .i64 v]) ∧ Kp [] w w' := by subst h; exact rless_calls k o s b r m w
theorem rnames_to (k o s b r k' o' s' b' r' : Int) (v : Bool) (w : World) (h : namesP k o s k' o' s' = v) :
    Calls Try.prog 19 #[capV k o s b r, capV k' o' s' b' r'] w fun e w' => e = .returned (.bool v) ∧ Kp [] w w' := by subst h; exact rnames_calls k o s b r k' o' s' b' r' w
def All4 (w : World) (c : Value) (wx : World) : Prop := ∃ (H : Nat) (K O S B R : Nat → Int), c = .slice (some ⟨H, 0, none⟩) 4 4 ∧ AL w H K O S B R wx
theorem AL.lt {w : World} {H : Nat} {K O S B R : Nat → Int} {wx : World} (h : AL w H K O S B R wx) : H < wx.heap.size := World.block_lt_of_cell? wx _ (h.1 0 (by omega)).1
theorem AL.two {w : World} {H : Nat} {K O S B R : Nat → Int} {w' : World} (h : AL w H K O S B R w') {j l : Nat} (hj : j < 4) (hl : l < 4) : w'.cell? ⟨H, j * 5, none⟩ = some (.int .i64 (K j)) ∧ w'.cell? ⟨H, j * 5 + 1, none⟩ = some (.int .i64 (O j)) ∧ w'.cell? ⟨H, j * 5 + 2, none⟩ = some (.int .i64 (S j)) ∧ w'.cell? ⟨H, j * 5 + 3, none⟩ = some (.int .i64 (B j)) ∧ w'.cell? ⟨H, j * 5 + 4, none⟩ = some (.int .i64 (R j)) ∧ w'.cell? ⟨H, l * 5, none⟩ = some (.int .i64 (K l)) ∧ w'.cell? ⟨H, l * 5 + 1, none⟩ = some (.int .i64 (O l)) ∧ w'.cell? ⟨H, l * 5 + 2, none⟩ = some (.int .i64 (S l)) ∧ w'.cell? ⟨H, l * 5 + 3, none⟩ = some (.int .i64 (B l)) ∧ w'.cell? ⟨H, l * 5 + 4, none⟩ = some (.int .i64 (R l)) :=
  have a := h.1 j hj
  have b := h.1 l hl
  ⟨a.1, a.2.1, a.2.2.1, a.2.2.2.1, a.2.2.2.2, b.1, b.2.1, b.2.2.1, b.2.2.2.1, b.2.2.2.2⟩
/-- A round's own: the row, and both answers. -/
def Rd (w : World) (H X Y : Nat) (K O S B R : Nat → Int) (k1 o1 s1 b1 r1 : Int) (wx : World) : Prop := AL w H K O S B R wx ∧ CapAt wx X k1 o1 s1 b1 r1 ∧ CapAt wx Y k1 o1 s1 b1 r1
theorem Rd.kept {w : World} {H X Y : Nat} {K O S B R : Nat → Int} {k1 o1 s1 b1 r1 : Int} {wx wy : World} (h : Rd w H X Y K O S B R k1 o1 s1 b1 r1 wx) (k : Kp [] wx wy) : Rd w H X Y K O S B R k1 o1 s1 b1 r1 wy := ⟨h.1.kept k, h.2.1.kept k (by simp), h.2.2.kept k (by simp)⟩
theorem Rd.drew {w : World} {H X Y : Nat} {K O S B R : Nat → Int} {k1 o1 s1 b1 r1 : Int} {wx : World} (h : Rd w H X Y K O S B R k1 o1 s1 b1 r1 wx) : Rd w H X Y K O S B R k1 o1 s1 b1 r1 wx.drew := ⟨⟨h.1.1, h.1.2.drew⟩, h.2⟩
theorem AL.drew {w : World} {H : Nat} {K O S B R : Nat → Int} {wx : World} (h : AL w H K O S B R wx) : AL w H K O S B R wx.drew := ⟨h.1, h.2.drew⟩
theorem Rd.cells {w : World} {H X Y : Nat} {K O S B R : Nat → Int} {k1 o1 s1 b1 r1 : Int} {w' : World} (h : Rd w H X Y K O S B R k1 o1 s1 b1 r1 w') {j : Nat} (hj : j < 4) : w'.cell? ⟨H, j * 5, none⟩ = some (.int .i64 (K j)) ∧ w'.cell? ⟨H, j * 5 + 1, none⟩ = some (.int .i64 (O j)) ∧ w'.cell? ⟨H, j * 5 + 2, none⟩ = some (.int .i64 (S j)) ∧ w'.cell? ⟨H, j * 5 + 3, none⟩ = some (.int .i64 (B j)) ∧ w'.cell? ⟨H, j * 5 + 4, none⟩ = some (.int .i64 (R j)) ∧ w'.cell? ⟨X, 0, none⟩ = some (.int .i64 k1) ∧ w'.cell? ⟨X, 1, none⟩ = some (.int .i64 o1) ∧ w'.cell? ⟨X, 2, none⟩ = some (.int .i64 s1) ∧ w'.cell? ⟨X, 3, none⟩ = some (.int .i64 b1) ∧ w'.cell? ⟨X, 4, none⟩ = some (.int .i64 r1) ∧ w'.cell? ⟨Y, 0, none⟩ = some (.int .i64 k1) ∧ w'.cell? ⟨Y, 1, none⟩ = some (.int .i64 o1) ∧ w'.cell? ⟨Y, 2, none⟩ = some (.int .i64 s1) ∧ w'.cell? ⟨Y, 3, none⟩ = some (.int .i64 b1) ∧ w'.cell? ⟨Y, 4, none⟩ = some (.int .i64 r1) :=
  have a := h.1.1 j hj
  have x := h.2.1.cells
  have y := h.2.2.cells
  ⟨a.1, a.2.1, a.2.2.1, a.2.2.2.1, a.2.2.2.2, x.1, x.2.1, x.2.2.1, x.2.2.2.1, x.2.2.2.2.1, y.1, y.2.1, y.2.2.1, y.2.2.2.1, y.2.2.2.2.1⟩
set_option maxHeartbeats 2000000 in
set_option maxRecDepth 20000 in
theorem say_in (k o s b r k' o' s' b' r' : Int) (a : Option Addr) (cap : Nat) (zs : List Int) (rights n : Int) (w : World) (hl : zs.length ≤ 40) (hI : Ints .i64 w a zs) (hn : 0 ≤ n ∧ n < 4294967296) :
    Calls Try.prog 3 #[capV k o s b r, capV k' o' s' b' r', .slice a zs.length cap, .int .i64 rights, .int .u32 n] w fun e w' => e = .returned (.bool true) ∧ Below w.heap.size w w' := by
  have d1 : decide ((40 : Int) < (zs.length : Int)) = false := decide_eq_false (by omega)
  replace hI := hide hI
  go_enter Try.func3, Try.ntmps3
  go_wp2_with fail
  refine (first_calls _).mono ?_
  rintro e W0 ⟨rfl, K0⟩
  have C0 := ((CapAt.next w k o s b r rfl).alloc _).kept K0 (by simp)
  have D0 := (CapAt.next (w.alloc _) k' o' s' b' r' (by simp; rfl)).kept K0 (by simp)
  replace K0 := (((Kp.refl [] w).alloc _).alloc _).then K0
  have hin : In2 w w.heap.size (w.heap.size + 1) W0.heap.size a cap zs 0 k o s b r k' o' s' b' r' (W0.alloc (.cells #[.slice a zs.length cap, .int .i64 0] 29)) :=
    ⟨C0.alloc _, D0.alloc _, sq_start cap K0 (unhide hI), Bk.lt C0, Bk.lt D0⟩
  replace hin := hide hin
  clear C0 D0 K0
  go_upto_region 7 with fail
  generalize W0.alloc (.cells #[.slice a zs.length cap, .int .i64 0] 29) = W at hin
  go_cut [13] (fun c wx => All4 w c wx)
  case first =>
    have hd := hide (unhide hin).drew
    clear hin
    go_region_held3 (fun w' => w'.cell? ⟨w.heap.size, 0, none⟩ = some (.int .i64 k) ∧ w'.cell? ⟨w.heap.size, 1, none⟩ = some (.int .i64 o) ∧ w'.cell? ⟨w.heap.size, 2, none⟩ = some (.int .i64 s) ∧ w'.cell? ⟨w.heap.size, 3, none⟩ = some (.int .i64 b) ∧ w'.cell? ⟨w.heap.size, 4, none⟩ = some (.int .i64 r) ∧ w'.cell? ⟨w.heap.size + 1, 0, none⟩ = some (.int .i64 k') ∧ w'.cell? ⟨w.heap.size + 1, 1, none⟩ = some (.int .i64 o') ∧ w'.cell? ⟨w.heap.size + 1, 2, none⟩ = some (.int .i64 s') ∧ w'.cell? ⟨w.heap.size + 1, 3, none⟩ = some (.int .i64 b') ∧ w'.cell? ⟨w.heap.size + 1, 4, none⟩ = some (.int .i64 r')) (first | exact ((unhide q2).alloc _).cells | exact (unhide q2).cells | exact (unhide q1).cells | exact (unhide hd).cells) (first
      | (go_at_call 9; (with_reducible refine (mkcap_agg (unhide hd).sq (by omega)).mono ?_); rintro e V1 ⟨k1, o1, s1, b1, r1, m1, rfl, h1, hm1, kp, _⟩; have q1 := hide ((unhide hd).next h1 kp); clear h1 kp)
      | (go_at_call 9; (with_reducible refine (mkcap_agg (unhide q1).sq (by omega)).mono ?_); rintro e V2 ⟨k2, o2, s2, b2, r2, m2, rfl, h2, hm2, kp, _⟩; have q2 := hide ((unhide q1).next h2 kp); clear h2 kp))
    all_goals
      go_wp2
      go_meet
      case rel => exact ⟨_, _, _, _, _, _, rfl, AL.start (unhide q2).2.2.1.kp k o s b r k' o' s' b' r' k1 o1 s1 b1 r1 k2 o2 s2 b2 r2⟩
  case rest =>
    obtain ⟨H, K, O, S, B, R, rfl, hA⟩ := hcut
    clear hin
    replace hA := hide hA
    go_wp2_with fail
    go_loopg [14] 4 (fun m i wx => ∃ j : Nat, j ≤ 4 ∧ m = 4 - j ∧ i = .int .i64 j ∧ AL w H K O S B R wx)
    case atStart => exact ⟨0, by omega, rfl, rfl, unhide hA⟩
    case round =>
      obtain ⟨j, hj, rfl, rfl, hx⟩ := hrel
      clear hA
      by_cases hlt : j < 4
      · obtain ⟨x, ex⟩ : ∃ x, bdg (K j) (O j) (S j) (B j) (R j) n = x := ⟨_, rfl⟩
        obtain ⟨k1, o1, s1, b1, r1, c1⟩ := x
        have cc := hx.1 j hlt
        have l1 : (j : Int) < 4 := by omega
        replace ex := hide ex
        replace hx := hide hx
        go_wp2_with fail
        refine (badge_calls (K j) (O j) (S j) (B j) (R j) n _ k1 o1 s1 b1 r1 c1 (unhide ex) hn.1 hn.2).mono ?_
        rintro e W1 ⟨rfl, K1⟩
        replace hx := (unhide hx).kept K1
        have cc1 := hx.1 j hlt
        have hH1 := hx.lt
        replace hx := hide hx
        clear K1 cc
        go_wp2_with fail
        refine (rbadge_calls (K j) (O j) (S j) (B j) (R j) n _ k1 o1 s1 b1 r1 c1 (unhide ex) hn.1 hn.2).mono ?_
        rintro e W2 ⟨rfl, K2⟩
        have hR : Rd w H W1.heap.size W2.heap.size K O S B R k1 o1 s1 b1 r1 (W2.alloc (.cells #[.int .i64 k1, .int .i64 o1, .int .i64 s1, .int .i64 b1, .int .i64 r1] 23)) :=
          ⟨(((unhide hx).alloc _).kept K2).alloc _, ((CapAt.next W1 k1 o1 s1 b1 r1 rfl).kept K2 (by simp)).alloc _, CapAt.next W2 k1 o1 s1 b1 r1 rfl⟩
        replace hR := hide hR
        clear hx cc1 hH1 K2
        go_upto_region 13 with fail
        generalize (W2.alloc (.cells #[.int .i64 k1, .int .i64 o1, .int .i64 s1, .int .i64 b1, .int .i64 r1] 23)) = V at hR
        go_cut [109] (fun c wx => c = .bool false ∧ AL w H K O S B R wx)
        case first =>
          have hRd := hide (unhide hR).drew
          have HL := hide hlt
          obtain ⟨v, hv⟩ : ∃ v, chk (K j) (O j) (S j) (B j) (R j) = v := ⟨_, rfl⟩
          obtain ⟨m, hm⟩ : ∃ v, lessR (R j) rights = v := ⟨_, rfl⟩
          obtain ⟨f, hf⟩ : ∃ v, (if K j = 1 then O j else 0) = v := ⟨_, rfl⟩
          obtain ⟨g, hg⟩ : ∃ v, (if K j = 1 then S j else 0) = v := ⟨_, rfl⟩
          replace hv := hide hv
          replace hm := hide hm
          replace hf := hide hf
          replace hg := hide hg
          clear hR
          go_region_held3 (fun w' => w'.cell? ⟨H, j * 5, none⟩ = some (.int .i64 (K j)) ∧ w'.cell? ⟨H, j * 5 + 1, none⟩ = some (.int .i64 (O j)) ∧ w'.cell? ⟨H, j * 5 + 2, none⟩ = some (.int .i64 (S j)) ∧ w'.cell? ⟨H, j * 5 + 3, none⟩ = some (.int .i64 (B j)) ∧ w'.cell? ⟨H, j * 5 + 4, none⟩ = some (.int .i64 (R j)) ∧ w'.cell? ⟨W1.heap.size, 0, none⟩ = some (.int .i64 k1) ∧ w'.cell? ⟨W1.heap.size, 1, none⟩ = some (.int .i64 o1) ∧ w'.cell? ⟨W1.heap.size, 2, none⟩ = some (.int .i64 s1) ∧ w'.cell? ⟨W1.heap.size, 3, none⟩ = some (.int .i64 b1) ∧ w'.cell? ⟨W1.heap.size, 4, none⟩ = some (.int .i64 r1) ∧ w'.cell? ⟨W2.heap.size, 0, none⟩ = some (.int .i64 k1) ∧ w'.cell? ⟨W2.heap.size, 1, none⟩ = some (.int .i64 o1) ∧ w'.cell? ⟨W2.heap.size, 2, none⟩ = some (.int .i64 s1) ∧ w'.cell? ⟨W2.heap.size, 3, none⟩ = some (.int .i64 b1) ∧ w'.cell? ⟨W2.heap.size, 4, none⟩ = some (.int .i64 r1)) (first | exact (unhide q6).cells (unhide HL) | exact (unhide q5).cells (unhide HL) | exact (unhide q4).cells (unhide HL) | exact (unhide q3).cells (unhide HL) | exact (unhide q2).cells (unhide HL) | exact (unhide q1).cells (unhide HL) | exact (unhide hRd).cells (unhide HL)) (first
            | (go_at_call 12; (with_reducible refine (check_to (K j) (O j) (S j) (B j) (R j) v _ (unhide hv)).mono ?_); rintro e V1 ⟨rfl, K1⟩; have q1 := hide ((unhide hRd).kept K1); clear K1)
            | (go_at_call 13; (with_reducible refine (rcheck_to (K j) (O j) (S j) (B j) (R j) v _ (unhide hv)).mono ?_); rintro e V2 ⟨rfl, K1⟩; have q2 := hide ((unhide q1).kept K1); clear K1)
            | (go_at_call 14; (with_reducible refine (less_agg (K j) (O j) (S j) (B j) (R j) rights m _ (unhide hm)).mono ?_); rintro e V3 ⟨rfl, K1⟩; have q3 := hide ((unhide q2).kept K1); clear K1)
            | (go_at_call 15; (with_reducible refine (rless_agg (K j) (O j) (S j) (B j) (R j) rights m _ (unhide hm)).mono ?_); rintro e V4 ⟨rfl, K1⟩; have q4 := hide ((unhide q3).kept K1); clear K1)
            | (go_at_call 16; (with_reducible refine (range_calls (K j) (O j) (S j) (B j) (R j) _ f g (unhide hf) (unhide hg)).mono ?_); rintro e V5 ⟨rfl, K1⟩; have q5 := hide ((unhide q4).kept K1); clear K1)
            | (go_at_call 17; (with_reducible refine (rrange_calls (K j) (O j) (S j) (B j) (R j) _ f g (unhide hf) (unhide hg)).mono ?_); rintro e V6 ⟨rfl, K1⟩; have q6 := hide ((unhide q5).kept K1); clear K1))
          all_goals
            go_wp2
            go_meet
            case rel => exact ⟨rfl, (unhide q6).1⟩
        case rest =>
          obtain ⟨rfl, hx⟩ := hcut
          clear hR
          replace hx := hide hx
          go_wp2_with fail
          go_loopg [19] 4 (fun m i wx => ∃ l : Nat, l ≤ 4 ∧ m = 4 - l ∧ i = .int .i64 l ∧ AL w H K O S B R wx)
          case atStart => exact ⟨0, by omega, rfl, rfl, unhide hx⟩
          case round =>
            obtain ⟨l, hl2, rfl, rfl, hy⟩ := hrel
            clear hx
            replace hy := hide hy
            by_cases hlt2 : l < 4
            · have l2 : (l : Int) < 4 := by omega
              go_upto_region 18 with fail
              go_cut [134] (fun c wx => c = .bool false ∧ AL w H K O S B R wx)
              case first =>
                have hyd := hide (unhide hy).drew
                have HL := hide hlt
                have HM := hide hlt2
                obtain ⟨v, hv⟩ : ∃ v, namesP (K j) (O j) (S j) (K l) (O l) (S l) = v := ⟨_, rfl⟩
                replace hv := hide hv
                clear hy
                go_region_held3 (fun w' => w'.cell? ⟨H, j * 5, none⟩ = some (.int .i64 (K j)) ∧ w'.cell? ⟨H, j * 5 + 1, none⟩ = some (.int .i64 (O j)) ∧ w'.cell? ⟨H, j * 5 + 2, none⟩ = some (.int .i64 (S j)) ∧ w'.cell? ⟨H, j * 5 + 3, none⟩ = some (.int .i64 (B j)) ∧ w'.cell? ⟨H, j * 5 + 4, none⟩ = some (.int .i64 (R j)) ∧ w'.cell? ⟨H, l * 5, none⟩ = some (.int .i64 (K l)) ∧ w'.cell? ⟨H, l * 5 + 1, none⟩ = some (.int .i64 (O l)) ∧ w'.cell? ⟨H, l * 5 + 2, none⟩ = some (.int .i64 (S l)) ∧ w'.cell? ⟨H, l * 5 + 3, none⟩ = some (.int .i64 (B l)) ∧ w'.cell? ⟨H, l * 5 + 4, none⟩ = some (.int .i64 (R l))) (first | exact (unhide q2).two (unhide HL) (unhide HM) | exact (unhide q1).two (unhide HL) (unhide HM) | exact (unhide hyd).two (unhide HL) (unhide HM)) (first
                  | (go_at_call 18; (with_reducible refine (names_to (K j) (O j) (S j) (B j) (R j) (K l) (O l) (S l) (B l) (R l) v _ (unhide hv)).mono ?_); rintro e V1 ⟨rfl, K1⟩; have q1 := hide ((unhide hyd).kept K1); clear K1)
                  | (go_at_call 19; (with_reducible refine (rnames_to (K j) (O j) (S j) (B j) (R j) (K l) (O l) (S l) (B l) (R l) v _ (unhide hv)).mono ?_); rintro e V2 ⟨rfl, K1⟩; have q2 := hide ((unhide q1).kept K1); clear K1))
                all_goals
                  go_wp2
                  go_meet
                  case rel => exact ⟨rfl, unhide q2⟩
              case rest =>
                obtain ⟨rfl, hz⟩ := hcut
                clear hy
                replace hz := hide hz
                go_wp2
                go_roundg (4 - (l + 1))
                case rel => exact ⟨l + 1, by omega, rfl, by go_num, unhide hz⟩
                case measure => omega
            · go_wp2
              go_roundg (4 - (j + 1))
              case rel => exact ⟨j + 1, by omega, rfl, by go_num, unhide hy⟩
              case measure => omega
      · replace hx := hide hx
        go_wp2
        go_ret
        exact ⟨rfl, (unhide hx).2.below (Nat.le_refl _) (by simp)⟩
theorem say_out (k o s b r k' o' s' b' r' : Int) (a : Option Addr) (len cap : Nat) (rights n : Int) (w : World) (hl : 40 < len) :
    Calls Try.prog 3 #[capV k o s b r, capV k' o' s' b' r', .slice a len cap, .int .i64 rights, .int .u32 n] w fun e w' => e = .returned (.bool true) ∧ Below w.heap.size w w' := by
  have d1 : (40 : Int) < (len : Int) := by omega
  go_enter Try.func3, Try.ntmps3
  go_wp2_with fail
  refine (first_calls _).mono ?_
  rintro e W0 ⟨rfl, K0⟩
  replace K0 := hide ((((Kp.refl [] w).alloc _).alloc _).then K0)
  go_wp2
  go_ret
  exact ⟨rfl, (unhide K0).below (Nat.le_refl _) (by simp)⟩
theorem say_law (k o s b r k' o' s' b' r' : Int) (a : Option Addr) (len cap : Nat) (zs : List Int) (rights n : Int) (w : World) (_ : (Lit.int .i64 k).wf = true) (_ : (Lit.int .i64 o).wf = true) (_ : (Lit.int .i64 s).wf = true) (_ : (Lit.int .i64 b).wf = true) (_ : (Lit.int .i64 r).wf = true) (_ : (Lit.int .i64 k').wf = true) (_ : (Lit.int .i64 o').wf = true) (_ : (Lit.int .i64 s').wf = true) (_ : (Lit.int .i64 b').wf = true) (_ : (Lit.int .i64 r').wf = true) (hl : zs.length = len) (hI : Ints .i64 w a zs) (_ : (Lit.int .i64 rights).wf = true) (hn : (Lit.int .u32 n).wf = true) :
    Calls Try.prog 3 #[capV k o s b r, capV k' o' s' b' r', .slice a len cap, .int .i64 rights, .int .u32 n] w fun e w' => e = .returned (.bool true) ∧ Below w.heap.size w w' := by
  have hn : 0 ≤ n ∧ n < 4294967296 := by have := bounds_u32 hn; omega
  subst hl
  by_cases h : zs.length ≤ 40
  · exact say_in k o s b r k' o' s' b' r' a cap zs rights n w h hI hn
  · exact say_out k o s b r k' o' s' b' r' a _ cap rights n w (by omega)
end Go.Proofs.Ytndbmhdkckmfcaa
