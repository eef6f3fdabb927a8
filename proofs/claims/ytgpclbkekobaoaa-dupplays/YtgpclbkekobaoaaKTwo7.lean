/- The program's table and the document's, beside one another: copied, minted, moved. -/
import Derived.Test.YtgpclbkekobaoaaKTwo5
import Derived.Test.YtgpclbkekobaoaaKDupI
import Derived.Test.YtgpclbkekobaoaaKLaw7
namespace Go.Proofs.Ytgpclbkekobaoaa
open Go.RowKit
set_option linter.unusedVariables false
/-- A thing done in both: the same code, the same slots. -/
structure BothI (w : World) (t x : Nat) (L L' : List Sl) (c : Int) (f g : FuncId) (xs : List Value) : Prop where
  prog : ∀ wr, TabIn w t L wr → Calls Try.prog f (.pointer (some ⟨t, 0, none⟩) :: xs).toArray wr (TInP w t L' wr (.int .i64 c))
  doc : ∀ wr ra rc, RT (t + 1) wr x ra rc L → Calls Try.prog g (.pointer (some ⟨x, 0, none⟩) :: xs).toArray wr (RInP (t + 1) x L' wr (.int .i64 c))
  len : L'.length ≤ L.length + 1
theorem putR_len (L : List Sl) (n s k o z b r u v : Int) : (putR L n s k o z b r u v).length ≤ L.length + 1 := by
  unfold putR
  split
  · rw [(ins_perm L _).length_eq]; simp
  · omega
theorem copyL_len (L : List Sl) (n s n' s' m : Int) : (copyL L n s n' s' m).length ≤ L.length + 1 := by
  unfold copyL
  split
  · split
    · exact putR_len _ _ _ _ _ _ _ _ _ _
    · omega
  · omega
theorem mintL_len (L : List Sl) (n s n' s' m : Int) : (mintL L n s n' s' m).length ≤ L.length + 1 := by
  unfold mintL
  split
  · exact putR_len _ _ _ _ _ _ _ _ _ _
  · omega
theorem moveLL_len (L : List Sl) (n s n' s' : Int) : (moveLL L n s n' s').length ≤ L.length + 1 := by
  unfold moveLL
  split
  · split
    · split
      · rename_i y hy
        rw [move_len hy]; omega
      · omega
    · omega
  · omega
theorem bothI_copy {w : World} {t x : Nat} {L : List Sl} (hL : L.length < 65536) {n s n' s' m : Int} (hi : PIn (n, s)) (hi' : PIn (n', s')) (hm : In64 m) :
    ∃ c L', BothI w t x L L' c 16 17 [.agg #[.int .i64 n, .int .i64 s], .agg #[.int .i64 n', .int .i64 s'], .int .i64 m] :=
  ⟨_, _, fun wr h => dcopy h hi hi' hm hL rfl rfl, fun wr ra rc h => rcopy_calls h n s n' s' m hL, copyL_len _ _ _ _ _ _⟩
theorem bothI_mint {w : World} {t x : Nat} {L : List Sl} (hL : L.length < 65536) {n s n' s' m : Int} (hi : PIn (n, s)) (hi' : PIn (n', s')) (hm : 0 ≤ m ∧ m < 4294967296) :
    ∃ c L', BothI w t x L L' c 12 13 [.agg #[.int .i64 n, .int .i64 s], .agg #[.int .i64 n', .int .i64 s'], .int .u32 m] :=
  ⟨_, _, fun wr h => dmint h hi hi' hm hL rfl rfl, fun wr ra rc h => rmint_calls h n s n' s' m hm hL, mintL_len _ _ _ _ _ _⟩
theorem bothI_move {w : World} {t x : Nat} {L : List Sl} (hL : L.length < 65536) {n s n' s' : Int} (hi : PIn (n, s)) (hi' : PIn (n', s')) :
    ∃ c L', BothI w t x L L' c 14 15 [.agg #[.int .i64 n, .int .i64 s], .agg #[.int .i64 n', .int .i64 s']] :=
  ⟨_, _, fun wr h => dmove h hi hi' hL rfl rfl, fun wr ra rc h => rdmove_calls h n s n' s', moveLL_len _ _ _ _ _⟩
/-- Both tables, the numbers; a place's box, a capability's. -/
structure Pu7 (w : World) (t x p : Nat) (a : Option Addr) (cap : Nat) (zs : List Int) (L1 L2 : List Sl) (k A C : Nat) (an as1 ck co cz cb cr : Int) (wx : World) : Prop where
  py : Py w t x p a cap zs L1 L2 k wx
  pa : Bk wx A 35 [.int .i64 an, .int .i64 as1]
  pc : Bk wx C 37 [.int .i64 ck, .int .i64 co, .int .i64 cz, .int .i64 cb, .int .i64 cr]
theorem Pu7.grew {w : World} {t x p : Nat} {a : Option Addr} {cap : Nat} {zs : List Int} {L1 L2 : List Sl} {k A C : Nat} {an as1 ck co cz cb cr : Int} {wx wy : World} (h : Pu7 w t x p a cap zs L1 L2 k A C an as1 ck co cz cb cr wx) (kp : Kp [] wx wy) : Pu7 w t x p a cap zs L1 L2 k A C an as1 ck co cz cb cr wy := ⟨h.py.grew kp, h.pa.kept kp (by simp), h.pc.kept kp (by simp)⟩
theorem Pu7.turned {w : World} {t x p : Nat} {a : Option Addr} {cap : Nat} {zs : List Int} {L1 L2 L1' L2' : List Sl} {k k' A C : Nat} {an as1 ck co cz cb cr : Int} {wx wy : World} (h : Pu7 w t x p a cap zs L1 L2 k A C an as1 ck co cz cb cr wx) (q : Py w t x p a cap zs L1' L2' k' wy ∧ Ch wx wy) : Pu7 w t x p a cap zs L1' L2' k' A C an as1 ck co cz cb cr wy := ⟨q.1, q.2.box h.pa, q.2.cap h.pc⟩
theorem Pu7.cells {w : World} {t x p : Nat} {a : Option Addr} {cap : Nat} {zs : List Int} {L1 L2 : List Sl} {k A C : Nat} {an as1 ck co cz cb cr : Int} {wx : World} (h : Pu7 w t x p a cap zs L1 L2 k A C an as1 ck co cz cb cr wx) : wx.cell? ⟨A, 0, none⟩ = some (.int .i64 an) ∧ wx.cell? ⟨A, 1, none⟩ = some (.int .i64 as1) ∧ wx.cell? ⟨C, 0, none⟩ = some (.int .i64 ck) ∧ wx.cell? ⟨C, 1, none⟩ = some (.int .i64 co) ∧ wx.cell? ⟨C, 2, none⟩ = some (.int .i64 cz) ∧ wx.cell? ⟨C, 3, none⟩ = some (.int .i64 cb) ∧ wx.cell? ⟨C, 4, none⟩ = some (.int .i64 cr) := ⟨h.pa.cell rfl, h.pa.cell rfl, h.pc.cell rfl, h.pc.cell rfl, h.pc.cell rfl, h.pc.cell rfl, h.pc.cell rfl⟩
/-- Both tables, the numbers; two places' boxes. -/
structure Pw7 (w : World) (t x p : Nat) (a : Option Addr) (cap : Nat) (zs : List Int) (L1 L2 : List Sl) (k A B : Nat) (an as1 bn bs : Int) (wx : World) : Prop where
  py : Py w t x p a cap zs L1 L2 k wx
  pa : Bk wx A 35 [.int .i64 an, .int .i64 as1]
  pb : Bk wx B 35 [.int .i64 bn, .int .i64 bs]
theorem Pw7.grew {w : World} {t x p : Nat} {a : Option Addr} {cap : Nat} {zs : List Int} {L1 L2 : List Sl} {k A B : Nat} {an as1 bn bs : Int} {wx wy : World} (h : Pw7 w t x p a cap zs L1 L2 k A B an as1 bn bs wx) (kp : Kp [] wx wy) : Pw7 w t x p a cap zs L1 L2 k A B an as1 bn bs wy := ⟨h.py.grew kp, h.pa.kept kp (by simp), h.pb.kept kp (by simp)⟩
theorem Pw7.turned {w : World} {t x p : Nat} {a : Option Addr} {cap : Nat} {zs : List Int} {L1 L2 L1' L2' : List Sl} {k k' A B : Nat} {an as1 bn bs : Int} {wx wy : World} (h : Pw7 w t x p a cap zs L1 L2 k A B an as1 bn bs wx) (q : Py w t x p a cap zs L1' L2' k' wy ∧ Ch wx wy) : Pw7 w t x p a cap zs L1' L2' k' A B an as1 bn bs wy := ⟨q.1, q.2.box h.pa, q.2.box h.pb⟩
theorem Pw7.cells {w : World} {t x p : Nat} {a : Option Addr} {cap : Nat} {zs : List Int} {L1 L2 : List Sl} {k A B : Nat} {an as1 bn bs : Int} {wx : World} (h : Pw7 w t x p a cap zs L1 L2 k A B an as1 bn bs wx) : wx.cell? ⟨A, 0, none⟩ = some (.int .i64 an) ∧ wx.cell? ⟨A, 1, none⟩ = some (.int .i64 as1) ∧ wx.cell? ⟨B, 0, none⟩ = some (.int .i64 bn) ∧ wx.cell? ⟨B, 1, none⟩ = some (.int .i64 bs) := ⟨h.pa.cell rfl, h.pa.cell rfl, h.pb.cell rfl, h.pb.cell rfl⟩
end Go.Proofs.Ytgpclbkekobaoaa
