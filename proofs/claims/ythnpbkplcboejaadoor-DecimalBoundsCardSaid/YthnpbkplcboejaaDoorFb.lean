/- Decimal, the law's shown. -/
import Derived.Test.YthnpbkplcboejaaDoorFa
import Derived.Test.YthnpbkplcboejaaDoorDy
import Derived.Test.YthnpbkplcboejaaDoorDs
import Derived.Test.YthnpbkplcboejaaDoorDu
import Derived.Test.YthnpbkplcboejaaDoorDw
import Derived.Test.YthnpbkplcboejaaDoorDx
set_option linter.unusedSimpArgs false
set_option linter.unusedVariables false
namespace Go.Proofs.YthnpbkplcboejaaDoor
open Go.RowKit Go.Shelf Go.Lib Go.Sort
namespace Dc
theorem R.ok_val (v : V) : (R.ok v).val = .tuple #[v.d.val, .int .i64 0] := rfl
theorem cread (s : ByteArray) (v : V) (hs : s.size ≤ 1000) (h : readS s.data.toList = .ok v) (W : World) :
    Calls Tryd.prog 19 #[.string s] W fun e w' => e = .returned v.d.val ∧ RowKit.Below W.heap.size W w' := by
  have := lread_any s hs W
  rw [h] at this; exact this
theorem cRead (s : ByteArray) (v : V) (hs : s.size ≤ 1000) (h : readS s.data.toList = .ok v) (W : World) (hG : G W) :
    Calls Tryd.prog 8 #[.string s] W fun e w' => e = .returned (.tuple #[v.d.val, .int .i64 0]) ∧ RowKit.Below W.heap.size W w' := by
  have := Read_any s hs W hG
  rw [h, R.ok_val] at this; exact this
theorem cReadE (s : ByteArray) (k : Int) (hs : s.size ≤ 1000) (h : readS s.data.toList = .err k) (W : World) (hG : G W) :
    Calls Tryd.prog 8 #[.string s] W fun e w' => e = .returned (.tuple #[.agg #[.bool false, .string ⟨#[]⟩, .int .i64 0], .int .i64 k]) ∧ RowKit.Below W.heap.size W w' := by
  have := Read_any s hs W hG
  rw [h] at this; exact this
theorem ctext (v : V) (t : ByteArray) (hv : v.ok) (h : textL v = t.data.toList) (W : World) :
    Calls Tryd.prog 21 #[v.d.val, .int .i64 0] W fun e w' => e = .returned (.string t) ∧ RowKit.Below W.heap.size W w' := by
  have := ltext_ok v hv W
  rw [h, mk_toList] at this; exact this
theorem cAdd (a b v : V) (ha : a.ok) (hb : b.ok) (h : addS a b = .ok v) (W : World) :
    Calls Tryd.prog 9 #[a.d.val, b.d.val] W fun e w' => e = .returned (.tuple #[v.d.val, .int .i64 0]) ∧ RowKit.Below W.heap.size W w' := by
  have := Add_ok a b ha hb W
  rw [h, R.ok_val] at this; exact this
theorem cMul (a b v : V) (ha : a.ok) (hb : b.ok) (h : mulS a b = .ok v) (W : World) :
    Calls Tryd.prog 10 #[a.d.val, b.d.val] W fun e w' => e = .returned (.tuple #[v.d.val, .int .i64 0]) ∧ RowKit.Below W.heap.size W w' := by
  have := Mul_ok a b ha hb W
  rw [h, R.ok_val] at this; exact this
theorem cDiv (a b v : V) (sc : Nat) (k : Int) (hk : (sc : Int) = k) (ha : a.ok) (hb : b.ok) (hsc : sc ≤ 60) (hb0 : b.n ≠ 0) (hmo : 0 < sc + b.s - a.s) (h : divS a b sc = .ok v) (W : World) :
    Calls Tryd.prog 13 #[a.d.val, b.d.val, .int .i64 k] W fun e w' => e = .returned (.tuple #[v.d.val, .int .i64 0]) ∧ RowKit.Below W.heap.size W w' := by
  have := Div_up a b ha hb sc hsc hb0 hmo W
  rw [h, R.ok_val, hk] at this; exact this
theorem cDiv0 (a b : V) (sc : Int) (ha : a.ok) (hb : b.ok) (hb0 : b.n = 0) (W : World) :
    Calls Tryd.prog 13 #[a.d.val, b.d.val, .int .i64 sc] W fun e w' => e = .returned (.tuple #[.agg #[.bool false, .string ⟨#[]⟩, .int .i64 0], .int .i64 2]) ∧ RowKit.Below W.heap.size W w' := by
  have h1 := ha.len
  have h2 := hb.len
  exact Div_by0 a.d b.d sc (by show (decB a.n).size ≤ _; unfold maxLen; omega) (by show (decB b.n).size ≤ _; unfold maxLen; omega) (by rw [V.check ha, V.check hb]; rfl) (by show (decB b.n).toList = _; rw [hb0, ByteArray.toList_eq]; exact dec_zero) W
theorem cRound (a v : V) (sc : Nat) (k : Int) (hk : (sc : Int) = k) (ha : a.ok) (hsc : sc ≤ 60) (hle : ¬ a.s ≤ sc) (h : roundS a sc = .ok v) (W : World) :
    Calls Tryd.prog 16 #[a.d.val, .int .i64 k] W fun e w' => e = .returned (.tuple #[v.d.val, .int .i64 0]) ∧ RowKit.Below W.heap.size W w' := by
  have := Round_ok a ha sc hsc hle W
  rw [h, R.ok_val, hk] at this; exact this
theorem cDig (v : V) (t : Int) (hv : v.ok) (h : ((max v.s (dec v.n).length : Nat) : Int) = t) (k : Int) (hk : (v.s : Int) = k) (W : World) :
    Calls Tryd.prog 20 #[v.d.val] W fun e w' => e = .returned (.tuple #[.int .i64 t, .int .i64 k, .int .i64 0]) ∧ RowKit.Below W.heap.size W w' := by
  have := Digits_ok v hv W
  rw [h, hk] at this; exact this
theorem cCmp (a b : V) (k : Int) (ha : a.ok) (hb : b.ok) (h : cmpS a b = k) (W : World) :
    Calls Tryd.prog 12 #[a.d.val, b.d.val] W fun e w' => e = .returned (.tuple #[.int .i64 k, .int .i64 0]) ∧ RowKit.Below W.heap.size W w' := by
  have := Cmp_ok a b ha hb W
  rw [h] at this; exact this
def vx0 : V := ⟨false, 1, 0⟩
theorem vx0ok : vx0.ok := ⟨by decide, by decide, by decide, by decide⟩
def vx1 : V := ⟨false, 0, 0⟩
theorem vx1ok : vx1.ok := ⟨by decide, by decide, by decide, by decide⟩
def vx2 : V := ⟨true, 1, 0⟩
theorem vx2ok : vx2.ok := ⟨by decide, by decide, by decide, by decide⟩
def vx3 : V := ⟨false, 5, 1⟩
theorem vx3ok : vx3.ok := ⟨by decide, by decide, by decide, by decide⟩
def vx4 : V := ⟨false, 1, 3⟩
theorem vx4ok : vx4.ok := ⟨by decide, by decide, by decide, by decide⟩
def vx5 : V := ⟨false, 75, 1⟩
theorem vx5ok : vx5.ok := ⟨by decide, by decide, by decide, by decide⟩
def vx6 : V := ⟨false, 1, 1⟩
theorem vx6ok : vx6.ok := ⟨by decide, by decide, by decide, by decide⟩
def vx7 : V := ⟨false, 2, 1⟩
theorem vx7ok : vx7.ok := ⟨by decide, by decide, by decide, by decide⟩
def vx8 : V := ⟨false, 3, 1⟩
theorem vx8ok : vx8.ok := ⟨by decide, by decide, by decide, by decide⟩
def vx9 : V := ⟨true, 15, 1⟩
theorem vx9ok : vx9.ok := ⟨by decide, by decide, by decide, by decide⟩
def vx10 : V := ⟨true, 3, 1⟩
theorem vx10ok : vx10.ok := ⟨by decide, by decide, by decide, by decide⟩
def vx11 : V := ⟨false, 2, 0⟩
theorem vx11ok : vx11.ok := ⟨by decide, by decide, by decide, by decide⟩
def vx12 : V := ⟨false, 3, 0⟩
theorem vx12ok : vx12.ok := ⟨by decide, by decide, by decide, by decide⟩
def vx13 : V := ⟨false, 6666, 4⟩
theorem vx13ok : vx13.ok := ⟨by decide, by decide, by decide, by decide⟩
def vx14 : V := ⟨false, 25, 1⟩
theorem vx14ok : vx14.ok := ⟨by decide, by decide, by decide, by decide⟩
def vx15 : V := ⟨false, 35, 1⟩
theorem vx15ok : vx15.ok := ⟨by decide, by decide, by decide, by decide⟩
def vx16 : V := ⟨false, 4, 0⟩
theorem vx16ok : vx16.ok := ⟨by decide, by decide, by decide, by decide⟩
theorem rfdot : readS (⟨#[46]⟩ : ByteArray).data.toList = .err 6 := by kernel_rfl
theorem rf1 : readS (⟨#[49]⟩ : ByteArray).data.toList = .ok vx0 := by kernel_rfl
theorem rf2 : readS (⟨#[48]⟩ : ByteArray).data.toList = .ok vx1 := by kernel_rfl
theorem rf3 : readS (⟨#[45, 49]⟩ : ByteArray).data.toList = .ok vx2 := by kernel_rfl
theorem rf4 : readS (⟨#[48, 46, 53]⟩ : ByteArray).data.toList = .ok vx3 := by kernel_rfl
theorem rf5 : readS (⟨#[48, 46, 48, 48, 49]⟩ : ByteArray).data.toList = .ok vx4 := by kernel_rfl
theorem rf6 : readS (⟨#[43, 48, 48, 55, 46, 53, 48]⟩ : ByteArray).data.toList = .ok vx5 := by kernel_rfl
theorem rf7 : readS (⟨#[45, 46, 48]⟩ : ByteArray).data.toList = .ok vx1 := by kernel_rfl
theorem rf8 : readS (⟨#[48, 46, 49]⟩ : ByteArray).data.toList = .ok vx6 := by kernel_rfl
theorem rf9 : readS (⟨#[48, 46, 50]⟩ : ByteArray).data.toList = .ok vx7 := by kernel_rfl
theorem rf10 : readS (⟨#[45, 49, 46, 53]⟩ : ByteArray).data.toList = .ok vx9 := by kernel_rfl
theorem rf11 : readS (⟨#[48, 46, 50]⟩ : ByteArray).data.toList = .ok vx7 := by kernel_rfl
theorem rf12 : readS (⟨#[50]⟩ : ByteArray).data.toList = .ok vx11 := by kernel_rfl
theorem rf13 : readS (⟨#[51]⟩ : ByteArray).data.toList = .ok vx12 := by kernel_rfl
theorem rf14 : readS (⟨#[50, 46, 53]⟩ : ByteArray).data.toList = .ok vx14 := by kernel_rfl
theorem rf15 : readS (⟨#[51, 46, 53]⟩ : ByteArray).data.toList = .ok vx15 := by kernel_rfl
theorem ft0 : cmpS vx2 vx3 = -1 := by kernel_rfl
theorem ft1 : ((max vx4.s (dec vx4.n).length : Nat) : Int) = 3 := by kernel_rfl
theorem ft2 : textL vx5 = (⟨#[55, 46, 53]⟩ : ByteArray).data.toList := by kernel_rfl
theorem ft3 : textL vx1 = (⟨#[48]⟩ : ByteArray).data.toList := by kernel_rfl
theorem ft4 : addS vx6 vx7 = .ok vx8 := by kernel_rfl
theorem ft5 : textL vx8 = (⟨#[48, 46, 51]⟩ : ByteArray).data.toList := by kernel_rfl
theorem ft6 : mulS vx9 vx7 = .ok vx10 := by kernel_rfl
theorem ft7 : textL vx10 = (⟨#[45, 48, 46, 51]⟩ : ByteArray).data.toList := by kernel_rfl
theorem ft8 : divS vx11 vx12 4 = .ok vx13 := by kernel_rfl
theorem ft9 : textL vx13 = (⟨#[48, 46, 54, 54, 54, 54]⟩ : ByteArray).data.toList := by kernel_rfl
theorem ft10 : roundS vx14 0 = .ok vx11 := by kernel_rfl
theorem ft11 : textL vx11 = (⟨#[50]⟩ : ByteArray).data.toList := by kernel_rfl
theorem ft12 : roundS vx15 0 = .ok vx16 := by kernel_rfl
theorem ft13 : textL vx16 = (⟨#[52]⟩ : ByteArray).data.toList := by kernel_rfl
theorem cOf (W : World) (hG : G W) : Calls Tryd.prog 22 #[.int .i64 (-12)] W fun e w' => e = .returned (.agg #[.bool true, .string ⟨#[49, 50]⟩, .int .i64 0]) ∧ RowKit.Below W.heap.size W w' := by
  have := Of_any (-12) (by decide) (by decide) W hG
  rw [show (V.mk (decide ((-12 : Int) < 0)) (-12 : Int).natAbs 0).d.val = .agg #[.bool true, .string ⟨#[49, 50]⟩, .int .i64 0] by kernel_rfl] at this
  exact this
theorem cread12 (W : World) : Calls Tryd.prog 19 #[.string ⟨#[45, 49, 50]⟩] W fun e w' => e = .returned (.agg #[.bool true, .string ⟨#[49, 50]⟩, .int .i64 0]) ∧ RowKit.Below W.heap.size W w' := by
  have := lread_any ⟨#[45, 49, 50]⟩ (by decide) W
  rw [show (readS (⟨#[45, 49, 50]⟩ : ByteArray).data.toList).d.val = .agg #[.bool true, .string ⟨#[49, 50]⟩, .int .i64 0] by kernel_rfl] at this
  exact this
set_option maxRecDepth 100000 in
set_option maxHeartbeats 8000000 in
theorem shown_any (w : World) (hG : G w) : Calls Tryd.prog 6 #[] w fun e w' => e = .returned (.bool true) ∧ RowKit.Below w.heap.size w w' := by
  go_enter Tryd.func6, Tryd.ntmps6
  go_wp2_with (go_at_call 8; with_reducible refine (cReadE ⟨#[46]⟩ 6 (by decide) rfdot _ hG).mono ?_)
  rintro e W0 ⟨rfl, hb0⟩
  have HB0 := Lib.hid hb0
  clear hb0
  go_wp2_with (go_at_call 19; with_reducible refine (cread ⟨#[49]⟩ vx0 (by decide) rf1 _).mono ?_)
  rintro e W1 ⟨rfl, hb1⟩
  have HB1 := Lib.hid (b_step hb1 (b_alloc HB0.out))
  clear hb1 HB0
  go_wp2_with (go_at_call 19; with_reducible refine (cread ⟨#[48]⟩ vx1 (by decide) rf2 _).mono ?_)
  rintro e W2 ⟨rfl, hb2⟩
  have HB2 := Lib.hid (b_step hb2 HB1.out)
  clear hb2 HB1
  go_wp2_with (go_at_call 13; with_reducible refine (cDiv0 vx0 vx1 2 vx0ok vx1ok rfl _).mono ?_)
  rintro e W3 ⟨rfl, hb3⟩
  have HB3 := Lib.hid (b_step hb3 HB2.out)
  clear hb3 HB2
  go_wp2_with (go_at_call 19; with_reducible refine (cread ⟨#[45, 49]⟩ vx2 (by decide) rf3 _).mono ?_)
  rintro e W4 ⟨rfl, hb4⟩
  have HB4 := Lib.hid (b_step hb4 (b_alloc HB3.out))
  clear hb4 HB3
  go_wp2_with (go_at_call 19; with_reducible refine (cread ⟨#[48, 46, 53]⟩ vx3 (by decide) rf4 _).mono ?_)
  rintro e W5 ⟨rfl, hb5⟩
  have HB5 := Lib.hid (b_step hb5 HB4.out)
  clear hb5 HB4
  go_wp2_with (go_at_call 12; with_reducible refine (cCmp vx2 vx3 (-1) vx2ok vx3ok ft0 _).mono ?_)
  rintro e W6 ⟨rfl, hb6⟩
  have HB6 := Lib.hid (b_step hb6 HB5.out)
  clear hb6 HB5
  go_wp2_with (go_at_call 19; with_reducible refine (cread ⟨#[48, 46, 48, 48, 49]⟩ vx4 (by decide) rf5 _).mono ?_)
  rintro e W7 ⟨rfl, hb7⟩
  have HB7 := Lib.hid (b_step hb7 HB6.out)
  clear hb7 HB6
  go_wp2_with (go_at_call 20; with_reducible refine (cDig vx4 3 vx4ok ft1 3 rfl _).mono ?_)
  rintro e W8 ⟨rfl, hb8⟩
  have HB8 := Lib.hid (b_step hb8 HB7.out)
  clear hb8 HB7
  go_wp2_with (go_at_call 8; with_reducible refine (cRead ⟨#[43, 48, 48, 55, 46, 53, 48]⟩ vx5 (by decide) rf6 _ (hG.later HB8.out)).mono ?_)
  rintro e W9 ⟨rfl, hb9⟩
  have HB9 := Lib.hid (b_step hb9 HB8.out)
  clear hb9 HB8
  go_wp2_with (go_at_call 21; with_reducible refine (ctext vx5 ⟨#[55, 46, 53]⟩ vx5ok ft2 _).mono ?_)
  rintro e W10 ⟨rfl, hb10⟩
  have HB10 := Lib.hid (b_step hb10 HB9.out)
  clear hb10 HB9
  go_wp2_with (go_at_call 8; with_reducible refine (cRead ⟨#[45, 46, 48]⟩ vx1 (by decide) rf7 _ (hG.later HB10.out)).mono ?_)
  rintro e W11 ⟨rfl, hb11⟩
  have HB11 := Lib.hid (b_step hb11 HB10.out)
  clear hb11 HB10
  go_wp2_with (go_at_call 21; with_reducible refine (ctext vx1 ⟨#[48]⟩ vx1ok ft3 _).mono ?_)
  rintro e W12 ⟨rfl, hb12⟩
  have HB12 := Lib.hid (b_step hb12 HB11.out)
  clear hb12 HB11
  go_wp2_with (go_at_call 19; with_reducible refine (cread ⟨#[48, 46, 49]⟩ vx6 (by decide) rf8 _).mono ?_)
  rintro e W13 ⟨rfl, hb13⟩
  have HB13 := Lib.hid (b_step hb13 HB12.out)
  clear hb13 HB12
  go_wp2_with (go_at_call 19; with_reducible refine (cread ⟨#[48, 46, 50]⟩ vx7 (by decide) rf9 _).mono ?_)
  rintro e W14 ⟨rfl, hb14⟩
  have HB14 := Lib.hid (b_step hb14 HB13.out)
  clear hb14 HB13
  go_wp2_with (go_at_call 9; with_reducible refine (cAdd vx6 vx7 vx8 vx6ok vx7ok ft4 _).mono ?_)
  rintro e W15 ⟨rfl, hb15⟩
  have HB15 := Lib.hid (b_step hb15 HB14.out)
  clear hb15 HB14
  go_wp2_with (go_at_call 21; with_reducible refine (ctext vx8 ⟨#[48, 46, 51]⟩ vx8ok ft5 _).mono ?_)
  rintro e W16 ⟨rfl, hb16⟩
  have HB16 := Lib.hid (b_step hb16 HB15.out)
  clear hb16 HB15
  go_wp2_with (go_at_call 19; with_reducible refine (cread ⟨#[45, 49, 46, 53]⟩ vx9 (by decide) rf10 _).mono ?_)
  rintro e W17 ⟨rfl, hb17⟩
  have HB17 := Lib.hid (b_step hb17 HB16.out)
  clear hb17 HB16
  go_wp2_with (go_at_call 19; with_reducible refine (cread ⟨#[48, 46, 50]⟩ vx7 (by decide) rf11 _).mono ?_)
  rintro e W18 ⟨rfl, hb18⟩
  have HB18 := Lib.hid (b_step hb18 HB17.out)
  clear hb18 HB17
  go_wp2_with (go_at_call 10; with_reducible refine (cMul vx9 vx7 vx10 vx9ok vx7ok ft6 _).mono ?_)
  rintro e W19 ⟨rfl, hb19⟩
  have HB19 := Lib.hid (b_step hb19 HB18.out)
  clear hb19 HB18
  go_wp2_with (go_at_call 21; with_reducible refine (ctext vx10 ⟨#[45, 48, 46, 51]⟩ vx10ok ft7 _).mono ?_)
  rintro e W20 ⟨rfl, hb20⟩
  have HB20 := Lib.hid (b_step hb20 HB19.out)
  clear hb20 HB19
  go_wp2_with (go_at_call 19; with_reducible refine (cread ⟨#[50]⟩ vx11 (by decide) rf12 _).mono ?_)
  rintro e W21 ⟨rfl, hb21⟩
  have HB21 := Lib.hid (b_step hb21 HB20.out)
  clear hb21 HB20
  go_wp2_with (go_at_call 19; with_reducible refine (cread ⟨#[51]⟩ vx12 (by decide) rf13 _).mono ?_)
  rintro e W22 ⟨rfl, hb22⟩
  have HB22 := Lib.hid (b_step hb22 HB21.out)
  clear hb22 HB21
  go_wp2_with (go_at_call 13; with_reducible refine (cDiv vx11 vx12 vx13 4 4 rfl vx11ok vx12ok (by decide) (by decide) (by decide) ft8 _).mono ?_)
  rintro e W23 ⟨rfl, hb23⟩
  have HB23 := Lib.hid (b_step hb23 HB22.out)
  clear hb23 HB22
  go_wp2_with (go_at_call 21; with_reducible refine (ctext vx13 ⟨#[48, 46, 54, 54, 54, 54]⟩ vx13ok ft9 _).mono ?_)
  rintro e W24 ⟨rfl, hb24⟩
  have HB24 := Lib.hid (b_step hb24 HB23.out)
  clear hb24 HB23
  go_wp2_with (go_at_call 19; with_reducible refine (cread ⟨#[50, 46, 53]⟩ vx14 (by decide) rf14 _).mono ?_)
  rintro e W25 ⟨rfl, hb25⟩
  have HB25 := Lib.hid (b_step hb25 HB24.out)
  clear hb25 HB24
  go_wp2_with (go_at_call 16; with_reducible refine (cRound vx14 vx11 0 0 rfl vx14ok (by decide) (by decide) ft10 _).mono ?_)
  rintro e W26 ⟨rfl, hb26⟩
  have HB26 := Lib.hid (b_step hb26 HB25.out)
  clear hb26 HB25
  go_wp2_with (go_at_call 21; with_reducible refine (ctext vx11 ⟨#[50]⟩ vx11ok ft11 _).mono ?_)
  rintro e W27 ⟨rfl, hb27⟩
  have HB27 := Lib.hid (b_step hb27 HB26.out)
  clear hb27 HB26
  go_wp2_with (go_at_call 19; with_reducible refine (cread ⟨#[51, 46, 53]⟩ vx15 (by decide) rf15 _).mono ?_)
  rintro e W28 ⟨rfl, hb28⟩
  have HB28 := Lib.hid (b_step hb28 HB27.out)
  clear hb28 HB27
  go_wp2_with (go_at_call 16; with_reducible refine (cRound vx15 vx16 0 0 rfl vx15ok (by decide) (by decide) ft12 _).mono ?_)
  rintro e W29 ⟨rfl, hb29⟩
  have HB29 := Lib.hid (b_step hb29 HB28.out)
  clear hb29 HB28
  go_wp2_with (go_at_call 21; with_reducible refine (ctext vx16 ⟨#[52]⟩ vx16ok ft13 _).mono ?_)
  rintro e W30 ⟨rfl, hb30⟩
  have HB30 := Lib.hid (b_step hb30 HB29.out)
  clear hb30 HB29
  go_wp2_with (go_at_call 22; with_reducible refine (cOf _ (hG.later HB30.out)).mono ?_)
  rintro e W31 ⟨rfl, hb31⟩
  have HB31 := Lib.hid (b_step hb31 HB30.out)
  clear hb31 HB30
  go_wp2_with (go_at_call 19; with_reducible refine (cread12 _).mono ?_)
  rintro e W32 ⟨rfl, hb32⟩
  have HB32 := Lib.hid (b_step hb32 HB31.out)
  clear hb32 HB31
  go_wp2
  go_ret
  exact ⟨rfl, HB32.out⟩
end Dc
end Go.Proofs.YthnpbkplcboejaaDoor
