/- Texts of the proofs of this seat, put together: StWiderL. -/
import Derived.Test.YtffgdpkogokdhaaPk16

namespace Go.Vm.St
open Go.Proofs Go.Vm.Vat
set_option linter.unusedSimpArgs false
set_option linter.unusedVariables false
set_option maxRecDepth 10000
variable {n : Nat} {h : AHeap}
/-- a part with a state behind it -/
theorem seqQ {X : Cx} {A : SCode} {K : Go.Vm.Fr → AHeap → List Nat → Prop} {Q : WPost} {f : Go.Vm.Fr} {m : List Nat} (R : Go.Vm.Fr → AHeap → List Nat → Prop) (h1 : W X A (thenQ R Q) f h m) (h3 : ∀ f h m, R f h m → K f h m) : W X A (thenQ K Q) f h m := by
  refine W_mono A _ _ (fun e f h m hq => ?_) f h m h1
  cases e with
  | norm => exact h3 _ _ _ hq
  | exit i => exact hq
  | ret => exact hq
/-- what has been found of a steep and its wider copy, at the end -/
def WidEnd (S : MS) (wv vv sv : Value) (h : AHeap) (a3 : Nat) (f : Go.Vm.Fr) (g : AHeap) (ms : List Nat) : Prop :=
  ms = [] ∧ f 3 = .int .u8 (a3 : Int) ∧ f 4 = .pointer (some ⟨h.next, 0, none⟩) ∧ f 9 = .pointer (some ⟨h.next + 1, 0, none⟩) ∧ Sub All h g ∧ g.floor = h.floor ∧ h.next ≤ g.next ∧ g.next ≤ h.next + 20 ∧ Row g h.next (stL S wv vv sv) ∧
    ∃ X WV VV, Row g (h.next + 1) (stL X WV VV sv) ∧ SteepR g WV VV sv X ∧ WidS S X
def s17 : SCode := (.seq (.ops [⟨(some 4), none, .box (T 0)⟩, ⟨(some 8), none, .mov (.const (.bool false))⟩]) (.seq (.seq (.ops [⟨(some 21), none, .loadN 7 (T 4)⟩, ⟨(some 22), none, .call (.func 59) [(T 21)]⟩, ⟨(some 23), none, .not (T 22)⟩]) (.cond (T 23) (.seq (.ops [⟨(some 24), none, .call (.func 24) []⟩, ⟨(some 8), none, .mov (T 24)⟩]) .ret) .skip)) (.seq (.ops [⟨(some 25), none, .loadN 7 (T 4)⟩, ⟨(some 9), none, .alloc [(.int .i64 (0)), (.int .i64 (0)), (.slice none 0 0), (.int .i64 (0)), (.int .i64 (0)), (.slice none 0 0), (.slice none 0 0)]⟩, ⟨none, none, .store 7 (T 9) (T 25)⟩]) (.seq (.draw [⟨.up, ⟨(some 26), none, .bslice 2 0 [(.int .i64 (0)), (.int .i64 (0))] [] []⟩⟩, ⟨.free, ⟨(some 27), none, .fieldAddr 2 (T 4)⟩⟩, ⟨.rd, ⟨(some 28), none, .load1 (T 27)⟩⟩, ⟨.up, ⟨(some 29), none, .append 2 16 (T 26) (T 28)⟩⟩, ⟨.up, ⟨(some 30), none, .bslice 4 0 [(.int .i64 (0)), (.int .i64 (0)), (.int .i64 (0)), (.int .i64 (0))] [] []⟩⟩, ⟨.free, ⟨(some 31), none, .fieldAddr 5 (T 4)⟩⟩, ⟨.rd, ⟨(some 32), none, .load1 (T 31)⟩⟩, ⟨.any, ⟨(some 33), none, .append 4 32 (T 30) (T 32)⟩⟩, ⟨.free, ⟨(some 34), none, .fieldAddr 2 (T 9)⟩⟩, ⟨.any, ⟨none, none, .store 1 (T 34) (T 29)⟩⟩, ⟨.free, ⟨(some 35), none, .fieldAddr 5 (T 9)⟩⟩, ⟨.any, ⟨none, none, .store 1 (T 35) (T 33)⟩⟩]) (.seq (.ops [⟨(some 36), none, .fieldAddr 3 (T 9)⟩, ⟨(some 10), none, .mov (T 36)⟩]) (.seq (.ops [⟨(some 37), none, .mov (T 1)⟩, ⟨(some 38), none, .plain (.convert 5 3 (T 37)) 3⟩, ⟨(some 39), none, .fieldAddr 2 (T 9)⟩, ⟨(some 40), none, .load1 (T 39)⟩, ⟨(some 41), none, .len (T 40)⟩, ⟨(some 42), none, .int2 .add (.const (.int .i64 (1))) (T 41)⟩, ⟨(some 43), none, .fieldAddr 5 (T 9)⟩, ⟨(some 44), none, .load1 (T 43)⟩, ⟨(some 45), none, .len (T 44)⟩, ⟨(some 46), none, .int2 .add (T 42) (T 45)⟩, ⟨(some 47), none, .plain (.binOp .rem 3 (T 38) (T 46) 3) 3⟩, ⟨(some 11), none, .mov (T 47)⟩]) (.seq (.seq (.ops [⟨(some 48), none, .mov (T 11)⟩, ⟨(some 49), none, .fieldAddr 2 (T 9)⟩, ⟨(some 50), none, .load1 (T 49)⟩, ⟨(some 51), none, .len (T 50)⟩, ⟨(some 52), none, .int2 .gtr (T 48) (T 51)⟩]) (.cond (T 52) (.ops [⟨(some 53), none, .fieldAddr 5 (T 9)⟩, ⟨(some 54), none, .load1 (T 53)⟩, ⟨(some 55), none, .mov (T 11)⟩, ⟨(some 56), none, .fieldAddr 2 (T 9)⟩, ⟨(some 57), none, .load1 (T 56)⟩, ⟨(some 58), none, .len (T 57)⟩, ⟨(some 59), none, .int2 .sub (T 55) (T 58)⟩, ⟨(some 60), none, .int2 .sub (T 59) (.const (.int .i64 (1)))⟩, ⟨(some 61), none, .idxSl 4 (T 54) (T 60)⟩, ⟨(some 62), none, .fieldAddr 1 (T 61)⟩, ⟨(some 10), none, .mov (T 62)⟩]) (.seq (.ops [⟨(some 63), none, .mov (T 11)⟩, ⟨(some 64), none, .int2 .gtr (T 63) (.const (.int .i64 (0)))⟩]) (.cond (T 64) (.ops [⟨(some 65), none, .fieldAddr 2 (T 9)⟩, ⟨(some 66), none, .load1 (T 65)⟩, ⟨(some 67), none, .mov (T 11)⟩, ⟨(some 68), none, .int2 .sub (T 67) (.const (.int .i64 (1)))⟩, ⟨(some 69), none, .idxSl 2 (T 66) (T 68)⟩, ⟨(some 10), none, .mov (T 69)⟩]) .skip)))) (.seq (.draw [⟨.free, ⟨(some 70), none, .mov (T 10)⟩⟩, ⟨.free, ⟨(some 71), none, .mov (T 10)⟩⟩, ⟨.free, ⟨(some 72), none, .mov (T 10)⟩⟩, ⟨.free, ⟨(some 73), none, .there (T 72)⟩⟩, ⟨.free, ⟨(some 74), none, .fieldAddr 0 (T 73)⟩⟩, ⟨.rd1, ⟨(some 75), none, .load1 (T 74)⟩⟩, ⟨.free, ⟨(some 76), none, .mov (T 2)⟩⟩, ⟨.free, ⟨(some 77), none, .plain (.convert 5 3 (T 76)) 3⟩⟩, ⟨.free, ⟨(some 78), none, .plain (.binOp .rem 3 (T 77) (.const (.int .i64 (2))) 3) 3⟩⟩, ⟨.free, ⟨(some 79), none, .int2 .sub (T 75) (T 78)⟩⟩, ⟨.free, ⟨(some 80), none, .mov (T 10)⟩⟩, ⟨.free, ⟨(some 81), none, .there (T 80)⟩⟩, ⟨.free, ⟨(some 82), none, .fieldAddr 1 (T 81)⟩⟩, ⟨.rd1, ⟨(some 83), none, .load1 (T 82)⟩⟩, ⟨.free, ⟨(some 84), none, .mov (T 2)⟩⟩, ⟨.free, ⟨(some 85), none, .plain (.convert 5 3 (T 84)) 3⟩⟩, ⟨.free, ⟨(some 86), none, .plain (.binOp .quo 3 (T 85) (.const (.int .i64 (2))) 3) 3⟩⟩, ⟨.free, ⟨(some 87), none, .plain (.binOp .rem 3 (T 86) (.const (.int .i64 (2))) 3) 3⟩⟩, ⟨.free, ⟨(some 88), none, .int2 .add (T 83) (T 87)⟩⟩, ⟨.free, ⟨(some 89), none, .there (T 70)⟩⟩, ⟨.free, ⟨(some 90), none, .fieldAddr 0 (T 89)⟩⟩, ⟨.any, ⟨none, none, .store 1 (T 90) (T 79)⟩⟩, ⟨.free, ⟨(some 91), none, .there (T 71)⟩⟩, ⟨.free, ⟨(some 92), none, .fieldAddr 1 (T 91)⟩⟩, ⟨.any, ⟨none, none, .store 1 (T 92) (T 88)⟩⟩]) (.seq (.seq (.ops [⟨(some 93), none, .loadN 7 (T 9)⟩, ⟨(some 94), none, .call (.func 59) [(T 93)]⟩, ⟨(some 95), none, .not (T 94)⟩]) (.cond (T 95) (.seq (.ops [⟨(some 96), none, .call (.func 24) []⟩, ⟨(some 8), none, .mov (T 96)⟩]) .ret) .skip)) (.seq (.ops [⟨(some 98), none, .loadN 7 (T 4)⟩, ⟨(some 99), none, .call (.func 26) [(T 98)]⟩, ⟨(some 100), none, .call (.func 52) [(T 99)]⟩, ⟨(some 97), none, .mov (T 100)⟩, ⟨(some 101), none, .extract 0 (T 97)⟩, ⟨(some 102), none, .extract 1 (T 97)⟩, ⟨(some 12), none, .mov (T 101)⟩, ⟨(some 13), none, .mov (T 102)⟩]) (.seq (.ops [⟨(some 104), none, .loadN 7 (T 9)⟩, ⟨(some 105), none, .call (.func 26) [(T 104)]⟩, ⟨(some 106), none, .call (.func 52) [(T 105)]⟩, ⟨(some 103), none, .mov (T 106)⟩, ⟨(some 107), none, .extract 0 (T 103)⟩, ⟨(some 108), none, .extract 1 (T 103)⟩, ⟨(some 14), none, .mov (T 107)⟩, ⟨(some 15), none, .mov (T 108)⟩]) (.seq (.seq (.ops [⟨(some 109), none, .mov (T 13)⟩, ⟨(some 110), none, .int2 .neq (T 109) (.const (.int .i64 (0)))⟩, ⟨(some 111), none, .mov (T 110)⟩, ⟨(some 112), (some (111, false)), .mov (T 15)⟩, ⟨(some 113), (some (111, false)), .int2 .neq (T 112) (.const (.int .i64 (0)))⟩, ⟨(some 114), none, .pick (T 111) (.const (.bool true)) (T 113)⟩, ⟨(some 115), none, .mov (T 114)⟩, ⟨(some 116), (some (115, false)), .mov (T 14)⟩, ⟨(some 117), (some (115, false)), .len (T 116)⟩, ⟨(some 118), (some (115, false)), .mov (T 12)⟩, ⟨(some 119), (some (115, false)), .len (T 118)⟩, ⟨(some 120), (some (115, false)), .int2 .gtr (T 117) (T 119)⟩, ⟨(some 121), none, .pick (T 115) (.const (.bool true)) (T 120)⟩]) (.cond (T 121) (.seq (.ops [⟨(some 8), none, .mov (.const (.bool false))⟩]) .ret) .skip)) (.seq (.seq (.ops [⟨(some 122), none, .mov (T 12)⟩, ⟨(some 123), none, .len (T 122)⟩, ⟨(some 124), none, .int2 .gtr (T 123) (.const (.int .i64 (0)))⟩, ⟨(some 125), none, .mov (T 124)⟩, ⟨(some 126), (some (125, false)), .fieldAddr 5 (T 4)⟩, ⟨(some 127), (some (125, false)), .load1 (T 126)⟩, ⟨(some 128), (some (125, false)), .len (T 127)⟩, ⟨(some 129), (some (125, false)), .int2 .eql (T 128) (.const (.int .i64 (0)))⟩, ⟨(some 130), none, .pick (T 125) (.const (.bool true)) (T 129)⟩]) (.cond (T 130) (.seq (.ops [⟨(some 131), none, .call (.func 24) []⟩, ⟨(some 8), none, .mov (T 131)⟩]) .ret) .skip)) (.seq (.ops [⟨(some 132), none, .mov (T 3)⟩, ⟨(some 133), none, .plain (.convert 5 3 (T 132)) 3⟩, ⟨(some 134), none, .fieldAddr 5 (T 4)⟩, ⟨(some 135), none, .load1 (T 134)⟩, ⟨(some 136), none, .len (T 135)⟩, ⟨(some 137), none, .plain (.binOp .rem 3 (T 133) (T 136) 3) 3⟩, ⟨(some 16), none, .mov (T 137)⟩]) (.seq (.ops [⟨(some 139), none, .loadN 7 (T 4)⟩, ⟨(some 140), none, .call (.func 26) [(T 139)]⟩, ⟨(some 141), none, .mov (T 16)⟩, ⟨(some 142), none, .call (.func 35) [(T 140), (T 141)]⟩, ⟨(some 138), none, .mov (T 142)⟩, ⟨(some 143), none, .extract 0 (T 138)⟩, ⟨(some 144), none, .extract 1 (T 138)⟩, ⟨(some 17), none, .mov (T 143)⟩, ⟨(some 18), none, .mov (T 144)⟩]) (.seq (.ops [⟨(some 146), none, .loadN 7 (T 9)⟩, ⟨(some 147), none, .call (.func 26) [(T 146)]⟩, ⟨(some 148), none, .mov (T 16)⟩, ⟨(some 149), none, .call (.func 35) [(T 147), (T 148)]⟩, ⟨(some 145), none, .mov (T 149)⟩, ⟨(some 150), none, .extract 0 (T 145)⟩, ⟨(some 151), none, .extract 1 (T 145)⟩, ⟨(some 19), none, .mov (T 150)⟩, ⟨(some 20), none, .mov (T 151)⟩]) (.seq (.ops [⟨(some 152), none, .mov (T 18)⟩, ⟨(some 153), none, .int2 .eql (T 152) (.const (.int .i64 (0)))⟩, ⟨(some 154), none, .mov (T 153)⟩, ⟨(some 155), (some (154, true)), .mov (T 20)⟩, ⟨(some 156), (some (154, true)), .int2 .eql (T 155) (.const (.int .i64 (0)))⟩, ⟨(some 157), none, .pick (T 154) (T 156) (.const (.bool false))⟩, ⟨(some 158), none, .mov (T 157)⟩, ⟨(some 159), (some (158, true)), .mov (T 17)⟩, ⟨(some 160), (some (158, true)), .mov (T 19)⟩, ⟨(some 161), (some (158, true)), .call (.func 66) [(T 159), (T 160)]⟩, ⟨(some 162), none, .pick (T 158) (T 161) (.const (.bool false))⟩, ⟨(some 163), none, .mov (T 162)⟩, ⟨(some 164), (some (163, true)), .loadN 7 (T 9)⟩, ⟨(some 165), (some (163, true)), .loadN 7 (T 4)⟩, ⟨(some 166), (some (163, true)), .mov (T 16)⟩, ⟨(some 167), (some (163, true)), .call (.func 67) [(T 164), (T 165), (T 166)]⟩, ⟨(some 168), none, .pick (T 163) (T 167) (.const (.bool false))⟩, ⟨(some 169), none, .mov (T 168)⟩, ⟨(some 170), (some (169, true)), .call (.func 24) []⟩, ⟨(some 171), none, .pick (T 169) (T 170) (.const (.bool false))⟩, ⟨(some 8), none, .mov (T 171)⟩]) .ret)))))))))))))))))
theorem fok17 : FnOk Try.prog 17 172 s17 [.tmp 8] := ⟨Try.f17, _, Try.func17, rfl, Try.ntmps17, by kernel_rfl, by kernel_rfl⟩
set_option maxHeartbeats 4000000 in
theorem wider_m (hn : 3100 ≤ n) (hr : h.next + 9000000 < far) (hfl : h.floor ≤ h.next) {wv vv sv : Value} {S : MS} (hy : SteepR h wv vv sv S) (hth : ThinS S) (hf : faultS S = 0) {a1 a2 a3 : Nat} (w1 : a1 < 256) (w2 : a2 < 256) (w3 : a3 < 256) :
    ∃ v h', call n (.func (.func 17) #[] #[]) [.agg ⟨stL S wv vv sv⟩, .int .u8 (a1 : Int), .int .u8 (a2 : Int), .int .u8 (a3 : Int)] h = some (v, h') ∧ v = .bool true := by
  obtain ⟨n, rfl⟩ : ∃ p, n = p + 1 := ⟨n - 1, by omega⟩
  refine call_any0 fok17 rfl rfl (by simp) ?_
  simp only [s17, W_seq, W_ops]
  refine ops_box (cs := stL S wv vv sv) (by omega) rfl hy.one fun g1 hx1 => ?_
  have n1 := hx1.next
  have f1 := hx1.floor
  have e1 : g1.next = h.next + 1 := n1
  have hy1 := hy.mono hx1.sub
  have x1 := hx1.row.whole (n := 7) rfl
  have er := ready_c (n := n) (h := g1) (by omega) (by omega) hy1
  rw [decide_eq_true (show ThinS S ∧ faultS S = 0 from ⟨hth, hf⟩)] at er
  have hG := good_of hf
  obtain ⟨zl0, zl5, zw, zw6, zv4, z5, _, _, zs0, zs1, zs2⟩ := hG.sizes
  simp only [rn0, rn1, rn2, rn3, rn4, rn5, rn6, rn7, rn8, if_true, if_false, Nat.le_refl, true_and, and_true, decide_true, decide_false, Bool.not_true, Bool.not_false, reduceIte, Nat.reduceEqDiff, Nat.reduceAdd, Nat.reduceMul, Nat.reduceSub, Nat.reduceLeDiff, Nat.reduceLT, x1, er]
  refine step_new (vs := stL S wv vv sv) (by omega) (by omega) rfl (by simp only [rn0, rn1, rn2, rn3, rn4, rn5, rn6, rn7, rn8, if_true, if_false, Nat.le_refl, true_and, and_true, decide_true, decide_false, Bool.not_true, Bool.not_false, reduceIte, Nat.reduceEqDiff, Nat.reduceAdd, Nat.reduceMul, Nat.reduceSub, Nat.reduceLeDiff, Nat.reduceLT]; rfl) hy.one rfl rfl fun g2 hx2 => ?_
  have n2 := hx2.next
  have f2 := hx2.floor
  have e2 : g2.next = h.next + 2 := by omega
  have sub2 : Sub All h g2 := hx1.sub.trans hx2.sub
  have hy2 := hy.mono sub2
  have ry2 : Row g2 h.next (stL S wv vv sv) := hx1.row.mono hx2.sub
  have rx2 : g2.get (h.next + 1) = some (.row (stL S wv vv sv) true 0) := by have := hx2.get; rw [e1] at this; exact this
  obtain ⟨xf, kf, ef, lf⟩ := Cells.list (by omega) hy2.w
  obtain ⟨xs, ks, es, ls⟩ := Cells.list (by omega) hy2.v
  have old2 : ∀ i, i < h.next → g2.get i = h.get i := fun i hi => by rw [hx2.old i (by omega), hx1.old i hi]
  rw [e1]
  simp only [rn0, rn1, rn2, rn3, rn4, rn5, rn6, rn7, rn8, if_true, if_false, Nat.le_refl, true_and, and_true, decide_true, decide_false, Bool.not_true, Bool.not_false, reduceIte, Nat.reduceEqDiff, Nat.reduceAdd, Nat.reduceMul, Nat.reduceSub, Nat.reduceLeDiff, Nat.reduceLT]
  refine seqQ (fun f g ms => ms = [] ∧ f 1 = .int .u8 (a1 : Int) ∧ f 2 = .int .u8 (a2 : Int) ∧ f 3 = .int .u8 (a3 : Int) ∧ f 4 = .pointer (some ⟨h.next, 0, none⟩) ∧ f 9 = .pointer (some ⟨h.next + 1, 0, none⟩) ∧ Sub All h g ∧ g.floor = h.floor ∧ h.next + 5 ≤ g.next ∧ g.next ≤ h.next + 10 ∧ Row g h.next (stL S wv vv sv) ∧
    ∃ WV VV, CopyR h g (h.next + 1) (h.next + 3) (h.next + 5) WV VV sv S) ?_ ?_
  · refine W_draw All ?_
    simp only [rn0, rn1, rn2, rn3, rn4, rn5, rn6, rn7, rn8, if_true, if_false, Nat.le_refl, true_and, and_true, decide_true, decide_false, Bool.not_true, Bool.not_false, reduceIte, Nat.reduceEqDiff, Nat.reduceAdd, Nat.reduceMul, Nat.reduceSub, Nat.reduceLeDiff, Nat.reduceLT, build_none2]
    refine up_slice (by omega) rfl (fun g3 hx => hx.sub) fun g3 hx3 => ?_
    have n3 := hx3.next
    have f3 := hx3.floor
    have hap := append_none (h := g3) (s := 2) (bytes := 16) (b := g2.next) ⟨xf, kf, ef⟩ (cells_sub hx3.sub hy2.w (by omega) lf) flatL_len (by simp [maxBytes]; omega) (by simp [maxBytes]; omega)
    rw [if_neg (by omega)] at hap
    have hap : appendA 2 16 g3 (.slice (some ⟨g2.next, 0, none⟩) 0 0) wv = newSlice g3 (rngL S.nw S.wlo S.whi) S.nw unk 2 := hap
    simp only [rn0, rn1, rn2, rn3, rn4, rn5, rn6, rn7, rn8, if_true, if_false, Nat.le_refl, true_and, and_true, decide_true, decide_false, Bool.not_true, Bool.not_false, reduceIte, Nat.reduceEqDiff, Nat.reduceAdd, Nat.reduceMul, Nat.reduceSub, Nat.reduceLeDiff, Nat.reduceLT, ry2.ld, stg, Nat.zero_add, Cells.self hy2.w, hap]
    refine up_slice (by omega) flatL_one (fun g4 hx => hx3.sub.trans hx.sub) fun g4 hx4 => ?_
    have n4 := hx4.next
    have f4 := hx4.floor
    simp only [rn0, rn1, rn2, rn3, rn4, rn5, rn6, rn7, rn8, if_true, if_false, Nat.le_refl, true_and, and_true, decide_true, decide_false, Bool.not_true, Bool.not_false, reduceIte, Nat.reduceEqDiff, Nat.reduceAdd, Nat.reduceMul, Nat.reduceSub, Nat.reduceLeDiff, Nat.reduceLT, build_none4]
    refine up_slice (by omega) rfl (fun g5 hx => hx3.sub.trans (hx4.sub.trans hx.sub)) fun g5 hx5 => ?_
    have n5 := hx5.next
    have f5 := hx5.floor
    have sub5 : Sub All g2 g5 := hx3.sub.trans (hx4.sub.trans hx5.sub)
    have old5 : ∀ i, i < g2.next → g5.get i = g2.get i := fun i hi => by rw [hx5.old i (by omega), hx4.old i (by omega), hx3.old i hi]
    have hap2 := append_none (h := g5) (s := 4) (bytes := 32) (b := g4.next) ⟨xs, ks, es⟩ (cells_sub sub5 hy2.v (by omega) ls) flatL_len (by simp [maxBytes]; omega) (by simp [maxBytes]; omega)
    have gx5 : g5.get (h.next + 1) = some (.row (stL S wv vv sv) true 0) := sub5 _ _ _ _ trivial rx2
    have gF5 : g5.get (h.next + 3) = some (.row (rngL S.nw S.wlo S.whi) true 2) := by
      rw [hx5.old _ (by omega)]
      have := hx4.get
      rw [show g3.next = h.next + 3 by omega] at this
      exact this
    have ry5 := ry2.mono sub5
    by_cases hns : S.nv = 0
    · rw [if_pos hns] at hap2
      simp only [rn0, rn1, rn2, rn3, rn4, rn5, rn6, rn7, rn8, if_true, if_false, Nat.le_refl, true_and, and_true, decide_true, decide_false, Bool.not_true, Bool.not_false, reduceIte, Nat.reduceEqDiff, Nat.reduceAdd, Nat.reduceMul, Nat.reduceSub, Nat.reduceLeDiff, Nat.reduceLT, ry2.ld, stg, Nat.zero_add, Cells.self hy2.v, hap2]
      refine up_store (b := h.next + 1) (off := 2) (vs := [.slice (some ⟨g3.next, 0, none⟩) S.nw unk]) rfl gx5 (by omega) (by omega) rfl rfl rfl (by simp [stL]) (fun _ _ => trivial) fun g6 hs6 => ?_
      have n6 := hs6.next
      have f6 := hs6.floor
      simp only [rn0, rn1, rn2, rn3, rn4, rn5, rn6, rn7, rn8, if_true, if_false, Nat.le_refl, true_and, and_true, decide_true, decide_false, Bool.not_true, Bool.not_false, reduceIte, Nat.reduceEqDiff, Nat.reduceAdd, Nat.reduceMul, Nat.reduceSub, Nat.reduceLeDiff, Nat.reduceLT]
      refine up_store (b := h.next + 1) (off := 5) (vs := [.slice (some ⟨g4.next, 0, none⟩) 0 0]) rfl hs6.get (by omega) (by omega) rfl rfl rfl (by simp [splice, stL]) (fun _ _ => trivial) fun g7 hs7 => ?_
      have n7 := hs7.next
      have f7 := hs7.floor
      have hcs : splice (splice (stL S wv vv sv) 2 [.slice (some ⟨g3.next, 0, none⟩) S.nw unk]) 5 [.slice (some ⟨g4.next, 0, none⟩) 0 0] = stL S (.slice (some ⟨h.next + 3, 0, none⟩) S.nw unk) (.slice (some ⟨g4.next, 0, none⟩) 0 0) sv := by rw [show g3.next = h.next + 3 by omega]; rfl
      rw [hcs] at hs7
      simp only [rn0, rn1, rn2, rn3, rn4, rn5, rn6, rn7, rn8, if_true, if_false, Nat.le_refl, true_and, and_true, decide_true, decide_false, Bool.not_true, Bool.not_false, reduceIte, Nat.reduceEqDiff, Nat.reduceAdd, Nat.reduceMul, Nat.reduceSub, Nat.reduceLeDiff, Nat.reduceLT]
      have old7 : ∀ i, i ≠ h.next + 1 → g7.get i = g5.get i := fun i hi => by rw [hs7.old i hi, hs6.old i hi]
      have old7h : ∀ i, i < h.next → g7.get i = h.get i := fun i hi => by rw [old7 i (by omega), old5 i (by omega), old2 i hi]
      refine ⟨AHeap.subOf old7h, by omega, by omega, by omega, ?_, _, _, ⟨hs7.get, rfl, by rw [old7 _ (by omega)]; exact gF5, fun hp => absurd hp (by omega), fun _ g c => ⟨_, _, rfl, fun x e => by cases e; rfl, .inl rfl⟩, hy.s, old7h, by omega, by omega⟩⟩
      obtain ⟨w, gr, e⟩ := ry5
      exact ⟨w, gr, by rw [old7 _ (by omega)]; exact e⟩
    · rw [if_neg hns] at hap2
      have hap2 : appendA 4 32 g5 (.slice (some ⟨g4.next, 0, none⟩) 0 0) vv = newSlice g5 (flatL 4 S.nv (vatC S)) S.nv unk 4 := hap2
      simp only [rn0, rn1, rn2, rn3, rn4, rn5, rn6, rn7, rn8, if_true, if_false, Nat.le_refl, true_and, and_true, decide_true, decide_false, Bool.not_true, Bool.not_false, reduceIte, Nat.reduceEqDiff, Nat.reduceAdd, Nat.reduceMul, Nat.reduceSub, Nat.reduceLeDiff, Nat.reduceLT, ry2.ld, stg, Nat.zero_add, Cells.self hy2.v, hap2]
      refine up_slice (by omega) flatL_one (fun _ _ => trivial) fun g6 hx6 => ?_
      have n6 := hx6.next
      have f6 := hx6.floor
      simp only [rn0, rn1, rn2, rn3, rn4, rn5, rn6, rn7, rn8, if_true, if_false, Nat.le_refl, true_and, and_true, decide_true, decide_false, Bool.not_true, Bool.not_false, reduceIte, Nat.reduceEqDiff, Nat.reduceAdd, Nat.reduceMul, Nat.reduceSub, Nat.reduceLeDiff, Nat.reduceLT]
      refine up_store (b := h.next + 1) (off := 2) (vs := [.slice (some ⟨g3.next, 0, none⟩) S.nw unk]) rfl (hx6.sub _ _ _ _ trivial gx5) (by omega) (by omega) rfl rfl rfl (by simp [stL]) (fun _ _ => trivial) fun g7 hs7 => ?_
      have n7 := hs7.next
      have f7 := hs7.floor
      simp only [rn0, rn1, rn2, rn3, rn4, rn5, rn6, rn7, rn8, if_true, if_false, Nat.le_refl, true_and, and_true, decide_true, decide_false, Bool.not_true, Bool.not_false, reduceIte, Nat.reduceEqDiff, Nat.reduceAdd, Nat.reduceMul, Nat.reduceSub, Nat.reduceLeDiff, Nat.reduceLT]
      refine up_store (b := h.next + 1) (off := 5) (vs := [.slice (some ⟨g5.next, 0, none⟩) S.nv unk]) rfl hs7.get (by omega) (by omega) rfl rfl rfl (by simp [splice, stL]) (fun _ _ => trivial) fun g8 hs8 => ?_
      have n8 := hs8.next
      have f8 := hs8.floor
      have hcs : splice (splice (stL S wv vv sv) 2 [.slice (some ⟨g3.next, 0, none⟩) S.nw unk]) 5 [.slice (some ⟨g5.next, 0, none⟩) S.nv unk] = stL S (.slice (some ⟨h.next + 3, 0, none⟩) S.nw unk) (.slice (some ⟨h.next + 5, 0, none⟩) S.nv unk) sv := by rw [show g3.next = h.next + 3 by omega, show g5.next = h.next + 5 by omega]; rfl
      rw [hcs] at hs8
      simp only [rn0, rn1, rn2, rn3, rn4, rn5, rn6, rn7, rn8, if_true, if_false, Nat.le_refl, true_and, and_true, decide_true, decide_false, Bool.not_true, Bool.not_false, reduceIte, Nat.reduceEqDiff, Nat.reduceAdd, Nat.reduceMul, Nat.reduceSub, Nat.reduceLeDiff, Nat.reduceLT]
      have old8 : ∀ i, i < h.next + 5 → i ≠ h.next + 1 → g8.get i = g5.get i := fun i hi hne => by rw [hs8.old i hne, hs7.old i hne, hx6.old i (by omega)]
      have old8h : ∀ i, i < h.next → g8.get i = h.get i := fun i hi => by rw [old8 i (by omega) (by omega), old5 i (by omega), old2 i hi]
      have gS8 : g8.get (h.next + 5) = some (.row (flatL 4 S.nv (vatC S)) true 4) := by
        rw [hs8.old _ (by omega), hs7.old _ (by omega)]
        have := hx6.get
        rw [show g5.next = h.next + 5 by omega] at this
        exact this
      refine ⟨AHeap.subOf old8h, by omega, by omega, by omega, ?_, _, _, ⟨hs8.get, rfl, by rw [old8 _ (by omega) (by omega)]; exact gF5, fun hp => ⟨rfl, gS8⟩, fun c => absurd c hns, hy.s, old8h, by omega, by omega⟩⟩
      obtain ⟨w, gr, e⟩ := ry5
      exact ⟨w, gr, by rw [old8 _ (by omega) (by omega)]; exact e⟩
  · rintro f g ms ⟨rfl, p1, p2, p3, p4, p9, sg, fg, lg, bg, ry, WV, VV, hC⟩
    have hs := hC.steep
    have rx : Row g (h.next + 1) (stL S WV VV sv) := ⟨_, _, hC.row⟩
    obtain ⟨w, hw⟩ : ∃ w, w = a1 % (1 + S.nw + S.nv) := ⟨_, rfl⟩
    have hwl : w < 1 + S.nw + S.nv := by rw [hw]; exact Nat.mod_lt _ (by omega)
    have m1 : (a1 : Int).tmod ((1 + S.nw + S.nv : Nat) : Int) = (w : Int) := by rw [hw]; rfl
    have zz : ¬ ((1 + S.nw + S.nv : Nat) : Int) = 0 := by omega
    have hwa : wrapF .i64 (1 + (S.nw : Int)) = ((1 + S.nw : Nat) : Int) := by rw [wrap_in (by omega) (by omega)]; rfl
    have hwb : wrapF .i64 (((1 + S.nw : Nat) : Int) + (S.nv : Int)) = ((1 + S.nw + S.nv : Nat) : Int) := by rw [wrap_in (by omega) (by omega)]; rfl
    simp only [rn0, rn1, rn2, rn3, rn4, rn5, rn6, rn7, rn8, if_true, if_false, Nat.le_refl, true_and, and_true, decide_true, decide_false, Bool.not_true, Bool.not_false, reduceIte, Nat.reduceEqDiff, Nat.reduceAdd, Nat.reduceMul, Nat.reduceSub, Nat.reduceLeDiff, Nat.reduceLT, p1, p2, p3, p4, p9, p_conv8, r_8 w1, valN_tmp, valN_const, Nat.reduceLT, rx.ld, stg, Nat.zero_add, Cells.len hs.w, Cells.len hs.v, hwa, hwb, zz, p_rem, r_rem zz, m1]
    refine cond2_merge (fun f g' ms => g' = g ∧ ms = [] ∧ f 2 = .int .u8 (a2 : Int) ∧ f 3 = .int .u8 (a3 : Int) ∧ f 4 = .pointer (some ⟨h.next, 0, none⟩) ∧ f 9 = .pointer (some ⟨h.next + 1, 0, none⟩) ∧ ∃ b off, h.next < b ∧ f 10 = .pointer (some ⟨b, off, none⟩) ∧ TurnsTo g (h.next + 1) b off sv S) ?_ ?_ ?_
    · intro hc
      have c1' : (S.nw : Int) < (w : Int) := of_decide_eq_true hc
      · skip
        obtain ⟨i, hi⟩ : ∃ i, w = S.nw + 1 + i := ⟨w - S.nw - 1, by omega⟩
        have hin : i < S.nv := by omega
        have hw1 : wrapF .i64 ((w : Int) - (S.nw : Int)) = (((i + 1 : Nat)) : Int) := by rw [wrap_in (by omega) (by omega)]; omega
        have hw2 : wrapF .i64 (((i + 1 : Nat) : Int) - 1) = (i : Int) := by rw [wrap_in (by omega) (by omega)]; omega
        obtain ⟨eV, hV⟩ := hC.v (by omega)
        have iV : indexSl 4 VV (.int .i64 (i : Int)) = some (.pointer (some ⟨h.next + 5, i * 4, none⟩)) := by rw [eV]; exact idxSl_s hin
        simp only [rn0, rn1, rn2, rn3, rn4, rn5, rn6, rn7, rn8, if_true, if_false, Nat.le_refl, true_and, and_true, decide_true, decide_false, Bool.not_true, Bool.not_false, reduceIte, Nat.reduceEqDiff, Nat.reduceAdd, Nat.reduceMul, Nat.reduceSub, Nat.reduceLeDiff, Nat.reduceLT, p1, p2, p3, p4, p9, rx.ld, stg, Nat.zero_add, Cells.len hs.w, c1', hw1, hw2, iV]
        exact ⟨_, _, by omega, rfl, hC.vat hG hin⟩
    · intro hc
      have c1' : ¬ (S.nw : Int) < (w : Int) := of_decide_eq_false hc
      · skip
        by_cases c2 : 0 < w
        · have c2' : (0 : Int) < (w : Int) := by omega
          obtain ⟨i, hi⟩ : ∃ i, w = i + 1 := ⟨w - 1, by omega⟩
          have hin : i < S.nw := by omega
          have hw1 : wrapF .i64 ((w : Int) - 1) = (i : Int) := by rw [wrap_in (by omega) (by omega)]; omega
          have iV : indexSl 2 WV (.int .i64 (i : Int)) = some (.pointer (some ⟨h.next + 3, i * 2, none⟩)) := by rw [hC.w]; exact idxSl_s hin
          simp only [rn0, rn1, rn2, rn3, rn4, rn5, rn6, rn7, rn8, if_true, if_false, Nat.le_refl, true_and, and_true, decide_true, decide_false, Bool.not_true, Bool.not_false, reduceIte, Nat.reduceEqDiff, Nat.reduceAdd, Nat.reduceMul, Nat.reduceSub, Nat.reduceLeDiff, Nat.reduceLT, p1, p2, p3, p4, p9, rx.ld, stg, Nat.zero_add, Cells.len hs.w, c1', c2', hw1, iV]
          exact ⟨_, _, by omega, rfl, hC.warm hG hin⟩
        · have c2' : ¬ (0 : Int) < (w : Int) := by omega
          simp only [rn0, rn1, rn2, rn3, rn4, rn5, rn6, rn7, rn8, if_true, if_false, Nat.le_refl, true_and, and_true, decide_true, decide_false, Bool.not_true, Bool.not_false, reduceIte, Nat.reduceEqDiff, Nat.reduceAdd, Nat.reduceMul, Nat.reduceSub, Nat.reduceLeDiff, Nat.reduceLT, p1, p2, p3, p4, p9, rx.ld, stg, Nat.zero_add, Cells.len hs.w, c1', c2']
          exact ⟨_, _, by omega, rfl, hC.spoil hG⟩
    · rintro f g' ms ⟨rfl, rfl, p2, p3, p4, p9, b, off, hb, p10, gr, cs, lo, hi, hgb, hlen, hlo, hhi, l0, l1, h0, h1, hT⟩
      have rb : Row g' b cs := ⟨_, _, hgb⟩
      have q1 : loadCell g' (.pointer (some ⟨b, off, none⟩)) = some (.int .i64 lo) := by rw [rb.ld]; exact hlo
      have q2 : loadCell g' (.pointer (some ⟨b, off + 1, none⟩)) = some (.int .i64 hi) := by rw [rb.ld]; exact hhi
      have y2 : ¬ (2 : Int) = 0 := by decide
      have t1 : (a2 : Int).tmod 2 = ((a2 % 2 : Nat) : Int) := rfl
      have t2 := quoN (d := 2) w2
      have t2' : IntKind.wrap .i64 ((a2 : Int).tdiv 2) = ((a2 / 2 : Nat) : Int) := t2
      have t3 : ((a2 / 2 : Nat) : Int).tmod 2 = ((a2 / 2 % 2 : Nat) : Int) := rfl
      have hw1 : wrapF .i64 (lo - ((a2 % 2 : Nat) : Int)) = lo - ((a2 % 2 : Nat) : Int) := wrap_in (by omega) (by omega)
      have hw2 : wrapF .i64 (hi + ((a2 / 2 % 2 : Nat) : Int)) = hi + ((a2 / 2 % 2 : Nat) : Int) := wrap_in (by omega) (by omega)
      obtain ⟨LO, hLO⟩ : ∃ x, x = lo - ((a2 % 2 : Nat) : Int) := ⟨_, rfl⟩
      obtain ⟨HI, hHI⟩ : ∃ x, x = hi + ((a2 / 2 % 2 : Nat) : Int) := ⟨_, rfl⟩
      rw [← hLO] at hw1
      rw [← hHI] at hw2
      have hw1 : wrapF .i64 (lo - ((a2 % 2 : Nat) : Int)) = LO := by rw [← hLO]; exact hw1
      have hw2 : wrapF .i64 (hi + ((a2 / 2 % 2 : Nat) : Int)) = HI := by rw [← hHI]; exact hw2
      have hsl : (splice cs off [.int .i64 LO]).length = cs.length := by simp only [splice, List.length_append, List.length_take, List.length_drop, List.length_cons, List.length_nil]; omega
      refine seqQ (WidEnd S wv vv sv h a3) ?_ ?_
      · refine W_draw All ?_
        simp only [rn0, rn1, rn2, rn3, rn4, rn5, rn6, rn7, rn8, if_true, if_false, Nat.le_refl, true_and, and_true, decide_true, decide_false, Bool.not_true, Bool.not_false, reduceIte, Nat.reduceEqDiff, Nat.reduceAdd, Nat.reduceMul, Nat.reduceSub, Nat.reduceLeDiff, Nat.reduceLT, p2, p3, p4, p9, p10, there_p, q1, q2, p_conv8, r_8 w2, valN_tmp, valN_const, Nat.reduceLT, y2, p_rem, r_rem y2, p_quo, r_quo y2, t1, t2', t3, hw1, hw2, Nat.add_zero]
        refine up_store (b := b) (off := off) (vs := [.int .i64 LO]) rfl hgb (by omega) (by omega) rfl rfl rfl (by omega) (fun _ _ => trivial) fun g5 hs5 => ?_
        have n5 := hs5.next
        have f5 := hs5.floor
        simp only [rn0, rn1, rn2, rn3, rn4, rn5, rn6, rn7, rn8, if_true, if_false, Nat.le_refl, true_and, and_true, decide_true, decide_false, Bool.not_true, Bool.not_false, reduceIte, Nat.reduceEqDiff, Nat.reduceAdd, Nat.reduceMul, Nat.reduceSub, Nat.reduceLeDiff, Nat.reduceLT, there_p, p10]
        refine up_store (b := b) (off := off + 1) (vs := [.int .i64 HI]) rfl hs5.get (by omega) (by omega) rfl rfl rfl (by omega) (fun _ _ => trivial) fun g6 hs6 => ?_
        have n6 := hs6.next
        have f6 := hs6.floor
        simp only [rn0, rn1, rn2, rn3, rn4, rn5, rn6, rn7, rn8, if_true, if_false, Nat.le_refl, true_and, and_true, decide_true, decide_false, Bool.not_true, Bool.not_false, reduceIte, Nat.reduceEqDiff, Nat.reduceAdd, Nat.reduceMul, Nat.reduceSub, Nat.reduceLeDiff, Nat.reduceLT, p3, p4, p9]
        have old6 : ∀ i, i ≠ b → g6.get i = g'.get i := fun i hi => by rw [hs6.old i hi, hs5.old i hi]
        obtain ⟨X, W, V, k1, k2, k3⟩ := hT LO HI g5 g6 (by omega) (by omega) hs5 hs6
        refine ⟨rfl, p3, p4, p9, fun i cs w gr t hg => ?_, by omega, by omega, by omega, ?_, X, W, V, k1, k2, k3⟩
        · have := AHeap.lt_of_get hg
          rw [old6 i (by omega)]; exact sg _ _ _ _ t hg
        · obtain ⟨w, gr, e⟩ := ry
          exact ⟨w, gr, by rw [old6 _ (by omega)]; exact e⟩
      · rintro f g ms ⟨rfl, p3, p4, p9, sg, fg, lg, bg, ry, X, WV, VV, rx, hX, hWid⟩
        have wy := ry.whole (n := 7) rfl
        have wx := rx.whole (n := 7) rfl
        have erx := ready_c (n := n) (h := g) (by omega) (by omega) hX
        have hTX : ThinS X := ⟨by rw [hWid.nw]; exact hth.1, by rw [hWid.nv]; exact hth.2.1, by rw [hWid.ns]; exact hth.2.2⟩
        by_cases hfx : faultS X = 0
        case neg =>
          rw [decide_eq_false fun e => hfx e.2] at erx
          simp only [rn0, rn1, rn2, rn3, rn4, rn5, rn6, rn7, rn8, if_true, if_false, Nat.le_refl, true_and, and_true, decide_true, decide_false, Bool.not_true, Bool.not_false, reduceIte, Nat.reduceEqDiff, Nat.reduceAdd, Nat.reduceMul, Nat.reduceSub, Nat.reduceLeDiff, Nat.reduceLT, p3, p4, p9, wx, erx, awake_c (n := n) (h := g) (by omega)]
        rw [decide_eq_true ⟨hTX, hfx⟩] at erx
        have hGX := good_of hfx
        have hSg := hy.mono sg
        obtain ⟨w7, v7, s7, g7, e7, hy7, o7, u7, m7, f7⟩ := steepL_c (n := n) (h := g) (by omega) (by omega) (by omega) hSg hth
        obtain ⟨l8, g8, e8, o8, u8, m8, f8, hL1⟩ := leaveP_c (n := n) (h := g7) (by omega) (by omega) (by omega) hy7 hth
        have s8 : Sub All g g8 := (AHeap.subOf o7).trans (AHeap.subOf o8)
        obtain ⟨w9, v9, s9', g9, e9, hy9, o9, u9, m9, f9⟩ := steepL_c (n := n) (h := g8) (by omega) (by omega) (by omega) (hX.mono s8) hTX
        obtain ⟨l10, g10, e10, o10, u10, m10, f10, hL2⟩ := leaveP_c (n := n) (h := g9) (by omega) (by omega) (by omega) hy9 hTX
        have s10 : Sub All g8 g10 := (AHeap.subOf o9).trans (AHeap.subOf o10)
        have sg10 : Sub All g g10 := s8.trans s10
        rcases hL1 with ⟨h0, _⟩ | ⟨_, l1, rfl, hl1, _⟩
        · exact absurd hf h0
        rcases hL2 with ⟨h0, _⟩ | ⟨_, l2, rfl, hl2, _⟩
        · exact absurd hfx h0
        have wx8 := (rx.mono s8).whole (n := 7) rfl
        have ry10 := ry.mono sg10
        have rx10 := rx.mono sg10
        have hS10 := hSg.mono sg10
        have hX10 := hX.mono sg10
        have hle := hWid.leave hG hGX
        have hle' : ¬ ((leaveS S).length : Int) < ((leaveS X).length : Int) := by omega
        have haw := awake_c (n := n) (h := g10) (by omega)
        have hl1' := Cells.mono hl1 s10
        have b10 : g10.next ≤ h.next + 4000000 := by omega
        have fg10 : g10.floor ≤ g10.next := by omega
        by_cases hz : leaveS S = []
        case neg =>
          have hpos : (0 : Int) < ((leaveS S).length : Int) := by have := List.length_pos_iff.2 hz; omega
          simp only [rn0, rn1, rn2, rn3, rn4, rn5, rn6, rn7, rn8, if_true, if_false, Nat.le_refl, true_and, and_true, decide_true, decide_false, Bool.not_true, Bool.not_false, reduceIte, Nat.reduceEqDiff, Nat.reduceAdd, Nat.reduceMul, Nat.reduceSub, Nat.reduceLeDiff, Nat.reduceLT, p3, p4, p9, wx, erx, wy, e7, e8, ex0, ex1, wx8, e9, e10, Cells.len hl1', Cells.len hl2, hle', hpos, haw]
        have hz0 : (leaveS S).length = 0 := by rw [hz]; rfl
        have hpos : ¬ (0 : Int) < ((leaveS S).length : Int) := by omega
        by_cases hv : S.nv = 0
        · have hv' : (S.nv : Int) = 0 := by omega
          simp only [rn0, rn1, rn2, rn3, rn4, rn5, rn6, rn7, rn8, if_true, if_false, Nat.le_refl, true_and, and_true, decide_true, decide_false, Bool.not_true, Bool.not_false, reduceIte, Nat.reduceEqDiff, Nat.reduceAdd, Nat.reduceMul, Nat.reduceSub, Nat.reduceLeDiff, Nat.reduceLT, p3, p4, p9, wx, erx, wy, e7, e8, ex0, ex1, wx8, e9, e10, Cells.len hl1', Cells.len hl2, hle', hpos, ry10.ld, stg, Nat.zero_add, Cells.len hS10.v, hv', haw]
        have hv' : ¬ (S.nv : Int) = 0 := by omega
        have hzs := leave_nil hG hz
        have hzx : truthsS X ≠ [] := by
          obtain ⟨t, ht⟩ := List.exists_mem_of_ne_nil _ hzs
          exact List.ne_nil_of_mem (hWid.truth ht)
        obtain ⟨o, ho⟩ : ∃ o : Nat, o = a3 % S.nv := ⟨_, rfl⟩
        have hov : o < S.nv := by rw [ho]; exact Nat.mod_lt _ (by omega)
        have ho' : (a3 : Int).tmod (S.nv : Int) = (o : Int) := by rw [ho]; rfl
        obtain ⟨w11, v11, s11, g11, e11, hy11, o11, u11, m11, f11⟩ := steepL_c (n := n) (h := g10) (by omega) (by omega) (by omega) hS10 hth
        obtain ⟨t12, g12, e12, s12, u12, m12, f12, hO1⟩ := out_c (n := n) (h := g11) (by omega) (by omega) (by omega) hy11 hth (o : Int)
        have sub12 : Sub All g10 g12 := (AHeap.subOf o11).trans s12
        obtain ⟨w13, v13, s13, g13, e13, hy13, o13, u13, m13, f13⟩ := steepL_c (n := n) (h := g12) (by omega) (by omega) (by omega) (hX10.mono sub12) hTX
        obtain ⟨t14, g14, e14, s14, u14, m14, f14, hO2⟩ := out_c (n := n) (h := g13) (by omega) (by omega) (by omega) hy13 hTX (o : Int)
        have sub14 : Sub All g12 g14 := (AHeap.subOf o13).trans s14
        have hi1 : InV S (o : Int) := by unfold InV; omega
        have hi2 : InV X (o : Int) := by unfold InV; rw [hWid.nv]; omega
        rcases hO1 with ⟨h0, _⟩ | ⟨_, h0, _⟩ | ⟨_, _, h0, _⟩ | ⟨_, _, _, r1, rfl, hr1⟩
        · exact absurd hf h0
        · exact absurd hi1 h0
        · exact absurd h0 hzs
        rcases hO2 with ⟨h0, _⟩ | ⟨_, h0, _⟩ | ⟨_, _, h0, _⟩ | ⟨_, _, _, r2, rfl, hr2⟩
        · exact absurd hfx h0
        · exact absurd hi2 h0
        · exact absurd h0 hzx
        simp only [Int.toNat_natCast] at hr1 hr2
        have hoh : hoursN S o ≤ 300 := by have hvb := (hG.args.vat o hov).1; unfold hoursN; omega
        have ein := insideL_c (n := n) (h := g14) (by omega) hoh (Cells.mono hr1 sub14) hr2 hWid.hours.symm (fun i _ => ⟨hWid.lo hzs, hWid.hi hzs⟩)
        have sub1014 := sub12.trans sub14
        have est := stay_c (n := n) (h := g14) (by omega) (by omega) (hX10.mono sub1014) hTX (hS10.mono sub1014) hth (o : Int)
        rw [hWid.stay hG hGX hzs hov] at est
        have haw14 := awake_c (n := n) (h := g14) (by omega)
        simp only [rn0, rn1, rn2, rn3, rn4, rn5, rn6, rn7, rn8, if_true, if_false, Nat.le_refl, true_and, and_true, decide_true, decide_false, Bool.not_true, Bool.not_false, reduceIte, Nat.reduceEqDiff, Nat.reduceAdd, Nat.reduceMul, Nat.reduceSub, Nat.reduceLeDiff, Nat.reduceLT, p3, p4, p9, wx, erx, wy, e7, e8, ex0, ex1, wx8, e9, e10, Cells.len hl1', Cells.len hl2, hle', hpos, ry10.ld, stg, Nat.zero_add, Cells.len hS10.v, hv', p_conv8, r_8 w3, valN_tmp, valN_const, Nat.reduceLT, p_rem, r_rem hv', ho', ry10.whole (n := 7) rfl, e11, e12, (rx10.mono sub12).whole (n := 7) rfl, e13, e14, ein, (rx10.mono sub1014).whole (n := 7) rfl, (ry10.mono sub1014).whole (n := 7) rfl, est, haw14]
theorem widerL_c (hn : 3200 ≤ n) (hr : h.next + 9000000 < far) (hfl : h.floor ≤ h.next) {wv vv sv : Value} {S : MS} (hy : SteepR h wv vv sv S) (a1 : Int) (wf1 : (Lit.int .u8 a1).wf = true) (a2 : Int) (wf2 : (Lit.int .u8 a2).wf = true) (a3 : Int) (wf3 : (Lit.int .u8 a3).wf = true) :
    ∃ v h', call n (.func (.func 17) #[] #[]) [.agg ⟨stL S wv vv sv⟩, .int .u8 a1, .int .u8 a2, .int .u8 a3] h = some (v, h') ∧ v = .bool true := by
  obtain ⟨k1, rfl, h1⟩ := wf8 wf1
  obtain ⟨k2, rfl, h2⟩ := wf8 wf2
  obtain ⟨k3, rfl, h3⟩ := wf8 wf3
  by_cases c1 : ThinS S ∧ faultS S = 0
  · exact wider_m (by omega) hr hfl hy c1.1 c1.2 h1 h2 h3
  obtain ⟨n, rfl⟩ : ∃ p, n = p + 1 := ⟨n - 1, by omega⟩
  refine call_any0 fok17 rfl rfl (by simp) ?_
  simp only [s17, W_seq, W_ops]
  refine ops_box (cs := stL S wv vv sv) (by omega) rfl hy.one fun g1 hx1 => ?_
  have n1 := hx1.next
  have hy1 := hy.mono hx1.sub
  have er := ready_c (n := n) (h := g1) (by omega) (by omega) hy1
  rw [decide_eq_false c1] at er
  simp only [rn0, rn1, rn2, rn3, rn4, rn5, rn6, rn7, rn8, if_true, if_false, Nat.le_refl, true_and, and_true, decide_true, decide_false, Bool.not_true, Bool.not_false, reduceIte, Nat.reduceEqDiff, Nat.reduceAdd, Nat.reduceMul, Nat.reduceSub, Nat.reduceLeDiff, Nat.reduceLT, hx1.row.whole (n := 7) rfl, er, awake_c (n := n) (h := g1) (by omega)]
end Go.Vm.St
