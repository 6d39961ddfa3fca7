/- Texts of the proofs of this seat, put together: StWiderL, StTurnT. -/
import Derived.Test.YtffgdpkogokdhaaPk16

namespace Go.Vm.St
open Go.Proofs Go.Vm.Vat
set_option linter.unusedSimpArgs false
set_option linter.unusedVariables false
set_option maxRecDepth 10000
variable {n : Nat} {h : AHeap}
/-- a part with a state behind it -/
theorem seqQ {X : Cx} {A : SCode} {K : Go.Vm.Fr → AHeap → List Nat → Prop} {Q : WPost} {f : Go.Vm.Fr} {m : List Nat} (R : Go.Vm.Fr → AHeap → List Nat → Prop) (h1 : W X A (thenQ R Q) f h m) (h3 : ∀ f h m, R f h m → K f h m) : W X A (thenQ K Q) f h m := by
  refine W_mono A _ _ (fun e f h m hq => ?_) f h m h1
  cases e with
  | norm => exact h3 _ _ _ hq
  | exit i => exact hq
  | ret => exact hq
def s17 : SCode := (.seq (.ops [⟨(some 4), none, .box (T 0)⟩, ⟨(some 8), none, .mov (.const (.bool false))⟩]) (.seq (.seq (.ops [⟨(some 21), none, .loadN 7 (T 4)⟩, ⟨(some 22), none, .call (.func 59) [(T 21)]⟩, ⟨(some 23), none, .not (T 22)⟩]) (.cond (T 23) (.seq (.ops [⟨(some 24), none, .call (.func 24) []⟩, ⟨(some 8), none, .mov (T 24)⟩]) .ret) .skip)) (.seq (.ops [⟨(some 25), none, .loadN 7 (T 4)⟩, ⟨(some 9), none, .alloc [(.int .i64 (0)), (.int .i64 (0)), (.slice none 0 0), (.int .i64 (0)), (.int .i64 (0)), (.slice none 0 0), (.slice none 0 0)]⟩, ⟨none, none, .store 7 (T 9) (T 25)⟩]) (.seq (.draw [⟨.up, ⟨(some 26), none, .bslice 2 0 [(.int .i64 (0)), (.int .i64 (0))] [] []⟩⟩, ⟨.free, ⟨(some 27), none, .fieldAddr 2 (T 4)⟩⟩, ⟨.rd, ⟨(some 28), none, .load1 (T 27)⟩⟩, ⟨.up, ⟨(some 29), none, .append 2 16 (T 26) (T 28)⟩⟩, ⟨.up, ⟨(some 30), none, .bslice 4 0 [(.int .i64 (0)), (.int .i64 (0)), (.int .i64 (0)), (.int .i64 (0))] [] []⟩⟩, ⟨.free, ⟨(some 31), none, .fieldAddr 5 (T 4)⟩⟩, ⟨.rd, ⟨(some 32), none, .load1 (T 31)⟩⟩, ⟨.any, ⟨(some 33), none, .append 4 32 (T 30) (T 32)⟩⟩, ⟨.free, ⟨(some 34), none, .fieldAddr 2 (T 9)⟩⟩, ⟨.any, ⟨none, none, .store 1 (T 34) (T 29)⟩⟩, ⟨.free, ⟨(some 35), none, .fieldAddr 5 (T 9)⟩⟩, ⟨.any, ⟨none, none, .store 1 (T 35) (T 33)⟩⟩]) (.seq (.ops [⟨(some 36), none, .fieldAddr 3 (T 9)⟩, ⟨(some 10), none, .mov (T 36)⟩]) (.seq (.ops [⟨(some 37), none, .mov (T 1)⟩, ⟨(some 38), none, .plain (.convert 5 3 (T 37)) 3⟩, ⟨(some 39), none, .fieldAddr 2 (T 9)⟩, ⟨(some 40), none, .load1 (T 39)⟩, ⟨(some 41), none, .len (T 40)⟩, ⟨(some 42), none, .int2 .add (.const (.int .i64 (1))) (T 41)⟩, ⟨(some 43), none, .fieldAddr 5 (T 9)⟩, ⟨(some 44), none, .load1 (T 43)⟩, ⟨(some 45), none, .len (T 44)⟩, ⟨(some 46), none, .int2 .add (T 42) (T 45)⟩, ⟨(some 47), none, .plain (.binOp .rem 3 (T 38) (T 46) 3) 3⟩, ⟨(some 11), none, .mov (T 47)⟩]) (.seq (.seq (.ops [⟨(some 48), none, .mov (T 11)⟩, ⟨(some 49), none, .fieldAddr 2 (T 9)⟩, ⟨(some 50), none, .load1 (T 49)⟩, ⟨(some 51), none, .len (T 50)⟩, ⟨(some 52), none, .int2 .gtr (T 48) (T 51)⟩]) (.cond (T 52) (.ops [⟨(some 53), none, .fieldAddr 5 (T 9)⟩, ⟨(some 54), none, .load1 (T 53)⟩, ⟨(some 55), none, .mov (T 11)⟩, ⟨(some 56), none, .fieldAddr 2 (T 9)⟩, ⟨(some 57), none, .load1 (T 56)⟩, ⟨(some 58), none, .len (T 57)⟩, ⟨(some 59), none, .int2 .sub (T 55) (T 58)⟩, ⟨(some 60), none, .int2 .sub (T 59) (.const (.int .i64 (1)))⟩, ⟨(some 61), none, .idxSl 4 (T 54) (T 60)⟩, ⟨(some 62), none, .fieldAddr 1 (T 61)⟩, ⟨(some 10), none, .mov (T 62)⟩]) (.seq (.ops [⟨(some 63), none, .mov (T 11)⟩, ⟨(some 64), none, .int2 .gtr (T 63) (.const (.int .i64 (0)))⟩]) (.cond (T 64) (.ops [⟨(some 65), none, .fieldAddr 2 (T 9)⟩, ⟨(some 66), none, .load1 (T 65)⟩, ⟨(some 67), none, .mov (T 11)⟩, ⟨(some 68), none, .int2 .sub (T 67) (.const (.int .i64 (1)))⟩, ⟨(some 69), none, .idxSl 2 (T 66) (T 68)⟩, ⟨(some 10), none, .mov (T 69)⟩]) .skip)))) (.seq (.draw [⟨.free, ⟨(some 70), none, .mov (T 10)⟩⟩, ⟨.free, ⟨(some 71), none, .mov (T 10)⟩⟩, ⟨.free, ⟨(some 72), none, .mov (T 10)⟩⟩, ⟨.free, ⟨(some 73), none, .there (T 72)⟩⟩, ⟨.free, ⟨(some 74), none, .fieldAddr 0 (T 73)⟩⟩, ⟨.rd1, ⟨(some 75), none, .load1 (T 74)⟩⟩, ⟨.free, ⟨(some 76), none, .mov (T 2)⟩⟩, ⟨.free, ⟨(some 77), none, .plain (.convert 5 3 (T 76)) 3⟩⟩, ⟨.free, ⟨(some 78), none, .plain (.binOp .rem 3 (T 77) (.const (.int .i64 (2))) 3) 3⟩⟩, ⟨.free, ⟨(some 79), none, .int2 .sub (T 75) (T 78)⟩⟩, ⟨.free, ⟨(some 80), none, .mov (T 10)⟩⟩, ⟨.free, ⟨(some 81), none, .there (T 80)⟩⟩, ⟨.free, ⟨(some 82), none, .fieldAddr 1 (T 81)⟩⟩, ⟨.rd1, ⟨(some 83), none, .load1 (T 82)⟩⟩, ⟨.free, ⟨(some 84), none, .mov (T 2)⟩⟩, ⟨.free, ⟨(some 85), none, .plain (.convert 5 3 (T 84)) 3⟩⟩, ⟨.free, ⟨(some 86), none, .plain (.binOp .quo 3 (T 85) (.const (.int .i64 (2))) 3) 3⟩⟩, ⟨.free, ⟨(some 87), none, .plain (.binOp .rem 3 (T 86) (.const (.int .i64 (2))) 3) 3⟩⟩, ⟨.free, ⟨(some 88), none, .int2 .add (T 83) (T 87)⟩⟩, ⟨.free, ⟨(some 89), none, .there (T 70)⟩⟩, ⟨.free, ⟨(some 90), none, .fieldAddr 0 (T 89)⟩⟩, ⟨.any, ⟨none, none, .store 1 (T 90) (T 79)⟩⟩, ⟨.free, ⟨(some 91), none, .there (T 71)⟩⟩, ⟨.free, ⟨(some 92), none, .fieldAddr 1 (T 91)⟩⟩, ⟨.any, ⟨none, none, .store 1 (T 92) (T 88)⟩⟩]) (.seq (.seq (.ops [⟨(some 93), none, .loadN 7 (T 9)⟩, ⟨(some 94), none, .call (.func 59) [(T 93)]⟩, ⟨(some 95), none, .not (T 94)⟩]) (.cond (T 95) (.seq (.ops [⟨(some 96), none, .call (.func 24) []⟩, ⟨(some 8), none, .mov (T 96)⟩]) .ret) .skip)) (.seq (.ops [⟨(some 98), none, .loadN 7 (T 4)⟩, ⟨(some 99), none, .call (.func 26) [(T 98)]⟩, ⟨(some 100), none, .call (.func 52) [(T 99)]⟩, ⟨(some 97), none, .mov (T 100)⟩, ⟨(some 101), none, .extract 0 (T 97)⟩, ⟨(some 102), none, .extract 1 (T 97)⟩, ⟨(some 12), none, .mov (T 101)⟩, ⟨(some 13), none, .mov (T 102)⟩]) (.seq (.ops [⟨(some 104), none, .loadN 7 (T 9)⟩, ⟨(some 105), none, .call (.func 26) [(T 104)]⟩, ⟨(some 106), none, .call (.func 52) [(T 105)]⟩, ⟨(some 103), none, .mov (T 106)⟩, ⟨(some 107), none, .extract 0 (T 103)⟩, ⟨(some 108), none, .extract 1 (T 103)⟩, ⟨(some 14), none, .mov (T 107)⟩, ⟨(some 15), none, .mov (T 108)⟩]) (.seq (.seq (.ops [⟨(some 109), none, .mov (T 13)⟩, ⟨(some 110), none, .int2 .neq (T 109) (.const (.int .i64 (0)))⟩, ⟨(some 111), none, .mov (T 110)⟩, ⟨(some 112), (some (111, false)), .mov (T 15)⟩, ⟨(some 113), (some (111, false)), .int2 .neq (T 112) (.const (.int .i64 (0)))⟩, ⟨(some 114), none, .pick (T 111) (.const (.bool true)) (T 113)⟩, ⟨(some 115), none, .mov (T 114)⟩, ⟨(some 116), (some (115, false)), .mov (T 14)⟩, ⟨(some 117), (some (115, false)), .len (T 116)⟩, ⟨(some 118), (some (115, false)), .mov (T 12)⟩, ⟨(some 119), (some (115, false)), .len (T 118)⟩, ⟨(some 120), (some (115, false)), .int2 .gtr (T 117) (T 119)⟩, ⟨(some 121), none, .pick (T 115) (.const (.bool true)) (T 120)⟩]) (.cond (T 121) (.seq (.ops [⟨(some 8), none, .mov (.const (.bool false))⟩]) .ret) .skip)) (.seq (.seq (.ops [⟨(some 122), none, .mov (T 12)⟩, ⟨(some 123), none, .len (T 122)⟩, ⟨(some 124), none, .int2 .gtr (T 123) (.const (.int .i64 (0)))⟩, ⟨(some 125), none, .mov (T 124)⟩, ⟨(some 126), (some (125, false)), .fieldAddr 5 (T 4)⟩, ⟨(some 127), (some (125, false)), .load1 (T 126)⟩, ⟨(some 128), (some (125, false)), .len (T 127)⟩, ⟨(some 129), (some (125, false)), .int2 .eql (T 128) (.const (.int .i64 (0)))⟩, ⟨(some 130), none, .pick (T 125) (.const (.bool true)) (T 129)⟩]) (.cond (T 130) (.seq (.ops [⟨(some 131), none, .call (.func 24) []⟩, ⟨(some 8), none, .mov (T 131)⟩]) .ret) .skip)) (.seq (.ops [⟨(some 132), none, .mov (T 3)⟩, ⟨(some 133), none, .plain (.convert 5 3 (T 132)) 3⟩, ⟨(some 134), none, .fieldAddr 5 (T 4)⟩, ⟨(some 135), none, .load1 (T 134)⟩, ⟨(some 136), none, .len (T 135)⟩, ⟨(some 137), none, .plain (.binOp .rem 3 (T 133) (T 136) 3) 3⟩, ⟨(some 16), none, .mov (T 137)⟩]) (.seq (.ops [⟨(some 139), none, .loadN 7 (T 4)⟩, ⟨(some 140), none, .call (.func 26) [(T 139)]⟩, ⟨(some 141), none, .mov (T 16)⟩, ⟨(some 142), none, .call (.func 35) [(T 140), (T 141)]⟩, ⟨(some 138), none, .mov (T 142)⟩, ⟨(some 143), none, .extract 0 (T 138)⟩, ⟨(some 144), none, .extract 1 (T 138)⟩, ⟨(some 17), none, .mov (T 143)⟩, ⟨(some 18), none, .mov (T 144)⟩]) (.seq (.ops [⟨(some 146), none, .loadN 7 (T 9)⟩, ⟨(some 147), none, .call (.func 26) [(T 146)]⟩, ⟨(some 148), none, .mov (T 16)⟩, ⟨(some 149), none, .call (.func 35) [(T 147), (T 148)]⟩, ⟨(some 145), none, .mov (T 149)⟩, ⟨(some 150), none, .extract 0 (T 145)⟩, ⟨(some 151), none, .extract 1 (T 145)⟩, ⟨(some 19), none, .mov (T 150)⟩, ⟨(some 20), none, .mov (T 151)⟩]) (.seq (.ops [⟨(some 152), none, .mov (T 18)⟩, ⟨(some 153), none, .int2 .eql (T 152) (.const (.int .i64 (0)))⟩, ⟨(some 154), none, .mov (T 153)⟩, ⟨(some 155), (some (154, true)), .mov (T 20)⟩, ⟨(some 156), (some (154, true)), .int2 .eql (T 155) (.const (.int .i64 (0)))⟩, ⟨(some 157), none, .pick (T 154) (T 156) (.const (.bool false))⟩, ⟨(some 158), none, .mov (T 157)⟩, ⟨(some 159), (some (158, true)), .mov (T 17)⟩, ⟨(some 160), (some (158, true)), .mov (T 19)⟩, ⟨(some 161), (some (158, true)), .call (.func 66) [(T 159), (T 160)]⟩, ⟨(some 162), none, .pick (T 158) (T 161) (.const (.bool false))⟩, ⟨(some 163), none, .mov (T 162)⟩, ⟨(some 164), (some (163, true)), .loadN 7 (T 9)⟩, ⟨(some 165), (some (163, true)), .loadN 7 (T 4)⟩, ⟨(some 166), (some (163, true)), .mov (T 16)⟩, ⟨(some 167), (some (163, true)), .call (.func 67) [(T 164), (T 165), (T 166)]⟩, ⟨(some 168), none, .pick (T 163) (T 167) (.const (.bool false))⟩, ⟨(some 169), none, .mov (T 168)⟩, ⟨(some 170), (some (169, true)), .call (.func 24) []⟩, ⟨(some 171), none, .pick (T 169) (T 170) (.const (.bool false))⟩, ⟨(some 8), none, .mov (T 171)⟩]) .ret)))))))))))))))))
end Go.Vm.St

namespace Go.Vm.St
open Go.Proofs Go.Vm.Vat
set_option linter.unusedSimpArgs false
set_option linter.unusedVariables false
set_option maxRecDepth 10000
variable {n : Nat} {h : AHeap}
theorem self_4t {x y z w : Int} : eqV (.agg ⟨[.int .i64 x, .int .i64 y, .int .i64 z, .int .i64 w]⟩) (.agg ⟨[.int .i64 x, .int .i64 y, .int .i64 z, .int .i64 w]⟩) = true := by simp [eqV, eqCells, eqC_int]
def s20 : SCode := (.seq (.ops [⟨(some 3), none, .box (T 0)⟩, ⟨(some 6), none, .mov (.const (.bool false))⟩]) (.seq (.seq (.ops [⟨(some 23), none, .loadN 7 (T 3)⟩, ⟨(some 24), none, .call (.func 59) [(T 23)]⟩, ⟨(some 25), none, .not (T 24)⟩, ⟨(some 26), none, .mov (T 25)⟩, ⟨(some 27), (some (26, false)), .fieldAddr 5 (T 3)⟩, ⟨(some 28), (some (26, false)), .load1 (T 27)⟩, ⟨(some 29), (some (26, false)), .len (T 28)⟩, ⟨(some 30), (some (26, false)), .int2 .eql (T 29) (.const (.int .i64 (0)))⟩, ⟨(some 31), none, .pick (T 26) (.const (.bool true)) (T 30)⟩]) (.cond (T 31) (.seq (.ops [⟨(some 32), none, .call (.func 24) []⟩, ⟨(some 6), none, .mov (T 32)⟩]) .ret) .skip)) (.seq (.draw [⟨.free, ⟨(some 33), none, .mov (T 1)⟩⟩, ⟨.free, ⟨(some 34), none, .plain (.convert 5 3 (T 33)) 3⟩⟩, ⟨.free, ⟨(some 35), none, .fieldAddr 5 (T 3)⟩⟩, ⟨.rd1, ⟨(some 36), none, .load1 (T 35)⟩⟩, ⟨.free, ⟨(some 37), none, .len (T 36)⟩⟩, ⟨.free, ⟨(some 38), none, .plain (.binOp .rem 3 (T 34) (T 37) 3) 3⟩⟩, ⟨.free, ⟨(some 39), none, .mov (T 2)⟩⟩, ⟨.free, ⟨(some 40), none, .plain (.convert 5 3 (T 39)) 3⟩⟩, ⟨.free, ⟨(some 41), none, .fieldAddr 5 (T 3)⟩⟩, ⟨.rd1, ⟨(some 42), none, .load1 (T 41)⟩⟩, ⟨.free, ⟨(some 43), none, .len (T 42)⟩⟩, ⟨.free, ⟨(some 44), none, .plain (.binOp .rem 3 (T 40) (T 43) 3) 3⟩⟩, ⟨.free, ⟨(some 7), none, .mov (T 38)⟩⟩, ⟨.free, ⟨(some 8), none, .mov (T 44)⟩⟩]) (.seq (.ops [⟨(some 45), none, .loadN 7 (T 3)⟩, ⟨(some 9), none, .alloc [(.int .i64 (0)), (.int .i64 (0)), (.slice none 0 0), (.int .i64 (0)), (.int .i64 (0)), (.slice none 0 0), (.slice none 0 0)]⟩, ⟨none, none, .store 7 (T 9) (T 45)⟩]) (.seq (.draw [⟨.up, ⟨(some 46), none, .bslice 4 0 [(.int .i64 (0)), (.int .i64 (0)), (.int .i64 (0)), (.int .i64 (0))] [] []⟩⟩, ⟨.free, ⟨(some 47), none, .fieldAddr 5 (T 3)⟩⟩, ⟨.rd, ⟨(some 48), none, .load1 (T 47)⟩⟩, ⟨.up, ⟨(some 49), none, .append 4 32 (T 46) (T 48)⟩⟩, ⟨.up, ⟨(some 50), none, .bslice 3 0 [(.int .i64 (0)), (.int .i64 (0)), (.int .i64 (0))] [] []⟩⟩, ⟨.free, ⟨(some 51), none, .fieldAddr 6 (T 3)⟩⟩, ⟨.rd, ⟨(some 52), none, .load1 (T 51)⟩⟩, ⟨.any, ⟨(some 53), none, .append 3 24 (T 50) (T 52)⟩⟩, ⟨.free, ⟨(some 54), none, .fieldAddr 5 (T 9)⟩⟩, ⟨.any, ⟨none, none, .store 1 (T 54) (T 49)⟩⟩, ⟨.free, ⟨(some 55), none, .fieldAddr 6 (T 9)⟩⟩, ⟨.any, ⟨none, none, .store 1 (T 55) (T 53)⟩⟩]) (.seq (.draw [⟨.free, ⟨(some 56), none, .fieldAddr 5 (T 9)⟩⟩, ⟨.rd1, ⟨(some 57), none, .load1 (T 56)⟩⟩, ⟨.free, ⟨(some 58), none, .mov (T 7)⟩⟩, ⟨.free, ⟨(some 59), none, .fieldAddr 5 (T 9)⟩⟩, ⟨.rd, ⟨(some 60), none, .load1 (T 59)⟩⟩, ⟨.free, ⟨(some 61), none, .mov (T 8)⟩⟩, ⟨.free, ⟨(some 62), none, .fieldAddr 5 (T 3)⟩⟩, ⟨.rd1, ⟨(some 63), none, .load1 (T 62)⟩⟩, ⟨.free, ⟨(some 64), none, .mov (T 8)⟩⟩, ⟨.free, ⟨(some 65), none, .idxSl 4 (T 63) (T 64)⟩⟩, ⟨.rd1, ⟨(some 66), none, .loadN 4 (T 65)⟩⟩, ⟨.free, ⟨(some 67), none, .fieldAddr 5 (T 3)⟩⟩, ⟨.rd1, ⟨(some 68), none, .load1 (T 67)⟩⟩, ⟨.free, ⟨(some 69), none, .mov (T 7)⟩⟩, ⟨.free, ⟨(some 70), none, .idxSl 4 (T 68) (T 69)⟩⟩, ⟨.rd1, ⟨(some 71), none, .loadN 4 (T 70)⟩⟩, ⟨.free, ⟨(some 72), none, .idxSl 4 (T 57) (T 58)⟩⟩, ⟨.up, ⟨none, none, .store 4 (T 72) (T 66)⟩⟩, ⟨.free, ⟨(some 73), none, .idxSl 4 (T 60) (T 61)⟩⟩, ⟨.any, ⟨none, none, .store 4 (T 73) (T 71)⟩⟩]) (.seq (.seq (.ops [⟨(some 10), none, .mov (.const (.int .i64 (0)))⟩]) (.block 0 (.loop (.seq (.seq (.ops [⟨(some 74), none, .mov (T 10)⟩, ⟨(some 75), none, .fieldAddr 6 (T 9)⟩, ⟨(some 76), none, .load1 (T 75)⟩, ⟨(some 77), none, .len (T 76)⟩, ⟨(some 78), none, .int2 .lss (T 74) (T 77)⟩]) (.cond (T 78) .skip (.exit 0))) (.seq (.block 1 (.seq (.ops [⟨(some 81), none, .fieldAddr 6 (T 3)⟩, ⟨(some 82), none, .load1 (T 81)⟩, ⟨(some 83), none, .mov (T 10)⟩, ⟨(some 84), none, .idxSl 3 (T 82) (T 83)⟩, ⟨(some 85), none, .fieldAddr 0 (T 84)⟩, ⟨(some 86), none, .load1 (T 85)⟩, ⟨(some 87), none, .mov (T 7)⟩, ⟨(some 88), none, .int2 .eql (T 86) (T 87)⟩]) (.cond (T 88) (.ops [⟨(some 89), none, .fieldAddr 6 (T 9)⟩, ⟨(some 90), none, .load1 (T 89)⟩, ⟨(some 91), none, .mov (T 10)⟩, ⟨(some 92), none, .mov (T 8)⟩, ⟨(some 93), none, .idxSl 3 (T 90) (T 91)⟩, ⟨(some 94), none, .fieldAddr 0 (T 93)⟩, ⟨none, none, .store 1 (T 94) (T 92)⟩]) (.seq (.ops [⟨(some 95), none, .fieldAddr 6 (T 3)⟩, ⟨(some 96), none, .load1 (T 95)⟩, ⟨(some 97), none, .mov (T 10)⟩, ⟨(some 98), none, .idxSl 3 (T 96) (T 97)⟩, ⟨(some 99), none, .fieldAddr 0 (T 98)⟩, ⟨(some 100), none, .load1 (T 99)⟩, ⟨(some 101), none, .mov (T 8)⟩, ⟨(some 102), none, .int2 .eql (T 100) (T 101)⟩]) (.cond (T 102) (.ops [⟨(some 103), none, .fieldAddr 6 (T 9)⟩, ⟨(some 104), none, .load1 (T 103)⟩, ⟨(some 105), none, .mov (T 10)⟩, ⟨(some 106), none, .mov (T 7)⟩, ⟨(some 107), none, .idxSl 3 (T 104) (T 105)⟩, ⟨(some 108), none, .fieldAddr 0 (T 107)⟩, ⟨none, none, .store 1 (T 108) (T 106)⟩]) .skip))))) (.ops [⟨(some 79), none, .mov (T 10)⟩, ⟨(some 80), none, .int2 .add (T 79) (.const (.int .i64 (1)))⟩, ⟨(some 10), none, .mov (T 80)⟩])))))) (.seq (.ops [⟨(some 110), none, .loadN 7 (T 3)⟩, ⟨(some 111), none, .call (.func 26) [(T 110)]⟩, ⟨(some 112), none, .call (.func 52) [(T 111)]⟩, ⟨(some 109), none, .mov (T 112)⟩, ⟨(some 113), none, .extract 0 (T 109)⟩, ⟨(some 114), none, .extract 1 (T 109)⟩, ⟨(some 11), none, .mov (T 113)⟩, ⟨(some 12), none, .mov (T 114)⟩]) (.seq (.ops [⟨(some 116), none, .loadN 7 (T 9)⟩, ⟨(some 117), none, .call (.func 26) [(T 116)]⟩, ⟨(some 118), none, .call (.func 52) [(T 117)]⟩, ⟨(some 115), none, .mov (T 118)⟩, ⟨(some 119), none, .extract 0 (T 115)⟩, ⟨(some 120), none, .extract 1 (T 115)⟩, ⟨(some 13), none, .mov (T 119)⟩, ⟨(some 14), none, .mov (T 120)⟩]) (.seq (.seq (.ops [⟨(some 121), none, .mov (T 12)⟩, ⟨(some 122), none, .int2 .neq (T 121) (.const (.int .i64 (0)))⟩, ⟨(some 123), none, .mov (T 122)⟩, ⟨(some 124), (some (123, false)), .mov (T 14)⟩, ⟨(some 125), (some (123, false)), .int2 .neq (T 124) (.const (.int .i64 (0)))⟩, ⟨(some 126), none, .pick (T 123) (.const (.bool true)) (T 125)⟩, ⟨(some 127), none, .mov (T 126)⟩, ⟨(some 128), (some (127, false)), .mov (T 11)⟩, ⟨(some 129), (some (127, false)), .len (T 128)⟩, ⟨(some 130), (some (127, false)), .mov (T 13)⟩, ⟨(some 131), (some (127, false)), .len (T 130)⟩, ⟨(some 132), (some (127, false)), .int2 .neq (T 129) (T 131)⟩, ⟨(some 133), none, .pick (T 127) (.const (.bool true)) (T 132)⟩]) (.cond (T 133) (.seq (.ops [⟨(some 6), none, .mov (.const (.bool false))⟩]) .ret) .skip)) (.seq (.ops [⟨(some 135), none, .loadN 7 (T 3)⟩, ⟨(some 136), none, .call (.func 26) [(T 135)]⟩, ⟨(some 137), none, .mov (T 7)⟩, ⟨(some 138), none, .call (.func 35) [(T 136), (T 137)]⟩, ⟨(some 134), none, .mov (T 138)⟩, ⟨(some 139), none, .extract 0 (T 134)⟩, ⟨(some 140), none, .extract 1 (T 134)⟩, ⟨(some 15), none, .mov (T 139)⟩, ⟨(some 16), none, .mov (T 140)⟩]) (.seq (.ops [⟨(some 142), none, .loadN 7 (T 9)⟩, ⟨(some 143), none, .call (.func 26) [(T 142)]⟩, ⟨(some 144), none, .mov (T 8)⟩, ⟨(some 145), none, .call (.func 35) [(T 143), (T 144)]⟩, ⟨(some 141), none, .mov (T 145)⟩, ⟨(some 146), none, .extract 0 (T 141)⟩, ⟨(some 147), none, .extract 1 (T 141)⟩, ⟨(some 17), none, .mov (T 146)⟩, ⟨(some 18), none, .mov (T 147)⟩]) (.seq (.ops [⟨(some 149), none, .loadN 7 (T 3)⟩, ⟨(some 150), none, .call (.func 26) [(T 149)]⟩, ⟨(some 151), none, .mov (T 7)⟩, ⟨(some 152), none, .call (.func 44) [(T 150), (T 151)]⟩, ⟨(some 148), none, .mov (T 152)⟩, ⟨(some 153), none, .extract 0 (T 148)⟩, ⟨(some 154), none, .extract 1 (T 148)⟩, ⟨(some 19), none, .alloc [(.int .i64 (0)), (.int .i64 (0))]⟩, ⟨none, none, .store 2 (T 19) (T 153)⟩, ⟨(some 20), none, .mov (T 154)⟩]) (.seq (.ops [⟨(some 156), none, .loadN 7 (T 9)⟩, ⟨(some 157), none, .call (.func 26) [(T 156)]⟩, ⟨(some 158), none, .mov (T 8)⟩, ⟨(some 159), none, .call (.func 44) [(T 157), (T 158)]⟩, ⟨(some 155), none, .mov (T 159)⟩, ⟨(some 160), none, .extract 0 (T 155)⟩, ⟨(some 161), none, .extract 1 (T 155)⟩, ⟨(some 21), none, .alloc [(.int .i64 (0)), (.int .i64 (0))]⟩, ⟨none, none, .store 2 (T 21) (T 160)⟩, ⟨(some 22), none, .mov (T 161)⟩]) (.seq (.ops [⟨(some 162), none, .mov (T 16)⟩, ⟨(some 163), none, .mov (T 18)⟩, ⟨(some 164), none, .int2 .eql (T 162) (T 163)⟩, ⟨(some 165), none, .mov (T 164)⟩, ⟨(some 166), (some (165, true)), .mov (T 16)⟩, ⟨(some 167), (some (165, true)), .int2 .eql (T 166) (.const (.int .i64 (0)))⟩, ⟨(some 168), (some (165, true)), .mov (T 167)⟩, ⟨(some 169), (some (168, true)), .mov (T 11)⟩, ⟨(some 170), (some (168, true)), .len (T 169)⟩, ⟨(some 171), (some (168, true)), .int2 .eql (T 170) (.const (.int .i64 (0)))⟩, ⟨(some 172), (some (165, true)), .pick (T 168) (T 171) (.const (.bool false))⟩, ⟨(some 173), (some (165, true)), .mov (T 172)⟩, ⟨(some 174), (some (173, false)), .mov (T 16)⟩, ⟨(some 175), (some (173, false)), .int2 .eql (T 174) (.const (.int .i64 (11)))⟩, ⟨(some 176), (some (173, false)), .mov (T 175)⟩, ⟨(some 177), (some (176, true)), .mov (T 11)⟩, ⟨(some 178), (some (176, true)), .len (T 177)⟩, ⟨(some 179), (some (176, true)), .int2 .gtr (T 178) (.const (.int .i64 (0)))⟩, ⟨(some 180), (some (173, false)), .pick (T 176) (T 179) (.const (.bool false))⟩, ⟨(some 181), (some (165, true)), .pick (T 173) (.const (.bool true)) (T 180)⟩, ⟨(some 182), none, .pick (T 165) (T 181) (.const (.bool false))⟩, ⟨(some 183), none, .mov (T 182)⟩, ⟨(some 184), (some (183, true)), .mov (T 15)⟩, ⟨(some 185), (some (183, true)), .mov (T 17)⟩, ⟨(some 186), (some (183, true)), .call (.func 66) [(T 184), (T 185)]⟩, ⟨(some 187), none, .pick (T 183) (T 186) (.const (.bool false))⟩, ⟨(some 188), none, .mov (T 187)⟩, ⟨(some 189), (some (188, true)), .mov (T 17)⟩, ⟨(some 190), (some (188, true)), .mov (T 15)⟩, ⟨(some 191), (some (188, true)), .call (.func 66) [(T 189), (T 190)]⟩, ⟨(some 192), none, .pick (T 188) (T 191) (.const (.bool false))⟩, ⟨(some 193), none, .mov (T 192)⟩, ⟨(some 194), (some (193, true)), .mov (T 20)⟩, ⟨(some 195), (some (193, true)), .mov (T 22)⟩, ⟨(some 196), (some (193, true)), .int2 .eql (T 194) (T 195)⟩, ⟨(some 197), none, .pick (T 193) (T 196) (.const (.bool false))⟩, ⟨(some 198), none, .mov (T 197)⟩, ⟨(some 199), (some (198, true)), .loadN 2 (T 19)⟩, ⟨(some 200), (some (198, true)), .loadN 2 (T 21)⟩, ⟨(some 201), (some (198, true)), .bin .eql (.binOp .eql 39 (T 199) (T 200) 39) 4 (T 199) (T 200)⟩, ⟨(some 202), none, .pick (T 198) (T 201) (.const (.bool false))⟩, ⟨(some 203), none, .mov (T 202)⟩, ⟨(some 204), (some (203, true)), .call (.func 24) []⟩, ⟨(some 205), none, .pick (T 203) (T 204) (.const (.bool false))⟩, ⟨(some 6), none, .mov (T 205)⟩]) .ret)))))))))))))))
theorem fok20 : FnOk Try.prog 20 206 s20 [.tmp 6] := ⟨Try.f20, _, Try.func20, rfl, Try.ntmps20, by kernel_rfl, by kernel_rfl⟩
set_option maxHeartbeats 6000000 in
theorem turned_m (hn : 3100 ≤ n) (hr : h.next + 9000000 < far) (hfl : h.floor ≤ h.next) {wv vv sv : Value} {S : MS} (hy : SteepR h wv vv sv S) (hth : ThinS S) (hf : faultS S = 0) (hnv : 0 < S.nv) {a1 a2 : Nat} (w1 : a1 < 256) (w2 : a2 < 256) :
    ∃ v h', call n (.func (.func 20) #[] #[]) [.agg ⟨stL S wv vv sv⟩, .int .u8 (a1 : Int), .int .u8 (a2 : Int)] h = some (v, h') ∧ v = .bool true := by
  obtain ⟨n, rfl⟩ : ∃ p, n = p + 1 := ⟨n - 1, by omega⟩
  obtain ⟨bo, oo, capo, cso, wo, go, hvv, hgo, hco⟩ := hy.v.ptr hnv
  have hbo : bo < h.next := AHeap.lt_of_get hgo
  refine call_any0 fok20 rfl rfl (by simp) ?_
  simp only [s20, W_seq, W_ops]
  refine ops_box (cs := stL S wv vv sv) (by omega) rfl hy.one fun g1 hx1 => ?_
  have n1 := hx1.next
  have f1 := hx1.floor
  have e1 : g1.next = h.next + 1 := n1
  have hy1 := hy.mono hx1.sub
  have x1 := hx1.row.whole (n := 7) rfl
  have r1 := hx1.row
  have er := ready_c (n := n) (h := g1) (by omega) (by omega) hy1
  rw [decide_eq_true (show ThinS S ∧ faultS S = 0 from ⟨hth, hf⟩)] at er
  have hG := good_of hf
  obtain ⟨zl0, zl5, zw, zw6, zv4, z5, _, _, zs0, zs1, zs2⟩ := hG.sizes
  have z1 : ¬ (S.nv : Int) = 0 := by omega
  obtain ⟨a, ha⟩ : ∃ x, x = a1 % S.nv := ⟨_, rfl⟩
  obtain ⟨b, hb⟩ : ∃ x, x = a2 % S.nv := ⟨_, rfl⟩
  have la : a < S.nv := by rw [ha]; exact Nat.mod_lt _ hnv
  have lb : b < S.nv := by rw [hb]; exact Nat.mod_lt _ hnv
  have m1 : (a1 : Int).tmod (S.nv : Int) = (a : Int) := by rw [ha]; rfl
  have m2 : (a2 : Int).tmod (S.nv : Int) = (b : Int) := by rw [hb]; rfl
  clear ha hb
  simp only [rn0, rn1, rn2, rn3, rn4, rn5, rn6, rn7, rn8, if_true, if_false, Nat.le_refl, true_and, and_true, decide_true, decide_false, Bool.not_true, Bool.not_false, reduceIte, Nat.reduceEqDiff, Nat.reduceAdd, Nat.reduceMul, Nat.reduceSub, Nat.reduceLeDiff, Nat.reduceLT, x1, er, r1.ld, stg, Nat.zero_add, Cells.len hy1.v, z1]
  refine W_draw All ?_
  simp only [rn0, rn1, rn2, rn3, rn4, rn5, rn6, rn7, rn8, if_true, if_false, Nat.le_refl, true_and, and_true, decide_true, decide_false, Bool.not_true, Bool.not_false, reduceIte, Nat.reduceEqDiff, Nat.reduceAdd, Nat.reduceMul, Nat.reduceSub, Nat.reduceLeDiff, Nat.reduceLT, p_conv8, r_8 w1, r_8 w2, valN_tmp, valN_const, Nat.reduceLT, r1.ld, stg, Nat.zero_add, Cells.len hy1.v, p_rem, r_rem z1, m1, m2, x1]
  refine step_new (vs := stL S wv vv sv) (by omega) (by omega) rfl (by simp only [rn0, rn1, rn2, rn3, rn4, rn5, rn6, rn7, rn8, if_true, if_false, Nat.le_refl, true_and, and_true, decide_true, decide_false, Bool.not_true, Bool.not_false, reduceIte, Nat.reduceEqDiff, Nat.reduceAdd, Nat.reduceMul, Nat.reduceSub, Nat.reduceLeDiff, Nat.reduceLT]; rfl) hy.one rfl rfl fun g2 hx2 => ?_
  have n2 := hx2.next
  have f2 := hx2.floor
  have e2 : g2.next = h.next + 2 := by omega
  have sub2 : Sub All h g2 := hx1.sub.trans hx2.sub
  have hy2 := hy.mono sub2
  have ry2 : Row g2 h.next (stL S wv vv sv) := hx1.row.mono hx2.sub
  have rx2 : g2.get (h.next + 1) = some (.row (stL S wv vv sv) true 0) := by have := hx2.get; rw [e1] at this; exact this
  obtain ⟨xf, kf, ef, lf⟩ := Cells.list (by omega) hy2.v
  obtain ⟨xs, ks, es, ls⟩ := Cells.list (by omega) hy2.s
  have old2 : ∀ i, i < h.next → g2.get i = h.get i := fun i hi => by rw [hx2.old i (by omega), hx1.old i hi]
  rw [e1]
  simp only [rn0, rn1, rn2, rn3, rn4, rn5, rn6, rn7, rn8, if_true, if_false, Nat.le_refl, true_and, and_true, decide_true, decide_false, Bool.not_true, Bool.not_false, reduceIte, Nat.reduceEqDiff, Nat.reduceAdd, Nat.reduceMul, Nat.reduceSub, Nat.reduceLeDiff, Nat.reduceLT]
  refine seqQ (fun f g ms => ms = [] ∧ f 3 = .pointer (some ⟨h.next, 0, none⟩) ∧ f 7 = .int .i64 (a : Int) ∧ f 8 = .int .i64 (b : Int) ∧ f 9 = .pointer (some ⟨h.next + 1, 0, none⟩) ∧ g.floor = h.floor ∧ h.next + 5 ≤ g.next ∧ g.next ≤ h.next + 10 ∧ Row g h.next (stL S wv vv sv) ∧
    ∃ VV SV, ExcR h g (h.next + 1) (h.next + 3) (h.next + 5) wv VV SV S (vatC S) (smV S)) ?_ ?_
  · refine W_draw All ?_
    simp only [rn0, rn1, rn2, rn3, rn4, rn5, rn6, rn7, rn8, if_true, if_false, Nat.le_refl, true_and, and_true, decide_true, decide_false, Bool.not_true, Bool.not_false, reduceIte, Nat.reduceEqDiff, Nat.reduceAdd, Nat.reduceMul, Nat.reduceSub, Nat.reduceLeDiff, Nat.reduceLT, build_none4]
    refine up_slice (by omega) rfl (fun g3 hx => hx.sub) fun g3 hx3 => ?_
    have n3 := hx3.next
    have f3 := hx3.floor
    have hap := append_none (h := g3) (s := 4) (bytes := 32) (b := g2.next) ⟨xf, kf, ef⟩ (cells_sub hx3.sub hy2.v (by omega) lf) flatL_len (by simp [maxBytes]; omega) (by simp [maxBytes]; omega)
    rw [if_neg (by omega)] at hap
    have hap : appendA 4 32 g3 (.slice (some ⟨g2.next, 0, none⟩) 0 0) vv = newSlice g3 (flatL 4 S.nv (vatC S)) S.nv unk 4 := hap
    simp only [rn0, rn1, rn2, rn3, rn4, rn5, rn6, rn7, rn8, if_true, if_false, Nat.le_refl, true_and, and_true, decide_true, decide_false, Bool.not_true, Bool.not_false, reduceIte, Nat.reduceEqDiff, Nat.reduceAdd, Nat.reduceMul, Nat.reduceSub, Nat.reduceLeDiff, Nat.reduceLT, ry2.ld, stg, Nat.zero_add, Cells.self hy2.v, hap]
    refine up_slice (by omega) flatL_one (fun g4 hx => hx3.sub.trans hx.sub) fun g4 hx4 => ?_
    have n4 := hx4.next
    have f4 := hx4.floor
    simp only [rn0, rn1, rn2, rn3, rn4, rn5, rn6, rn7, rn8, if_true, if_false, Nat.le_refl, true_and, and_true, decide_true, decide_false, Bool.not_true, Bool.not_false, reduceIte, Nat.reduceEqDiff, Nat.reduceAdd, Nat.reduceMul, Nat.reduceSub, Nat.reduceLeDiff, Nat.reduceLT, build_none3]
    refine up_slice (by omega) rfl (fun g5 hx => hx3.sub.trans (hx4.sub.trans hx.sub)) fun g5 hx5 => ?_
    have n5 := hx5.next
    have f5 := hx5.floor
    have sub5 : Sub All g2 g5 := hx3.sub.trans (hx4.sub.trans hx5.sub)
    have old5 : ∀ i, i < g2.next → g5.get i = g2.get i := fun i hi => by rw [hx5.old i (by omega), hx4.old i (by omega), hx3.old i hi]
    have hap2 := append_none (h := g5) (s := 3) (bytes := 24) (b := g4.next) ⟨xs, ks, es⟩ (cells_sub sub5 hy2.s (by omega) ls) flatL_len (by simp [maxBytes]; omega) (by simp [maxBytes]; omega)
    have gx5 : g5.get (h.next + 1) = some (.row (stL S wv vv sv) true 0) := sub5 _ _ _ _ trivial rx2
    have gF5 : g5.get (h.next + 3) = some (.row (flatL 4 S.nv (vatC S)) true 4) := by
      rw [hx5.old _ (by omega)]
      have := hx4.get
      rw [show g3.next = h.next + 3 by omega] at this
      exact this
    have ry5 := ry2.mono sub5
    by_cases hns : S.ns = 0
    · rw [if_pos hns] at hap2
      simp only [rn0, rn1, rn2, rn3, rn4, rn5, rn6, rn7, rn8, if_true, if_false, Nat.le_refl, true_and, and_true, decide_true, decide_false, Bool.not_true, Bool.not_false, reduceIte, Nat.reduceEqDiff, Nat.reduceAdd, Nat.reduceMul, Nat.reduceSub, Nat.reduceLeDiff, Nat.reduceLT, ry2.ld, stg, Nat.zero_add, Cells.self hy2.s, hap2]
      refine up_store (b := h.next + 1) (off := 5) (vs := [.slice (some ⟨g3.next, 0, none⟩) S.nv unk]) rfl gx5 (by omega) (by omega) rfl rfl rfl (by simp [stL]) (fun _ _ => trivial) fun g6 hs6 => ?_
      have n6 := hs6.next
      have f6 := hs6.floor
      simp only [rn0, rn1, rn2, rn3, rn4, rn5, rn6, rn7, rn8, if_true, if_false, Nat.le_refl, true_and, and_true, decide_true, decide_false, Bool.not_true, Bool.not_false, reduceIte, Nat.reduceEqDiff, Nat.reduceAdd, Nat.reduceMul, Nat.reduceSub, Nat.reduceLeDiff, Nat.reduceLT]
      refine up_store (b := h.next + 1) (off := 6) (vs := [.slice (some ⟨g4.next, 0, none⟩) 0 0]) rfl hs6.get (by omega) (by omega) rfl rfl rfl (by simp [splice, stL]) (fun _ _ => trivial) fun g7 hs7 => ?_
      have n7 := hs7.next
      have f7 := hs7.floor
      have hcs : splice (splice (stL S wv vv sv) 5 [.slice (some ⟨g3.next, 0, none⟩) S.nv unk]) 6 [.slice (some ⟨g4.next, 0, none⟩) 0 0] = stL S wv (.slice (some ⟨h.next + 3, 0, none⟩) S.nv unk) (.slice (some ⟨g4.next, 0, none⟩) 0 0) := by rw [show g3.next = h.next + 3 by omega]; rfl
      rw [hcs] at hs7
      simp only [rn0, rn1, rn2, rn3, rn4, rn5, rn6, rn7, rn8, if_true, if_false, Nat.le_refl, true_and, and_true, decide_true, decide_false, Bool.not_true, Bool.not_false, reduceIte, Nat.reduceEqDiff, Nat.reduceAdd, Nat.reduceMul, Nat.reduceSub, Nat.reduceLeDiff, Nat.reduceLT]
      have old7 : ∀ i, i ≠ h.next + 1 → g7.get i = g5.get i := fun i hi => by rw [hs7.old i hi, hs6.old i hi]
      have old7h : ∀ i, i < h.next → g7.get i = h.get i := fun i hi => by rw [old7 i (by omega), old5 i (by omega), old2 i hi]
      refine ⟨by omega, by omega, by omega, ?_, _, _, ⟨hs7.row, hy.w, rfl, by rw [old7 _ (by omega)]; exact gF5, fun hp => absurd hp (by omega), fun _ g c => ⟨_, _, rfl, fun x e => by cases e; rfl, .inl rfl⟩, old7h, by omega, by omega⟩⟩
      obtain ⟨w, gr, e⟩ := ry5
      exact ⟨w, gr, by rw [old7 _ (by omega)]; exact e⟩
    · rw [if_neg hns] at hap2
      have hap2 : appendA 3 24 g5 (.slice (some ⟨g4.next, 0, none⟩) 0 0) sv = newSlice g5 (flatL 3 S.ns (smV S)) S.ns unk 3 := hap2
      simp only [rn0, rn1, rn2, rn3, rn4, rn5, rn6, rn7, rn8, if_true, if_false, Nat.le_refl, true_and, and_true, decide_true, decide_false, Bool.not_true, Bool.not_false, reduceIte, Nat.reduceEqDiff, Nat.reduceAdd, Nat.reduceMul, Nat.reduceSub, Nat.reduceLeDiff, Nat.reduceLT, ry2.ld, stg, Nat.zero_add, Cells.self hy2.s, hap2]
      refine up_slice (by omega) flatL_one (fun _ _ => trivial) fun g6 hx6 => ?_
      have n6 := hx6.next
      have f6 := hx6.floor
      simp only [rn0, rn1, rn2, rn3, rn4, rn5, rn6, rn7, rn8, if_true, if_false, Nat.le_refl, true_and, and_true, decide_true, decide_false, Bool.not_true, Bool.not_false, reduceIte, Nat.reduceEqDiff, Nat.reduceAdd, Nat.reduceMul, Nat.reduceSub, Nat.reduceLeDiff, Nat.reduceLT]
      refine up_store (b := h.next + 1) (off := 5) (vs := [.slice (some ⟨g3.next, 0, none⟩) S.nv unk]) rfl (hx6.sub _ _ _ _ trivial gx5) (by omega) (by omega) rfl rfl rfl (by simp [stL]) (fun _ _ => trivial) fun g7 hs7 => ?_
      have n7 := hs7.next
      have f7 := hs7.floor
      simp only [rn0, rn1, rn2, rn3, rn4, rn5, rn6, rn7, rn8, if_true, if_false, Nat.le_refl, true_and, and_true, decide_true, decide_false, Bool.not_true, Bool.not_false, reduceIte, Nat.reduceEqDiff, Nat.reduceAdd, Nat.reduceMul, Nat.reduceSub, Nat.reduceLeDiff, Nat.reduceLT]
      refine up_store (b := h.next + 1) (off := 6) (vs := [.slice (some ⟨g5.next, 0, none⟩) S.ns unk]) rfl hs7.get (by omega) (by omega) rfl rfl rfl (by simp [splice, stL]) (fun _ _ => trivial) fun g8 hs8 => ?_
      have n8 := hs8.next
      have f8 := hs8.floor
      have hcs : splice (splice (stL S wv vv sv) 5 [.slice (some ⟨g3.next, 0, none⟩) S.nv unk]) 6 [.slice (some ⟨g5.next, 0, none⟩) S.ns unk] = stL S wv (.slice (some ⟨h.next + 3, 0, none⟩) S.nv unk) (.slice (some ⟨h.next + 5, 0, none⟩) S.ns unk) := by rw [show g3.next = h.next + 3 by omega, show g5.next = h.next + 5 by omega]; rfl
      rw [hcs] at hs8
      simp only [rn0, rn1, rn2, rn3, rn4, rn5, rn6, rn7, rn8, if_true, if_false, Nat.le_refl, true_and, and_true, decide_true, decide_false, Bool.not_true, Bool.not_false, reduceIte, Nat.reduceEqDiff, Nat.reduceAdd, Nat.reduceMul, Nat.reduceSub, Nat.reduceLeDiff, Nat.reduceLT]
      have old8 : ∀ i, i < h.next + 5 → i ≠ h.next + 1 → g8.get i = g5.get i := fun i hi hne => by rw [hs8.old i hne, hs7.old i hne, hx6.old i (by omega)]
      have old8h : ∀ i, i < h.next → g8.get i = h.get i := fun i hi => by rw [old8 i (by omega) (by omega), old5 i (by omega), old2 i hi]
      have gS8 : g8.get (h.next + 5) = some (.row (flatL 3 S.ns (smV S)) true 3) := by
        rw [hs8.old _ (by omega), hs7.old _ (by omega)]
        have := hx6.get
        rw [show g5.next = h.next + 5 by omega] at this
        exact this
      refine ⟨by omega, by omega, by omega, ?_, _, _, ⟨hs8.row, hy.w, rfl, by rw [old8 _ (by omega) (by omega)]; exact gF5, fun hp => ⟨rfl, gS8⟩, fun c => absurd c hns, old8h, by omega, by omega⟩⟩
      obtain ⟨w, gr, e⟩ := ry5
      exact ⟨w, gr, by rw [old8 _ (by omega) (by omega)]; exact e⟩
  · rintro f g ms ⟨rfl, p3, p7, p8, p9, fg, lg, bg, ry, VV, SV, hC⟩
    have hyg : SteepR g wv vv sv S := hy.mono (AHeap.subOf hC.old)
    obtain ⟨hcw, hcv, hcs⟩ := hC.cells
    have rx := hC.row
    refine seqQ (fun f g ms => ms = [] ∧ f 3 = .pointer (some ⟨h.next, 0, none⟩) ∧ f 7 = .int .i64 (a : Int) ∧ f 8 = .int .i64 (b : Int) ∧ f 9 = .pointer (some ⟨h.next + 1, 0, none⟩) ∧ g.floor = h.floor ∧ h.next + 5 ≤ g.next ∧ g.next ≤ h.next + 10 ∧ Row g h.next (stL S wv vv sv) ∧
      ∃ VV SV, ExcR h g (h.next + 1) (h.next + 3) (h.next + 5) wv VV SV S (vatC (turnS S a b)) (smV S)) ?_ ?_
    · have pa : ∀ k, ptrO vv 4 k 0 = .pointer (some ⟨bo, oo + k * 4, none⟩) := fun k => by rw [hvv]; rfl
      have pF : ∀ k, ptrO VV 4 k 0 = .pointer (some ⟨h.next + 3, k * 4, none⟩) := fun k => by rw [hC.v]; simp [ptrO]
      have iFa := Cells.idx hcv la
      have iFb := Cells.idx hcv lb
      have iya := Cells.idx hyg.v la
      have iyb := Cells.idx hyg.v lb
      rw [pF] at iFa iFb
      rw [pa] at iya iyb
      have lya := vat_ld hyg la
      have lyb := vat_ld hyg lb
      rw [pa] at lya lyb
      have nb3 : (bo = h.next + 3) = False := eq_false (by omega)
      have n03 : (h.next = h.next + 3) = False := eq_false (by omega)
      have n13 : (h.next + 1 = h.next + 3) = False := eq_false (by omega)
      refine W_draw (fun i => i ≠ h.next + 3) ?_
      simp only [rn0, rn1, rn2, rn3, rn4, rn5, rn6, rn7, rn8, if_true, if_false, Nat.le_refl, true_and, and_true, decide_true, decide_false, Bool.not_true, Bool.not_false, reduceIte, Nat.reduceEqDiff, Nat.reduceAdd, Nat.reduceMul, Nat.reduceSub, Nat.reduceLeDiff, Nat.reduceLT, rd_1', rd_N, rd_ne, p3, p7, p8, p9, ry.ld, rx.ld, stg, Nat.zero_add, iFa, iFb, iya, iyb, lya, lyb, self_4t, Cells.self hyg.v, Cells.self hcv, ne_eq, nb3, n03, n13, not_false_eq_true]
      refine up_store (b := h.next + 3) (off := a * 4) (vs := [.int .i64 (S.vb b), .int .i64 (S.vlo b), .int .i64 (S.vhi b), .int .i64 (S.vn b)]) rfl hC.gv (by omega) (by omega) rfl rfl rfl (by rw [flatL_len]; omega) (fun g hs => fun i cs w gr hi hg => by rw [hs.old i hi]; exact hg) fun g10 hs10 => ?_
      have n10 := hs10.next
      have f10 := hs10.floor
      simp only [rn0, rn1, rn2, rn3, rn4, rn5, rn6, rn7, rn8, if_true, if_false, Nat.le_refl, true_and, and_true, decide_true, decide_false, Bool.not_true, Bool.not_false, reduceIte, Nat.reduceEqDiff, Nat.reduceAdd, Nat.reduceMul, Nat.reduceSub, Nat.reduceLeDiff, Nat.reduceLT, iFb]
      refine up_store (b := h.next + 3) (off := b * 4) (vs := [.int .i64 (S.vb a), .int .i64 (S.vlo a), .int .i64 (S.vhi a), .int .i64 (S.vn a)]) rfl hs10.get (by omega) (by omega) rfl rfl rfl (by simp only [splice, List.length_append, List.length_take, List.length_drop, List.length_cons, List.length_nil, flatL_len]; omega) (fun _ _ => trivial) fun g11 hs11 => ?_
      rw [turn_flat la lb] at hs11
      have n11 := hs11.next
      have f11 := hs11.floor
      have old11 : ∀ i, i ≠ h.next + 3 → g11.get i = g.get i := fun i hi => by rw [hs11.old i hi, hs10.old i hi]
      simp only [rn0, rn1, rn2, rn3, rn4, rn5, rn6, rn7, rn8, if_true, if_false, Nat.le_refl, true_and, and_true, decide_true, decide_false, Bool.not_true, Bool.not_false, reduceIte, Nat.reduceEqDiff, Nat.reduceAdd, Nat.reduceMul, Nat.reduceSub, Nat.reduceLeDiff, Nat.reduceLT, p3, p7, p8, p9]
      refine ⟨by omega, by omega, by omega, ?_, VV, SV, ⟨?_, hC.w, hC.v, hs11.get, fun hp => ⟨(hC.s hp).1, by rw [old11 _ (by omega)]; exact (hC.s hp).2⟩, hC.s0, fun i hi => by rw [old11 i (by omega)]; exact hC.old i hi, hC.ne, hC.up⟩⟩
      · obtain ⟨w, gr, e⟩ := ry
        exact ⟨w, gr, by rw [old11 _ (by omega)]; exact e⟩
      · obtain ⟨w, gr, e⟩ := rx
        exact ⟨w, gr, by rw [old11 _ (by omega)]; exact e⟩
    · clear hC hyg hcw hcv hcs rx ry p3 p7 p8 p9 fg lg bg VV SV f g
      rintro f g ms ⟨rfl, p3, p7, p8, p9, fg, lg, bg, ry, VV, SV, hC⟩
      simp only [rn0, rn1, rn2, rn3, rn4, rn5, rn6, rn7, rn8, if_true, if_false, Nat.le_refl, true_and, and_true, decide_true, decide_false, Bool.not_true, Bool.not_false, reduceIte, Nat.reduceEqDiff, Nat.reduceAdd, Nat.reduceMul, Nat.reduceSub, Nat.reduceLeDiff, Nat.reduceLT]
      refine W_loop S.ns (fun k f g ms => (g.floor = h.floor ∧ h.next + 5 ≤ g.next ∧ g.next ≤ h.next + 10 ∧ Row g h.next (stL S wv vv sv) ∧ ExcR h g (h.next + 1) (h.next + 3) (h.next + 5) wv VV SV S (vatC (turnS S a b)) (smT S a b k)) ∧ ms = [] ∧ f 3 = .pointer (some ⟨h.next, 0, none⟩) ∧ f 7 = .int .i64 (a : Int) ∧ f 8 = .int .i64 (b : Int) ∧ f 9 = .pointer (some ⟨h.next + 1, 0, none⟩) ∧ f 10 = .int .i64 (k : Int)) (by simp; omega) ?_ ?_ ?_
      · have hC0 : ExcR h g (h.next + 1) (h.next + 3) (h.next + 5) wv VV SV S (vatC (turnS S a b)) (smT S a b 0) := ⟨hC.row, hC.w, hC.v, hC.gv, fun hp => ⟨(hC.s hp).1, by rw [(hC.s hp).2]; rw [flat_congr (c := smV S) (c' := smT S a b 0) (by omega) fun k j _ _ => (if_neg (Nat.not_lt_zero k)).symm]⟩, hC.s0, hC.old, hC.ne, hC.up⟩
        simp only [rn0, rn1, rn2, rn3, rn4, rn5, rn6, rn7, rn8, if_true, if_false, Nat.le_refl, true_and, and_true, decide_true, decide_false, Bool.not_true, Bool.not_false, reduceIte, Nat.reduceEqDiff, Nat.reduceAdd, Nat.reduceMul, Nat.reduceSub, Nat.reduceLeDiff, Nat.reduceLT, p3, p7, p8, p9]
        first | exact ⟨⟨fg, lg, bg, ry, hC0⟩, rfl⟩ | exact ⟨fg, lg, bg, ry, hC0⟩
      · rintro k f g ms hk ⟨⟨fg, lg, bg, ry, hC⟩, rfl, p3, p7, p8, p9, p10⟩
        have hk' : (k : Int) < (S.ns : Int) := by omega
        have hw : wrapF .i64 ((k : Int) + 1) = ((k + 1 : Nat) : Int) := by rw [wrap_in (by omega) (by omega)]; rfl
        have hyg : SteepR g wv vv sv S := hy.mono (AHeap.subOf hC.old)
        obtain ⟨hcw, hcv, hcs⟩ := hC.cells
        have rx := hC.row
        obtain ⟨eS, gS⟩ := hC.s (by omega)
        have iS : indexSl 3 SV (.int .i64 (k : Int)) = some (.pointer (some ⟨h.next + 5, k * 3, none⟩)) := by rw [eS]; exact idxSl_s hk
        have lsv : loadCell g (ptrO sv 3 k 0) = some (.int .i64 (S.sv k)) := Cells.ld hyg.s hk (j := 0) (by omega)
        obtain ⟨⟨s1, s2⟩, _⟩ := hG.args.smell k hk
        have fin : ∀ (x : Int) g6, x = (turnS S a b).sv k → Set1 g g6 (h.next + 5) (splice (flatL 3 S.ns (smT S a b k)) (k * 3) [.int .i64 x]) 3 → g6.floor = h.floor ∧ h.next + 5 ≤ g6.next ∧ g6.next ≤ h.next + 10 ∧ Row g6 h.next (stL S wv vv sv) ∧ ExcR h g6 (h.next + 1) (h.next + 3) (h.next + 5) wv VV SV S (vatC (turnS S a b)) (smT S a b (k + 1)) := by
          intro x g6 hx hs6
          rw [smT_step hk x hx] at hs6
          have n6 := hs6.next
          have f6 := hs6.floor
          refine ⟨by omega, by omega, by omega, ?_, ?_, hC.w, hC.v, by rw [hs6.old _ (by omega)]; exact hC.gv, fun hp => ⟨eS, hs6.get⟩, hC.s0, fun i hi => by rw [hs6.old i (by omega)]; exact hC.old i hi, hC.ne, hC.up⟩
          · obtain ⟨w, gr, e⟩ := ry
            exact ⟨w, gr, by rw [hs6.old _ (by omega)]; exact e⟩
          · obtain ⟨w, gr, e⟩ := rx
            exact ⟨w, gr, by rw [hs6.old _ (by omega)]; exact e⟩
        have hsv : (S.sv k).toNat = (S.sv k).toNat := rfl
        by_cases c1 : S.sv k = (a : Int)
        · have hx : (b : Int) = (turnS S a b).sv k := by
            show (b : Int) = ((tp a b (S.sv k).toNat : Nat) : Int)
            rw [c1, Int.toNat_natCast]; unfold tp; rw [if_pos rfl]
          simp only [rn0, rn1, rn2, rn3, rn4, rn5, rn6, rn7, rn8, if_true, if_false, Nat.le_refl, true_and, and_true, decide_true, decide_false, Bool.not_true, Bool.not_false, reduceIte, Nat.reduceEqDiff, Nat.reduceAdd, Nat.reduceMul, Nat.reduceSub, Nat.reduceLeDiff, Nat.reduceLT, p3, p7, p8, p9, p10, rx.ld, ry.ld, stg, Nat.zero_add, Nat.add_zero, Cells.len hcs, hk', Cells.idx hyg.s hk, Cells.fld hyg.s hk, lsv, c1, iS]
          refine step_store (b := h.next + 5) (off := k * 3) (vs := [.int .i64 (b : Int)]) rfl gS (by omega) (by omega) rfl rfl rfl (by rw [flatL_len]; omega) fun g6 hs6 => ?_
          have hf6 := fin _ g6 hx hs6
          simp only [rn0, rn1, rn2, rn3, rn4, rn5, rn6, rn7, rn8, if_true, if_false, Nat.le_refl, true_and, and_true, decide_true, decide_false, Bool.not_true, Bool.not_false, reduceIte, Nat.reduceEqDiff, Nat.reduceAdd, Nat.reduceMul, Nat.reduceSub, Nat.reduceLeDiff, Nat.reduceLT, p3, p7, p8, p9, p10, hw]
          first | exact ⟨hf6, rfl⟩ | exact hf6
        · by_cases c2 : S.sv k = (b : Int)
          · have hx : (a : Int) = (turnS S a b).sv k := by
              show (a : Int) = ((tp a b (S.sv k).toNat : Nat) : Int)
              rw [c2, Int.toNat_natCast, tp_b]
            have c1' : ¬ (b : Int) = (a : Int) := by rw [← c2]; exact c1
            simp only [rn0, rn1, rn2, rn3, rn4, rn5, rn6, rn7, rn8, if_true, if_false, Nat.le_refl, true_and, and_true, decide_true, decide_false, Bool.not_true, Bool.not_false, reduceIte, Nat.reduceEqDiff, Nat.reduceAdd, Nat.reduceMul, Nat.reduceSub, Nat.reduceLeDiff, Nat.reduceLT, p3, p7, p8, p9, p10, rx.ld, ry.ld, stg, Nat.zero_add, Nat.add_zero, Cells.len hcs, hk', Cells.idx hyg.s hk, Cells.fld hyg.s hk, lsv, c2, c1', iS]
            refine step_store (b := h.next + 5) (off := k * 3) (vs := [.int .i64 (a : Int)]) rfl gS (by omega) (by omega) rfl rfl rfl (by rw [flatL_len]; omega) fun g6 hs6 => ?_
            have hf6 := fin _ g6 hx hs6
            simp only [rn0, rn1, rn2, rn3, rn4, rn5, rn6, rn7, rn8, if_true, if_false, Nat.le_refl, true_and, and_true, decide_true, decide_false, Bool.not_true, Bool.not_false, reduceIte, Nat.reduceEqDiff, Nat.reduceAdd, Nat.reduceMul, Nat.reduceSub, Nat.reduceLeDiff, Nat.reduceLT, p3, p7, p8, p9, p10, hw]
            first | exact ⟨hf6, rfl⟩ | exact hf6
          · have hx : S.sv k = (turnS S a b).sv k := by
              show S.sv k = ((tp a b (S.sv k).toNat : Nat) : Int)
              unfold tp
              rw [if_neg (by omega), if_neg (by omega)]; omega
            have hC' : ExcR h g (h.next + 1) (h.next + 3) (h.next + 5) wv VV SV S (vatC (turnS S a b)) (smT S a b (k + 1)) := ⟨hC.row, hC.w, hC.v, hC.gv, fun hp => ⟨eS, by rw [← smT_same hx]; exact gS⟩, hC.s0, hC.old, hC.ne, hC.up⟩
            simp only [rn0, rn1, rn2, rn3, rn4, rn5, rn6, rn7, rn8, if_true, if_false, Nat.le_refl, true_and, and_true, decide_true, decide_false, Bool.not_true, Bool.not_false, reduceIte, Nat.reduceEqDiff, Nat.reduceAdd, Nat.reduceMul, Nat.reduceSub, Nat.reduceLeDiff, Nat.reduceLT, p3, p7, p8, p9, p10, rx.ld, ry.ld, stg, Nat.zero_add, Nat.add_zero, Cells.len hcs, hk', Cells.idx hyg.s hk, Cells.fld hyg.s hk, lsv, c1, c2, hw]
            first | exact ⟨⟨fg, lg, bg, ry, hC'⟩, rfl⟩ | exact ⟨fg, lg, bg, ry, hC'⟩
      · rintro f g ms ⟨⟨fg, lg, bg, ry, hC⟩, rfl, p3, p7, p8, p9, p10⟩
        have hyg : SteepR g wv vv sv S := hy.mono (AHeap.subOf hC.old)
        obtain ⟨_, _, hcs⟩ := hC.cells
        obtain ⟨rx, hX⟩ := hC.out
        have hlen := Cells.len hcs
        have rx0 := hC.row
        have hGX := turn_good hG la lb
        have hTX : ThinS (turnS S a b) := hth
        obtain ⟨w7, v7, s7, g7, e7, hy7, o7, u7, m7, f7⟩ := steepL_c (n := n) (h := g) (by omega) (by omega) (by omega) hyg hth
        obtain ⟨l8, g8, e8, o8, u8, m8, f8, hL1⟩ := leaveP_c (n := n) (h := g7) (by omega) (by omega) (by omega) hy7 hth
        have s8 : Sub All g g8 := (AHeap.subOf o7).trans (AHeap.subOf o8)
        obtain ⟨w9, v9, s9', g9, e9, hy9, o9, u9, m9, f9⟩ := steepL_c (n := n) (h := g8) (by omega) (by omega) (by omega) (hX.mono s8) hTX
        obtain ⟨l10, g10, e10, o10, u10, m10, f10, hL2⟩ := leaveP_c (n := n) (h := g9) (by omega) (by omega) (by omega) hy9 hTX
        have s10 : Sub All g8 g10 := (AHeap.subOf o9).trans (AHeap.subOf o10)
        have sg10 : Sub All g g10 := s8.trans s10
        have hfx : faultS (turnS S a b) = 0 := fault_of hGX
        rcases hL1 with ⟨h0, _⟩ | ⟨_, l1, rfl, hl1, _⟩
        · exact absurd hf h0
        rcases hL2 with ⟨h0, _⟩ | ⟨_, l2, rfl, hl2, _⟩
        · exact absurd hfx h0
        have wy := ry.whole (n := 7) rfl
        have wx8 := (rx.mono s8).whole (n := 7) rfl
        have ry10 := ry.mono sg10
        have rx10 := rx.mono sg10
        have hS10 := hyg.mono sg10
        have hX10 := hX.mono sg10
        have hl1' := Cells.mono hl1 s10
        rw [turn_leave hG la lb] at hl2
        have b10 : g10.next ≤ h.next + 4000000 := by omega
        have fg10 : g10.floor ≤ g10.next := by omega
        obtain ⟨w11, v11, s11, g11, e11, hy11, o11, u11, m11, f11⟩ := steepL_c (n := n) (h := g10) (by omega) (by omega) (by omega) hS10 hth
        obtain ⟨t12, g12, e12, s12, u12, m12, f12, hO1⟩ := out_c (n := n) (h := g11) (by omega) (by omega) (by omega) hy11 hth (a : Int)
        have sub12 : Sub All g10 g12 := (AHeap.subOf o11).trans s12
        obtain ⟨w13, v13, s13, g13, e13, hy13, o13, u13, m13, f13⟩ := steepL_c (n := n) (h := g12) (by omega) (by omega) (by omega) (hX10.mono sub12) hTX
        obtain ⟨t14, g14, e14, s14, u14, m14, f14, hO2⟩ := out_c (n := n) (h := g13) (by omega) (by omega) (by omega) hy13 hTX (b : Int)
        have sub14 : Sub All g12 g14 := (AHeap.subOf o13).trans s14
        have sub1014 := sub12.trans sub14
        have hi1 : InV S (a : Int) := by unfold InV; omega
        have hi2 : InV (turnS S a b) (b : Int) := by unfold InV; show (0 : Int) ≤ b ∧ (b : Int) ≤ (S.nv : Int) - 1; omega
        obtain ⟨w15, v15, s15, g15, e15, hy15, o15, u15, m15, f15⟩ := steepL_c (n := n) (h := g14) (by omega) (by omega) (by omega) (hS10.mono sub1014) hth
        have eg15 := goodP_c (n := n) (h := g15) (by omega) (by omega) hy15 hth (a : Int)
        have s15' : Sub All g14 g15 := AHeap.subOf o15
        obtain ⟨q1, q2, q3⟩ := turn_goodE hG la lb
        obtain ⟨GE, hGE⟩ : ∃ x, x = goodE S (a : Int) := ⟨_, rfl⟩
        obtain ⟨GL, hGL⟩ : ∃ x, x = goodLo S (a : Int) := ⟨_, rfl⟩
        obtain ⟨GH, hGH⟩ : ∃ x, x = goodHi S (a : Int) := ⟨_, rfl⟩
        rw [← hGE, ← hGL, ← hGH] at eg15
        by_cases hz : truthsS S = []
        · have hzx : truthsS (turnS S a b) = [] := Classical.byContradiction fun q => (turn_ne hG la lb).1 q hz
          have hlz : (0 : Int) < ((leaveS S).length : Int) := by
            have : leaveS S ≠ [] := fun q => leave_nil hG q hz
            have := List.length_pos_iff.2 this
            omega
          have hlz0 : ¬ ((leaveS S).length : Int) = 0 := by omega
          rcases hO1 with ⟨h0, _⟩ | ⟨_, h0, _⟩ | ⟨_, _, _, rfl⟩ | ⟨_, _, h0, _⟩
          · exact absurd hf h0
          · exact absurd hi1 h0
          case inr.inr.inr => exact absurd hz h0
          rcases hO2 with ⟨h0, _⟩ | ⟨_, h0, _⟩ | ⟨_, _, _, rfl⟩ | ⟨_, _, h0, _⟩
          · exact absurd hfx h0
          · exact absurd hi2 h0
          case inr.inr.inr => exact absurd hzx h0
          simp only [rn0, rn1, rn2, rn3, rn4, rn5, rn6, rn7, rn8, if_true, if_false, Nat.le_refl, true_and, and_true, decide_true, decide_false, Bool.not_true, Bool.not_false, reduceIte, Nat.reduceEqDiff, Nat.reduceAdd, Nat.reduceMul, Nat.reduceSub, Nat.reduceLeDiff, Nat.reduceLT, p3, p7, p8, p9, p10, rx0.ld, ry.ld, stg, Nat.zero_add, Cells.len hcs, Int.lt_irrefl, wy, e7, e8, ex0, ex1, wx8, e9, e10, Cells.len hl1', Cells.len hl2, ry10.whole (n := 7) rfl, e11, e12, (rx10.mono sub12).whole (n := 7) rfl, e13, e14, (ry10.mono sub1014).whole (n := 7) rfl, e15, eg15]
          refine step_new (vs := [.int .i64 GL, .int .i64 GH]) (by omega) (by omega) rfl (by simp only [rn0, rn1, rn2, rn3, rn4, rn5, rn6, rn7, rn8, if_true, if_false, Nat.le_refl, true_and, and_true, decide_true, decide_false, Bool.not_true, Bool.not_false, reduceIte, Nat.reduceEqDiff, Nat.reduceAdd, Nat.reduceMul, Nat.reduceSub, Nat.reduceLeDiff, Nat.reduceLT]; rfl) rfl rfl rfl fun g16 hx16 => ?_
          have n16 := hx16.next
          have f16 := hx16.floor
          have s1416 : Sub All g14 g16 := s15'.trans hx16.sub
          obtain ⟨w17, v17, s17, g17, e17, hy17, o17, u17, m17, f17⟩ := steepL_c (n := n) (h := g16) (by omega) (by omega) (by omega) (hX10.mono (sub1014.trans s1416)) hTX
          have eg17 := goodP_c (n := n) (h := g17) (by omega) (by omega) hy17 hTX (b : Int)
          rw [q1, q2, q3, ← hGE, ← hGL, ← hGH] at eg17
          have s17' : Sub All g16 g17 := AHeap.subOf o17
          simp only [rn0, rn1, rn2, rn3, rn4, rn5, rn6, rn7, rn8, if_true, if_false, Nat.le_refl, true_and, and_true, decide_true, decide_false, Bool.not_true, Bool.not_false, reduceIte, Nat.reduceEqDiff, Nat.reduceAdd, Nat.reduceMul, Nat.reduceSub, Nat.reduceLeDiff, Nat.reduceLT, (rx10.mono (sub1014.trans s1416)).whole (n := 7) rfl, e17, eg17, ex0, ex1, p3, p7, p8, p9]
          refine step_new (vs := [.int .i64 GL, .int .i64 GH]) (by omega) (by omega) rfl (by simp only [rn0, rn1, rn2, rn3, rn4, rn5, rn6, rn7, rn8, if_true, if_false, Nat.le_refl, true_and, and_true, decide_true, decide_false, Bool.not_true, Bool.not_false, reduceIte, Nat.reduceEqDiff, Nat.reduceAdd, Nat.reduceMul, Nat.reduceSub, Nat.reduceLeDiff, Nat.reduceLT]; rfl) rfl rfl rfl fun g18 hx18 => ?_
          have n18 := hx18.next
          have f18 := hx18.floor
          have s1418 : Sub All g14 g18 := s1416.trans (s17'.trans hx18.sub)
          have s1218 : Sub All g12 g18 := sub14.trans s1418
          have ra := (hx16.row.mono (s17'.trans hx18.sub)).whole (n := 2) rfl
          have rb := hx18.row.whole (n := 2) rfl
          have haw := awake_c (n := n) (h := g18) (by omega)
          have hl18 := Cells.mono hl1' (sub12.trans s1218)
          have rn : Ranges g18 nilS 0 (fun _ => 0) (fun _ => 0) := ⟨none, 0, rfl, fun x e => (by cases e), .inl rfl⟩
          have i1 := insideL_c (n := n) (h := g18) (by omega) (by omega) rn rn rfl (fun i hi => absurd hi (Nat.not_lt_zero _))
          have i2 := i1
          have hq := fun (f : Go.Vm.Fr) (e1 : f 199 = .agg ⟨[.int .i64 GL, .int .i64 GH]⟩) (e2 : f 200 = .agg ⟨[.int .i64 GL, .int .i64 GH]⟩) => eql39 (h := g18) (N := 206) (f := f) (x := T 199) (y := T 200) (ty := 4) (u := 39) (by rw [valN_tmp (by omega)]; exact e1) (by rw [valN_tmp (by omega)]; exact e2)
          simp only [rn0, rn1, rn2, rn3, rn4, rn5, rn6, rn7, rn8, if_true, if_false, Nat.le_refl, true_and, and_true, decide_true, decide_false, Bool.not_true, Bool.not_false, reduceIte, Nat.reduceEqDiff, Nat.reduceAdd, Nat.reduceMul, Nat.reduceSub, Nat.reduceLeDiff, Nat.reduceLT, p3, p7, p8, p9, g_un, Cells.len hl18, hlz, Int.reduceEq, i1, i2, ra, rb, x_binA, binA_eqlAgg]
          rw [hq _ (by simp only [rn0, rn1, rn2, rn3, rn4, rn5, rn6, rn7, rn8, if_true, if_false, Nat.le_refl, true_and, and_true, decide_true, decide_false, Bool.not_true, Bool.not_false, reduceIte, Nat.reduceEqDiff, Nat.reduceAdd, Nat.reduceMul, Nat.reduceSub, Nat.reduceLeDiff, Nat.reduceLT]) (by simp only [rn0, rn1, rn2, rn3, rn4, rn5, rn6, rn7, rn8, if_true, if_false, Nat.le_refl, true_and, and_true, decide_true, decide_false, Bool.not_true, Bool.not_false, reduceIte, Nat.reduceEqDiff, Nat.reduceAdd, Nat.reduceMul, Nat.reduceSub, Nat.reduceLeDiff, Nat.reduceLT])]
          simp only [rn0, rn1, rn2, rn3, rn4, rn5, rn6, rn7, rn8, if_true, if_false, Nat.le_refl, true_and, and_true, decide_true, decide_false, Bool.not_true, Bool.not_false, reduceIte, Nat.reduceEqDiff, Nat.reduceAdd, Nat.reduceMul, Nat.reduceSub, Nat.reduceLeDiff, Nat.reduceLT, haw, and_self, g_un]
        · have hzx := (turn_ne hG la lb).2 hz
          have hlz : ((leaveS S).length : Int) = 0 := by rw [leave_cons hG hz]; rfl
          rcases hO1 with ⟨h0, _⟩ | ⟨_, h0, _⟩ | ⟨_, _, h0, _⟩ | ⟨_, _, _, r1, rfl, hr1⟩
          · exact absurd hf h0
          · exact absurd hi1 h0
          · exact absurd h0 hz
          rcases hO2 with ⟨h0, _⟩ | ⟨_, h0, _⟩ | ⟨_, _, h0, _⟩ | ⟨_, _, _, r2, rfl, hr2⟩
          · exact absurd hfx h0
          · exact absurd hi2 h0
          · exact absurd h0 hzx
          simp only [Int.toNat_natCast] at hr1 hr2
          simp only [rn0, rn1, rn2, rn3, rn4, rn5, rn6, rn7, rn8, if_true, if_false, Nat.le_refl, true_and, and_true, decide_true, decide_false, Bool.not_true, Bool.not_false, reduceIte, Nat.reduceEqDiff, Nat.reduceAdd, Nat.reduceMul, Nat.reduceSub, Nat.reduceLeDiff, Nat.reduceLT, p3, p7, p8, p9, p10, rx0.ld, ry.ld, stg, Nat.zero_add, Cells.len hcs, Int.lt_irrefl, wy, e7, e8, ex0, ex1, wx8, e9, e10, Cells.len hl1', Cells.len hl2, ry10.whole (n := 7) rfl, e11, e12, (rx10.mono sub12).whole (n := 7) rfl, e13, e14, (ry10.mono sub1014).whole (n := 7) rfl, e15, eg15]
          refine step_new (vs := [.int .i64 GL, .int .i64 GH]) (by omega) (by omega) rfl (by simp only [rn0, rn1, rn2, rn3, rn4, rn5, rn6, rn7, rn8, if_true, if_false, Nat.le_refl, true_and, and_true, decide_true, decide_false, Bool.not_true, Bool.not_false, reduceIte, Nat.reduceEqDiff, Nat.reduceAdd, Nat.reduceMul, Nat.reduceSub, Nat.reduceLeDiff, Nat.reduceLT]; rfl) rfl rfl rfl fun g16 hx16 => ?_
          have n16 := hx16.next
          have f16 := hx16.floor
          have s1416 : Sub All g14 g16 := s15'.trans hx16.sub
          obtain ⟨w17, v17, s17, g17, e17, hy17, o17, u17, m17, f17⟩ := steepL_c (n := n) (h := g16) (by omega) (by omega) (by omega) (hX10.mono (sub1014.trans s1416)) hTX
          have eg17 := goodP_c (n := n) (h := g17) (by omega) (by omega) hy17 hTX (b : Int)
          rw [q1, q2, q3, ← hGE, ← hGL, ← hGH] at eg17
          have s17' : Sub All g16 g17 := AHeap.subOf o17
          simp only [rn0, rn1, rn2, rn3, rn4, rn5, rn6, rn7, rn8, if_true, if_false, Nat.le_refl, true_and, and_true, decide_true, decide_false, Bool.not_true, Bool.not_false, reduceIte, Nat.reduceEqDiff, Nat.reduceAdd, Nat.reduceMul, Nat.reduceSub, Nat.reduceLeDiff, Nat.reduceLT, (rx10.mono (sub1014.trans s1416)).whole (n := 7) rfl, e17, eg17, ex0, ex1, p3, p7, p8, p9]
          refine step_new (vs := [.int .i64 GL, .int .i64 GH]) (by omega) (by omega) rfl (by simp only [rn0, rn1, rn2, rn3, rn4, rn5, rn6, rn7, rn8, if_true, if_false, Nat.le_refl, true_and, and_true, decide_true, decide_false, Bool.not_true, Bool.not_false, reduceIte, Nat.reduceEqDiff, Nat.reduceAdd, Nat.reduceMul, Nat.reduceSub, Nat.reduceLeDiff, Nat.reduceLT]; rfl) rfl rfl rfl fun g18 hx18 => ?_
          have n18 := hx18.next
          have f18 := hx18.floor
          have s1418 : Sub All g14 g18 := s1416.trans (s17'.trans hx18.sub)
          have s1218 : Sub All g12 g18 := sub14.trans s1418
          have ra := (hx16.row.mono (s17'.trans hx18.sub)).whole (n := 2) rfl
          have rb := hx18.row.whole (n := 2) rfl
          have haw := awake_c (n := n) (h := g18) (by omega)
          have hl18 := Cells.mono hl1' (sub12.trans s1218)
          have hoh : hoursN S a ≤ 300 := by have := (hoursN_ok hG la).2.2; omega
          have i1 := insideL_c (n := n) (h := g18) (by omega) hoh (Cells.mono hr1 s1218) (Cells.mono hr2 s1418) turn_hours.symm (fun i hi => ⟨Int.le_of_eq (turn_lohi hG la lb hz hi).1, Int.le_of_eq (turn_lohi hG la lb hz hi).2.symm⟩)
          have i2 := insideL_c (n := n) (h := g18) (by omega) (by rw [turn_hours]; exact hoh) (Cells.mono hr2 s1418) (Cells.mono hr1 s1218) turn_hours (fun i hi => by rw [turn_hours] at hi; exact ⟨Int.le_of_eq (turn_lohi hG la lb hz hi).1.symm, Int.le_of_eq (turn_lohi hG la lb hz hi).2⟩)
          have hq := fun (f : Go.Vm.Fr) (e1 : f 199 = .agg ⟨[.int .i64 GL, .int .i64 GH]⟩) (e2 : f 200 = .agg ⟨[.int .i64 GL, .int .i64 GH]⟩) => eql39 (h := g18) (N := 206) (f := f) (x := T 199) (y := T 200) (ty := 4) (u := 39) (by rw [valN_tmp (by omega)]; exact e1) (by rw [valN_tmp (by omega)]; exact e2)
          simp only [rn0, rn1, rn2, rn3, rn4, rn5, rn6, rn7, rn8, if_true, if_false, Nat.le_refl, true_and, and_true, decide_true, decide_false, Bool.not_true, Bool.not_false, reduceIte, Nat.reduceEqDiff, Nat.reduceAdd, Nat.reduceMul, Nat.reduceSub, Nat.reduceLeDiff, Nat.reduceLT, p3, p7, p8, p9, g_un, Cells.len hl18, hlz, Int.reduceEq, i1, i2, ra, rb, x_binA, binA_eqlAgg]
          rw [hq _ (by simp only [rn0, rn1, rn2, rn3, rn4, rn5, rn6, rn7, rn8, if_true, if_false, Nat.le_refl, true_and, and_true, decide_true, decide_false, Bool.not_true, Bool.not_false, reduceIte, Nat.reduceEqDiff, Nat.reduceAdd, Nat.reduceMul, Nat.reduceSub, Nat.reduceLeDiff, Nat.reduceLT]) (by simp only [rn0, rn1, rn2, rn3, rn4, rn5, rn6, rn7, rn8, if_true, if_false, Nat.le_refl, true_and, and_true, decide_true, decide_false, Bool.not_true, Bool.not_false, reduceIte, Nat.reduceEqDiff, Nat.reduceAdd, Nat.reduceMul, Nat.reduceSub, Nat.reduceLeDiff, Nat.reduceLT])]
          simp only [rn0, rn1, rn2, rn3, rn4, rn5, rn6, rn7, rn8, if_true, if_false, Nat.le_refl, true_and, and_true, decide_true, decide_false, Bool.not_true, Bool.not_false, reduceIte, Nat.reduceEqDiff, Nat.reduceAdd, Nat.reduceMul, Nat.reduceSub, Nat.reduceLeDiff, Nat.reduceLT, haw, and_self, g_un]
theorem turnedL_c (hn : 3200 ≤ n) (hr : h.next + 9000000 < far) (hfl : h.floor ≤ h.next) {wv vv sv : Value} {S : MS} (hy : SteepR h wv vv sv S) (a1 : Int) (wf1 : (Lit.int .u8 a1).wf = true) (a2 : Int) (wf2 : (Lit.int .u8 a2).wf = true) :
    ∃ v h', call n (.func (.func 20) #[] #[]) [.agg ⟨stL S wv vv sv⟩, .int .u8 a1, .int .u8 a2] h = some (v, h') ∧ v = .bool true := by
  obtain ⟨k1, rfl, h1⟩ := wf8 wf1
  obtain ⟨k2, rfl, h2⟩ := wf8 wf2
  by_cases c1 : (ThinS S ∧ faultS S = 0) ∧ 0 < S.nv
  · exact turned_m (by omega) hr hfl hy c1.1.1 c1.1.2 c1.2 h1 h2
  obtain ⟨n, rfl⟩ : ∃ p, n = p + 1 := ⟨n - 1, by omega⟩
  refine call_any0 fok20 rfl rfl (by simp) ?_
  simp only [s20, W_seq, W_ops]
  refine ops_box (cs := stL S wv vv sv) (by omega) rfl hy.one fun g1 hx1 => ?_
  have n1 := hx1.next
  have hy1 := hy.mono hx1.sub
  have er := ready_c (n := n) (h := g1) (by omega) (by omega) hy1
  by_cases c2 : ThinS S ∧ faultS S = 0
  · have z : (S.nv : Int) = 0 := by
      have : ¬ 0 < S.nv := fun q => c1 ⟨c2, q⟩
      omega
    rw [decide_eq_true c2] at er
    simp only [rn0, rn1, rn2, rn3, rn4, rn5, rn6, rn7, rn8, if_true, if_false, Nat.le_refl, true_and, and_true, decide_true, decide_false, Bool.not_true, Bool.not_false, reduceIte, Nat.reduceEqDiff, Nat.reduceAdd, Nat.reduceMul, Nat.reduceSub, Nat.reduceLeDiff, Nat.reduceLT, hx1.row.whole (n := 7) rfl, er, hx1.row.ld, stg, Nat.zero_add, Cells.len hy1.v, z, awake_c (n := n) (h := g1) (by omega)]
  · rw [decide_eq_false c2] at er
    simp only [rn0, rn1, rn2, rn3, rn4, rn5, rn6, rn7, rn8, if_true, if_false, Nat.le_refl, true_and, and_true, decide_true, decide_false, Bool.not_true, Bool.not_false, reduceIte, Nat.reduceEqDiff, Nat.reduceAdd, Nat.reduceMul, Nat.reduceSub, Nat.reduceLeDiff, Nat.reduceLT, hx1.row.whole (n := 7) rfl, er, g_un, awake_c (n := n) (h := g1) (by omega)]
end Go.Vm.St
