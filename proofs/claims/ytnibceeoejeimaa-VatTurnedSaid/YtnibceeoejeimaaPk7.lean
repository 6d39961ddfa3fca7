/- Texts of the proofs of this seat, put together: VatTurnedL, VatTurned2. -/
import Derived.Test.YtnibceeoejeimaaPk6

namespace Go.Vm.Vat
open Go.Proofs
set_option linter.unusedSimpArgs false
set_option linter.unusedVariables false
set_option maxRecDepth 10000
variable {n : Nat} {h : AHeap}
def s67 : SCode := (.seq (.ops [⟨(some 6), none, .mov (.const (.int .i64 (0)))⟩]) (.seq (.seq (.ops [⟨(some 7), none, .mov (T 0)⟩, ⟨(some 8), none, .mov (T 1)⟩, ⟨(some 9), none, .int2 .eql (T 7) (T 8)⟩]) (.cond (T 9) (.seq (.ops [⟨(some 10), none, .mov (T 2)⟩, ⟨(some 6), none, .mov (T 10)⟩]) .ret) .skip)) (.seq (.seq (.ops [⟨(some 11), none, .mov (T 0)⟩, ⟨(some 12), none, .mov (T 2)⟩, ⟨(some 13), none, .int2 .eql (T 11) (T 12)⟩]) (.cond (T 13) (.seq (.ops [⟨(some 14), none, .mov (T 1)⟩, ⟨(some 6), none, .mov (T 14)⟩]) .ret) .skip)) (.seq (.ops [⟨(some 15), none, .mov (T 0)⟩, ⟨(some 6), none, .mov (T 15)⟩]) .ret))))
theorem fok67 : FnOk Try.prog 67 16 s67 [.tmp 6] := ⟨Try.f67, _, Try.func67, rfl, Try.ntmps67, by kernel_rfl, by kernel_rfl⟩
theorem swap_c (hn : 1 ≤ n) (x a b : Int) :
    call n (.func (.func 67) #[] #[]) [.int .i64 x, .int .i64 a, .int .i64 b] h = some (.int .i64 (if x = a then b else if x = b then a else x), h) := by
  obtain ⟨n, rfl⟩ : ∃ p, n = p + 1 := ⟨n - 1, by omega⟩
  suffices hs : ∃ v g1, call (n + 1) (.func (.func 67) #[] #[]) [.int .i64 x, .int .i64 a, .int .i64 b] h = some (v, g1) ∧ v = .int .i64 (if x = a then b else if x = b then a else x) ∧ g1 = h by
    obtain ⟨v, g1, e, rfl, rfl⟩ := hs
    exact e
  refine call_any0 fok67 rfl rfl (by simp) ?_
  by_cases h1 : x = a
  · simp only [rn0, rn1, rn2, rn3, rn4, rn5, rn6, rn7, rn8, if_true, if_false, Nat.le_refl, true_and, and_true, decide_true, decide_false, Bool.not_true, Bool.not_false, reduceIte, Nat.reduceEqDiff, Nat.reduceAdd, Nat.reduceMul, Nat.reduceSub, Nat.reduceLeDiff, Nat.reduceLT, s67, h1]
  · by_cases h2 : x = b
    · by_cases h3 : b = a
      · exact absurd (h2.trans h3) h1
      · simp only [rn0, rn1, rn2, rn3, rn4, rn5, rn6, rn7, rn8, if_true, if_false, Nat.le_refl, true_and, and_true, decide_true, decide_false, Bool.not_true, Bool.not_false, reduceIte, Nat.reduceEqDiff, Nat.reduceAdd, Nat.reduceMul, Nat.reduceSub, Nat.reduceLeDiff, Nat.reduceLT, s67, h1, h2, h3]
    · simp only [rn0, rn1, rn2, rn3, rn4, rn5, rn6, rn7, rn8, if_true, if_false, Nat.le_refl, true_and, and_true, decide_true, decide_false, Bool.not_true, Bool.not_false, reduceIte, Nat.reduceEqDiff, Nat.reduceAdd, Nat.reduceMul, Nat.reduceSub, Nat.reduceLeDiff, Nat.reduceLT, s67, h1, h2]
theorem swapN_c (hn : 1 ≤ n) (k a b : Nat) :
    call n (.func (.func 67) #[] #[]) [.int .i64 (k : Int), .int .i64 (a : Int), .int .i64 (b : Int)] h = some (.int .i64 ((tp a b k : Nat) : Int), h) := by
  rw [swap_c hn, tp_int]
theorem rd_1 {S : Nat → Prop} {f : Fr} {x : Operand} : readsIn S f (.load1 x) = ∀ ad, val f x = .pointer (some ad) → S ad.block := id rfl
theorem rd_N {S : Nat → Prop} {f : Fr} {x : Operand} {k : Nat} : readsIn S f (.loadN k x) = ∀ ad, val f x = .pointer (some ad) → S ad.block := id rfl
theorem rd_ne {b o X : Nat} {s : Option Nat} : (∀ ad : Addr, Value.pointer (some ⟨b, o, s⟩) = .pointer (some ad) → ¬ ad.block = X) = ¬ b = X := by
  simp only [eq_iff_iff]
  exact ⟨fun hh => hh _ rfl, fun hb ad e => by cases e; exact hb⟩
theorem flatR_splice {m k : Nat} {lo hi : Nat → Int} {L H : Int} (hk : k < m) : splice (flatL 2 m fun k j => .int .i64 (if j = 0 then lo k else hi k)) (k * 2) [.int .i64 L, .int .i64 H] = flatL 2 m fun k' j => .int .i64 (if j = 0 then (fun i => if i = k then L else lo i) k' else (fun i => if i = k then H else hi i) k') := by
  unfold flatL
  refine map_splice (by simp; omega) (fun i hi hc => ?_) (fun j hj => ?_)
  · simp only [List.length_cons, List.length_nil] at hc
    have e : ¬ i / 2 = k := by omega
    simp only [e, if_false]
  · simp only [List.length_cons, List.length_nil] at hj
    obtain rfl | rfl : j = 0 ∨ j = 1 := by omega
    · have e1 : (k * 2 + 0) / 2 = k := by omega
      have e2 : (k * 2 + 0) % 2 = 0 := by omega
      simp [e1, e2]
    · have e1 : (k * 2 + 1) / 2 = k := by omega
      have e2 : (k * 2 + 1) % 2 = 1 := by omega
      simp [e1, e2]
def s17 : SCode := (.seq (.ops [⟨(some 3), none, .box (T 0)⟩, ⟨(some 6), none, .mov (.const (.bool false))⟩]) (.seq (.seq (.ops [⟨(some 23), none, .loadN 3 (T 3)⟩, ⟨(some 24), none, .call (.func 62) [(T 23)]⟩, ⟨(some 25), none, .not (T 24)⟩, ⟨(some 26), none, .mov (T 25)⟩, ⟨(some 27), (some (26, false)), .fieldAddr 0 (T 3)⟩, ⟨(some 28), (some (26, false)), .load1 (T 27)⟩, ⟨(some 29), (some (26, false)), .len (T 28)⟩, ⟨(some 30), (some (26, false)), .int2 .eql (T 29) (.const (.int .i64 (0)))⟩, ⟨(some 31), none, .pick (T 26) (.const (.bool true)) (T 30)⟩, ⟨(some 32), none, .mov (T 31)⟩, ⟨(some 33), (some (32, false)), .fieldAddr 1 (T 3)⟩, ⟨(some 34), (some (32, false)), .load1 (T 33)⟩, ⟨(some 35), (some (32, false)), .len (T 34)⟩, ⟨(some 36), (some (32, false)), .int2 .eql (T 35) (.const (.int .i64 (0)))⟩, ⟨(some 37), none, .pick (T 32) (.const (.bool true)) (T 36)⟩]) (.cond (T 37) (.seq (.ops [⟨(some 38), none, .call (.func 24) []⟩, ⟨(some 6), none, .mov (T 38)⟩]) .ret) .skip)) (.seq (.draw [⟨.free, ⟨(some 39), none, .mov (T 1)⟩⟩, ⟨.free, ⟨(some 40), none, .plain (.convert 5 3 (T 39)) 3⟩⟩, ⟨.free, ⟨(some 41), none, .fieldAddr 0 (T 3)⟩⟩, ⟨.rd1, ⟨(some 42), none, .load1 (T 41)⟩⟩, ⟨.free, ⟨(some 43), none, .len (T 42)⟩⟩, ⟨.free, ⟨(some 44), none, .plain (.binOp .rem 3 (T 40) (T 43) 3) 3⟩⟩, ⟨.free, ⟨(some 45), none, .mov (T 2)⟩⟩, ⟨.free, ⟨(some 46), none, .plain (.convert 5 3 (T 45)) 3⟩⟩, ⟨.free, ⟨(some 47), none, .fieldAddr 0 (T 3)⟩⟩, ⟨.rd1, ⟨(some 48), none, .load1 (T 47)⟩⟩, ⟨.free, ⟨(some 49), none, .len (T 48)⟩⟩, ⟨.free, ⟨(some 50), none, .plain (.binOp .rem 3 (T 46) (T 49) 3) 3⟩⟩, ⟨.free, ⟨(some 7), none, .mov (T 44)⟩⟩, ⟨.free, ⟨(some 8), none, .mov (T 50)⟩⟩]) (.seq (.draw [⟨.free, ⟨(some 51), none, .mov (T 1)⟩⟩, ⟨.free, ⟨(some 52), none, .plain (.convert 5 3 (T 51)) 3⟩⟩, ⟨.free, ⟨(some 53), none, .fieldAddr 1 (T 3)⟩⟩, ⟨.rd1, ⟨(some 54), none, .load1 (T 53)⟩⟩, ⟨.free, ⟨(some 55), none, .len (T 54)⟩⟩, ⟨.free, ⟨(some 56), none, .plain (.binOp .rem 3 (T 52) (T 55) 3) 3⟩⟩, ⟨.free, ⟨(some 57), none, .mov (T 2)⟩⟩, ⟨.free, ⟨(some 58), none, .plain (.convert 5 3 (T 57)) 3⟩⟩, ⟨.free, ⟨(some 59), none, .fieldAddr 1 (T 3)⟩⟩, ⟨.rd1, ⟨(some 60), none, .load1 (T 59)⟩⟩, ⟨.free, ⟨(some 61), none, .len (T 60)⟩⟩, ⟨.free, ⟨(some 62), none, .plain (.binOp .rem 3 (T 58) (T 61) 3) 3⟩⟩, ⟨.free, ⟨(some 9), none, .mov (T 56)⟩⟩, ⟨.free, ⟨(some 10), none, .mov (T 62)⟩⟩]) (.seq (.draw [⟨.rd, ⟨(some 63), none, .loadN 3 (T 3)⟩⟩, ⟨.rd, ⟨(some 64), none, .loadN 3 (T 3)⟩⟩, ⟨.up, ⟨(some 11), none, .alloc [(.slice none 0 0), (.slice none 0 0), (.slice none 0 0)]⟩⟩, ⟨.up, ⟨(some 12), none, .alloc [(.slice none 0 0), (.slice none 0 0), (.slice none 0 0)]⟩⟩, ⟨.up, ⟨none, none, .store 3 (T 11) (T 63)⟩⟩, ⟨.any, ⟨none, none, .store 3 (T 12) (T 64)⟩⟩]) (.seq (.ops [⟨(some 65), none, .bslice 2 0 [(.int .i64 (0)), (.int .i64 (0))] [] []⟩, ⟨(some 66), none, .fieldAddr 0 (T 3)⟩, ⟨(some 67), none, .load1 (T 66)⟩, ⟨(some 68), none, .append 2 16 (T 65) (T 67)⟩, ⟨(some 69), none, .fieldAddr 0 (T 11)⟩, ⟨none, none, .store 1 (T 69) (T 68)⟩, ⟨(some 70), none, .fieldAddr 1 (T 11)⟩, ⟨none, none, .store 1 (T 70) (.const (.slice none 0 0))⟩]) (.seq (.draw [⟨.free, ⟨(some 71), none, .fieldAddr 0 (T 11)⟩⟩, ⟨.rd1, ⟨(some 72), none, .load1 (T 71)⟩⟩, ⟨.free, ⟨(some 73), none, .mov (T 7)⟩⟩, ⟨.free, ⟨(some 74), none, .fieldAddr 0 (T 11)⟩⟩, ⟨.rd, ⟨(some 75), none, .load1 (T 74)⟩⟩, ⟨.free, ⟨(some 76), none, .mov (T 8)⟩⟩, ⟨.free, ⟨(some 77), none, .fieldAddr 0 (T 3)⟩⟩, ⟨.rd1, ⟨(some 78), none, .load1 (T 77)⟩⟩, ⟨.free, ⟨(some 79), none, .mov (T 8)⟩⟩, ⟨.free, ⟨(some 80), none, .idxSl 2 (T 78) (T 79)⟩⟩, ⟨.rd1, ⟨(some 81), none, .loadN 2 (T 80)⟩⟩, ⟨.free, ⟨(some 82), none, .fieldAddr 0 (T 3)⟩⟩, ⟨.rd1, ⟨(some 83), none, .load1 (T 82)⟩⟩, ⟨.free, ⟨(some 84), none, .mov (T 7)⟩⟩, ⟨.free, ⟨(some 85), none, .idxSl 2 (T 83) (T 84)⟩⟩, ⟨.rd1, ⟨(some 86), none, .loadN 2 (T 85)⟩⟩, ⟨.free, ⟨(some 87), none, .idxSl 2 (T 72) (T 73)⟩⟩, ⟨.up, ⟨none, none, .store 2 (T 87) (T 81)⟩⟩, ⟨.free, ⟨(some 88), none, .idxSl 2 (T 75) (T 76)⟩⟩, ⟨.any, ⟨none, none, .store 2 (T 88) (T 86)⟩⟩]) (.seq (.ops [⟨(some 89), none, .fieldAddr 1 (T 12)⟩, ⟨none, none, .store 1 (T 89) (.const (.slice none 0 0))⟩, ⟨(some 90), none, .fieldAddr 2 (T 12)⟩, ⟨none, none, .store 1 (T 90) (.const (.slice none 0 0))⟩]) (.seq (.seq (.ops [⟨(some 13), none, .mov (.const (.int .i64 (0)))⟩]) (.block 0 (.loop (.seq (.seq (.ops [⟨(some 91), none, .mov (T 13)⟩, ⟨(some 92), none, .fieldAddr 1 (T 3)⟩, ⟨(some 93), none, .load1 (T 92)⟩, ⟨(some 94), none, .len (T 93)⟩, ⟨(some 95), none, .int2 .lss (T 91) (T 94)⟩]) (.cond (T 95) .skip (.exit 0))) (.seq (.block 1 (.seq (.ops [⟨(some 98), none, .fieldAddr 1 (T 3)⟩, ⟨(some 99), none, .load1 (T 98)⟩, ⟨(some 100), none, .mov (T 13)⟩, ⟨(some 101), none, .idxSl 1 (T 99) (T 100)⟩, ⟨(some 102), none, .load1 (T 101)⟩, ⟨(some 103), none, .call (.func 27) [(T 102)]⟩, ⟨(some 14), none, .mov (T 103)⟩]) (.seq (.draw [⟨.free, ⟨(some 104), none, .mov (T 14)⟩⟩, ⟨.free, ⟨(some 105), none, .mov (T 7)⟩⟩, ⟨.free, ⟨(some 106), none, .mov (T 14)⟩⟩, ⟨.free, ⟨(some 107), none, .mov (T 8)⟩⟩, ⟨.free, ⟨(some 108), none, .mov (T 14)⟩⟩, ⟨.free, ⟨(some 109), none, .mov (T 8)⟩⟩, ⟨.free, ⟨(some 110), none, .idxSl 1 (T 108) (T 109)⟩⟩, ⟨.rd1, ⟨(some 111), none, .load1 (T 110)⟩⟩, ⟨.free, ⟨(some 112), none, .mov (T 14)⟩⟩, ⟨.free, ⟨(some 113), none, .mov (T 7)⟩⟩, ⟨.free, ⟨(some 114), none, .idxSl 1 (T 112) (T 113)⟩⟩, ⟨.rd1, ⟨(some 115), none, .load1 (T 114)⟩⟩, ⟨.free, ⟨(some 116), none, .idxSl 1 (T 104) (T 105)⟩⟩, ⟨.any, ⟨none, none, .store 1 (T 116) (T 111)⟩⟩, ⟨.free, ⟨(some 117), none, .idxSl 1 (T 106) (T 107)⟩⟩, ⟨.any, ⟨none, none, .store 1 (T 117) (T 115)⟩⟩]) (.seq (.ops [⟨(some 118), none, .fieldAddr 1 (T 11)⟩, ⟨(some 119), none, .load1 (T 118)⟩, ⟨(some 120), none, .mov (T 14)⟩, ⟨(some 121), none, .bslice 1 1 [(.slice none 0 0)] [0] [(T 120)]⟩, ⟨(some 122), none, .append 1 24 (T 119) (T 121)⟩, ⟨(some 123), none, .fieldAddr 1 (T 11)⟩, ⟨none, none, .store 1 (T 123) (T 122)⟩]) (.draw [⟨.free, ⟨(some 124), none, .fieldAddr 1 (T 12)⟩⟩, ⟨.rd, ⟨(some 125), none, .load1 (T 124)⟩⟩, ⟨.free, ⟨(some 126), none, .fieldAddr 1 (T 3)⟩⟩, ⟨.rd, ⟨(some 127), none, .load1 (T 126)⟩⟩, ⟨.free, ⟨(some 128), none, .mov (T 13)⟩⟩, ⟨.free, ⟨(some 129), none, .mov (T 9)⟩⟩, ⟨.free, ⟨(some 130), none, .mov (T 10)⟩⟩, ⟨.up, ⟨(some 131), none, .call (.func 67) [(T 128), (T 129), (T 130)]⟩⟩, ⟨.free, ⟨(some 132), none, .idxSl 1 (T 127) (T 131)⟩⟩, ⟨.rd1, ⟨(some 133), none, .load1 (T 132)⟩⟩, ⟨.up, ⟨(some 134), none, .bslice 1 1 [(.slice none 0 0)] [0] [(T 133)]⟩⟩, ⟨.any, ⟨(some 135), none, .append 1 24 (T 125) (T 134)⟩⟩, ⟨.free, ⟨(some 136), none, .fieldAddr 1 (T 12)⟩⟩, ⟨.any, ⟨none, none, .store 1 (T 136) (T 135)⟩⟩]))))) (.ops [⟨(some 96), none, .mov (T 13)⟩, ⟨(some 97), none, .int2 .add (T 96) (.const (.int .i64 (1)))⟩, ⟨(some 13), none, .mov (T 97)⟩])))))) (.seq (.seq (.ops [⟨(some 15), none, .mov (.const (.int .i64 (0)))⟩]) (.block 2 (.loop (.seq (.seq (.ops [⟨(some 137), none, .mov (T 15)⟩, ⟨(some 138), none, .fieldAddr 2 (T 3)⟩, ⟨(some 139), none, .load1 (T 138)⟩, ⟨(some 140), none, .len (T 139)⟩, ⟨(some 141), none, .int2 .lss (T 137) (T 140)⟩]) (.cond (T 141) .skip (.exit 2))) (.seq (.block 3 (.draw [⟨.free, ⟨(some 144), none, .fieldAddr 2 (T 12)⟩⟩, ⟨.rd, ⟨(some 145), none, .load1 (T 144)⟩⟩, ⟨.free, ⟨(some 146), none, .fieldAddr 2 (T 3)⟩⟩, ⟨.rd1, ⟨(some 147), none, .load1 (T 146)⟩⟩, ⟨.free, ⟨(some 148), none, .mov (T 15)⟩⟩, ⟨.free, ⟨(some 149), none, .idxSl 3 (T 147) (T 148)⟩⟩, ⟨.free, ⟨(some 150), none, .fieldAddr 0 (T 149)⟩⟩, ⟨.rd1, ⟨(some 151), none, .load1 (T 150)⟩⟩, ⟨.free, ⟨(some 152), none, .mov (T 9)⟩⟩, ⟨.free, ⟨(some 153), none, .mov (T 10)⟩⟩, ⟨.up, ⟨(some 154), none, .call (.func 67) [(T 151), (T 152), (T 153)]⟩⟩, ⟨.free, ⟨(some 155), none, .fieldAddr 2 (T 3)⟩⟩, ⟨.rd, ⟨(some 156), none, .load1 (T 155)⟩⟩, ⟨.free, ⟨(some 157), none, .mov (T 15)⟩⟩, ⟨.free, ⟨(some 158), none, .idxSl 3 (T 156) (T 157)⟩⟩, ⟨.free, ⟨(some 159), none, .fieldAddr 1 (T 158)⟩⟩, ⟨.rd, ⟨(some 160), none, .loadN 2 (T 159)⟩⟩, ⟨.free, ⟨(some 161), none, .build #[(0, 1), (1, 2)] [(.int .i64 (0)), (.int .i64 (0)), (.int .i64 (0))] [0, 1] [(T 154), (T 160)]⟩⟩, ⟨.up, ⟨(some 162), none, .bslice 3 1 [(.int .i64 (0)), (.int .i64 (0)), (.int .i64 (0))] [0] [(T 161)]⟩⟩, ⟨.any, ⟨(some 163), none, .append 3 24 (T 145) (T 162)⟩⟩, ⟨.free, ⟨(some 164), none, .fieldAddr 2 (T 12)⟩⟩, ⟨.any, ⟨none, none, .store 1 (T 164) (T 163)⟩⟩])) (.ops [⟨(some 142), none, .mov (T 15)⟩, ⟨(some 143), none, .int2 .add (T 142) (.const (.int .i64 (1)))⟩, ⟨(some 15), none, .mov (T 143)⟩])))))) (.seq (.ops [⟨(some 166), none, .loadN 3 (T 3)⟩, ⟨(some 167), none, .call (.func 26) [(T 166)]⟩, ⟨(some 168), none, .call (.func 34) [(T 167)]⟩, ⟨(some 165), none, .mov (T 168)⟩, ⟨(some 169), none, .extract 0 (T 165)⟩, ⟨(some 170), none, .extract 1 (T 165)⟩, ⟨(some 16), none, .mov (T 169)⟩, ⟨(some 17), none, .mov (T 170)⟩]) (.seq (.ops [⟨(some 172), none, .loadN 3 (T 11)⟩, ⟨(some 173), none, .call (.func 26) [(T 172)]⟩, ⟨(some 174), none, .call (.func 34) [(T 173)]⟩, ⟨(some 171), none, .mov (T 174)⟩, ⟨(some 175), none, .extract 0 (T 171)⟩, ⟨(some 176), none, .extract 1 (T 171)⟩, ⟨(some 18), none, .mov (T 175)⟩, ⟨(some 19), none, .mov (T 176)⟩]) (.seq (.ops [⟨(some 178), none, .loadN 3 (T 12)⟩, ⟨(some 179), none, .call (.func 26) [(T 178)]⟩, ⟨(some 180), none, .call (.func 34) [(T 179)]⟩, ⟨(some 177), none, .mov (T 180)⟩, ⟨(some 181), none, .extract 0 (T 177)⟩, ⟨(some 182), none, .extract 1 (T 177)⟩, ⟨(some 20), none, .mov (T 181)⟩, ⟨(some 21), none, .mov (T 182)⟩]) (.seq (.seq (.ops [⟨(some 183), none, .mov (T 17)⟩, ⟨(some 184), none, .int2 .neq (T 183) (.const (.int .i64 (0)))⟩]) (.cond (T 184) (.seq (.ops [⟨(some 185), none, .mov (T 17)⟩, ⟨(some 186), none, .int2 .eql (T 185) (.const (.int .i64 (11)))⟩, ⟨(some 187), none, .mov (T 186)⟩, ⟨(some 188), (some (187, true)), .mov (T 19)⟩, ⟨(some 189), (some (187, true)), .mov (T 17)⟩, ⟨(some 190), (some (187, true)), .int2 .eql (T 188) (T 189)⟩, ⟨(some 191), none, .pick (T 187) (T 190) (.const (.bool false))⟩, ⟨(some 192), none, .mov (T 191)⟩, ⟨(some 193), (some (192, true)), .mov (T 21)⟩, ⟨(some 194), (some (192, true)), .mov (T 17)⟩, ⟨(some 195), (some (192, true)), .int2 .eql (T 193) (T 194)⟩, ⟨(some 196), none, .pick (T 192) (T 195) (.const (.bool false))⟩, ⟨(some 197), none, .mov (T 196)⟩, ⟨(some 198), (some (197, true)), .call (.func 24) []⟩, ⟨(some 199), none, .pick (T 197) (T 198) (.const (.bool false))⟩, ⟨(some 6), none, .mov (T 199)⟩]) .ret) .skip)) (.seq (.seq (.ops [⟨(some 200), none, .mov (T 19)⟩, ⟨(some 201), none, .int2 .neq (T 200) (.const (.int .i64 (0)))⟩, ⟨(some 202), none, .mov (T 201)⟩, ⟨(some 203), (some (202, false)), .mov (T 21)⟩, ⟨(some 204), (some (202, false)), .int2 .neq (T 203) (.const (.int .i64 (0)))⟩, ⟨(some 205), none, .pick (T 202) (.const (.bool true)) (T 204)⟩, ⟨(some 206), none, .mov (T 205)⟩, ⟨(some 207), (some (206, false)), .mov (T 16)⟩, ⟨(some 208), (some (206, false)), .len (T 207)⟩, ⟨(some 209), (some (206, false)), .fieldAddr 1 (T 3)⟩, ⟨(some 210), (some (206, false)), .load1 (T 209)⟩, ⟨(some 211), (some (206, false)), .len (T 210)⟩, ⟨(some 212), (some (206, false)), .int2 .neq (T 208) (T 211)⟩, ⟨(some 213), none, .pick (T 206) (.const (.bool true)) (T 212)⟩, ⟨(some 214), none, .mov (T 213)⟩, ⟨(some 215), (some (214, false)), .mov (T 18)⟩, ⟨(some 216), (some (214, false)), .len (T 215)⟩, ⟨(some 217), (some (214, false)), .mov (T 16)⟩, ⟨(some 218), (some (214, false)), .len (T 217)⟩, ⟨(some 219), (some (214, false)), .int2 .neq (T 216) (T 218)⟩, ⟨(some 220), none, .pick (T 214) (.const (.bool true)) (T 219)⟩, ⟨(some 221), none, .mov (T 220)⟩, ⟨(some 222), (some (221, false)), .mov (T 20)⟩, ⟨(some 223), (some (221, false)), .len (T 222)⟩, ⟨(some 224), (some (221, false)), .mov (T 16)⟩, ⟨(some 225), (some (221, false)), .len (T 224)⟩, ⟨(some 226), (some (221, false)), .int2 .neq (T 223) (T 225)⟩, ⟨(some 227), none, .pick (T 221) (.const (.bool true)) (T 226)⟩]) (.cond (T 227) (.seq (.ops [⟨(some 6), none, .mov (.const (.bool false))⟩]) .ret) .skip)) (.seq (.seq (.ops [⟨(some 22), none, .mov (.const (.int .i64 (0)))⟩]) (.block 4 (.loop (.seq (.seq (.ops [⟨(some 228), none, .mov (T 22)⟩, ⟨(some 229), none, .mov (T 16)⟩, ⟨(some 230), none, .len (T 229)⟩, ⟨(some 231), none, .int2 .lss (T 228) (T 230)⟩]) (.cond (T 231) .skip (.exit 4))) (.seq (.block 5 (.seq (.draw [⟨.free, ⟨(some 234), none, .mov (T 16)⟩⟩, ⟨.free, ⟨(some 235), none, .mov (T 22)⟩⟩, ⟨.free, ⟨(some 236), none, .idxSl 2 (T 234) (T 235)⟩⟩, ⟨.rd1, ⟨(some 237), none, .loadN 2 (T 236)⟩⟩, ⟨.free, ⟨(some 238), none, .mov (T 18)⟩⟩, ⟨.free, ⟨(some 239), none, .mov (T 22)⟩⟩, ⟨.free, ⟨(some 240), none, .idxSl 2 (T 238) (T 239)⟩⟩, ⟨.rd1, ⟨(some 241), none, .loadN 2 (T 240)⟩⟩, ⟨.free, ⟨(some 242), none, .bin .neq (.binOp .neq 49 (T 237) (T 241) 49) 4 (T 237) (T 241)⟩⟩, ⟨.free, ⟨(some 243), none, .mov (T 242)⟩⟩, ⟨.free, ⟨(some 244), (some (243, false)), .mov (T 16)⟩⟩, ⟨.free, ⟨(some 245), (some (243, false)), .mov (T 22)⟩⟩, ⟨.free, ⟨(some 246), (some (243, false)), .idxSl 2 (T 244) (T 245)⟩⟩, ⟨.rd, ⟨(some 247), (some (243, false)), .loadN 2 (T 246)⟩⟩, ⟨.free, ⟨(some 248), (some (243, false)), .mov (T 20)⟩⟩, ⟨.free, ⟨(some 249), (some (243, false)), .mov (T 22)⟩⟩, ⟨.free, ⟨(some 250), (some (243, false)), .mov (T 9)⟩⟩, ⟨.free, ⟨(some 251), (some (243, false)), .mov (T 10)⟩⟩, ⟨.up, ⟨(some 252), (some (243, false)), .call (.func 67) [(T 249), (T 250), (T 251)]⟩⟩, ⟨.free, ⟨(some 253), (some (243, false)), .idxSl 2 (T 248) (T 252)⟩⟩, ⟨.rd1, ⟨(some 254), (some (243, false)), .loadN 2 (T 253)⟩⟩, ⟨.free, ⟨(some 255), (some (243, false)), .bin .neq (.binOp .neq 49 (T 247) (T 254) 49) 4 (T 247) (T 254)⟩⟩, ⟨.free, ⟨(some 256), none, .pick (T 243) (.const (.bool true)) (T 255)⟩⟩]) (.cond (T 256) (.seq (.ops [⟨(some 6), none, .mov (.const (.bool false))⟩]) .ret) .skip))) (.ops [⟨(some 232), none, .mov (T 22)⟩, ⟨(some 233), none, .int2 .add (T 232) (.const (.int .i64 (1)))⟩, ⟨(some 22), none, .mov (T 233)⟩])))))) (.seq (.ops [⟨(some 257), none, .call (.func 24) []⟩, ⟨(some 6), none, .mov (T 257)⟩]) .ret)))))))))))))))))
theorem fok17 : FnOk Try.prog 17 258 s17 [.tmp 6] := ⟨Try.f17, _, Try.func17, rfl, Try.ntmps17, by kernel_rfl, by kernel_rfl⟩
set_option maxHeartbeats 6000000 in
theorem turned_m (hn : 10100 ≤ n) (hr : h.next + 9000000 < far) (hfl : h.floor ≤ h.next) {fv vv sv : Value} {Y : MY} (hy : YardR h fv vv sv Y) (hT : Thin Y) (hf : faultN Y = 0) (hnf : 0 < Y.nf) (hnv : 0 < Y.nv) {a1 a2 : Nat} (w1 : a1 < 256) (w2 : a2 < 256) :
    ∃ v h', call n (.func (.func 17) #[] #[]) [.agg ⟨[fv, vv, sv]⟩, .int .u8 (a1 : Int), .int .u8 (a2 : Int)] h = some (v, h') ∧ v = .bool true := by
  obtain ⟨n, rfl⟩ : ∃ p, n = p + 1 := ⟨n - 1, by omega⟩
  obtain ⟨bf, of, capf, csf, wf, gf, rfl, hgf, hcf⟩ := hy.f.ptr hnf
  refine call_any0 fok17 rfl rfl (by simp) ?_
  simp only [s17, W_seq, W_ops]
  obtain ⟨fv, hfv⟩ : ∃ v, v = Value.slice (some ⟨bf, of, none⟩) Y.nf capf := ⟨_, rfl⟩
  rw [← hfv] at hy ⊢
  have hbf : bf < h.next := AHeap.lt_of_get hgf
  refine ops_box (cs := [fv, vv, sv]) (by omega) rfl hy.one fun g1 hx1 => ?_
  have n1 := hx1.next
  have f1 := hx1.floor
  have e1 : g1.next = h.next + 1 := n1
  have hy1 := hy.mono hx1.sub
  have x1 := hx1.row.whole (n := 3) rfl
  have r1 := hx1.row
  have hrd := ready_c (n := n) (h := g1) (by omega) (by omega) hy1
  have hrd' : decide (Thin Y ∧ faultN Y = 0) = true := decide_eq_true ⟨hT, hf⟩
  rw [hrd'] at hrd
  obtain ⟨rr, hrw, hq⟩ := hy1.v
  have hG := good_of hf
  obtain ⟨s1, s2, s3⟩ := hG.sz
  have z1 : ¬ (Y.nf : Int) = 0 := by omega
  have z2 : ¬ (Y.nv : Int) = 0 := by omega
  obtain ⟨a, ha⟩ : ∃ x, x = a1 % Y.nf := ⟨_, rfl⟩
  obtain ⟨b, hb⟩ : ∃ x, x = a2 % Y.nf := ⟨_, rfl⟩
  obtain ⟨c, hc⟩ : ∃ x, x = a1 % Y.nv := ⟨_, rfl⟩
  obtain ⟨d, hd⟩ : ∃ x, x = a2 % Y.nv := ⟨_, rfl⟩
  have la : a < Y.nf := by rw [ha]; exact Nat.mod_lt _ hnf
  have lb : b < Y.nf := by rw [hb]; exact Nat.mod_lt _ hnf
  have lc : c < Y.nv := by rw [hc]; exact Nat.mod_lt _ hnv
  have ld : d < Y.nv := by rw [hd]; exact Nat.mod_lt _ hnv
  have m1 : (a1 : Int).tmod (Y.nf : Int) = (a : Int) := by rw [ha]; rfl
  have m2 : (a2 : Int).tmod (Y.nf : Int) = (b : Int) := by rw [hb]; rfl
  have m3 : (a1 : Int).tmod (Y.nv : Int) = (c : Int) := by rw [hc]; rfl
  have m4 : (a2 : Int).tmod (Y.nv : Int) = (d : Int) := by rw [hd]; rfl
  clear ha hb hc hd
  simp only [rn0, rn1, rn2, rn3, rn4, rn5, rn6, rn7, rn8, if_true, if_false, Nat.le_refl, true_and, and_true, decide_true, decide_false, Bool.not_true, Bool.not_false, reduceIte, Nat.reduceEqDiff, Nat.reduceAdd, Nat.reduceMul, Nat.reduceSub, Nat.reduceLeDiff, Nat.reduceLT, x1, hrd, r1.ld, Nat.zero_add, List.getElem?_cons_zero, List.getElem?_cons_succ, Cells.len hy1.f, Cells.len hrw, z1, z2]
  refine W_draw All ?_
  simp only [rn0, rn1, rn2, rn3, rn4, rn5, rn6, rn7, rn8, if_true, if_false, Nat.le_refl, true_and, and_true, decide_true, decide_false, Bool.not_true, Bool.not_false, reduceIte, Nat.reduceEqDiff, Nat.reduceAdd, Nat.reduceMul, Nat.reduceSub, Nat.reduceLeDiff, Nat.reduceLT, p_conv8, r_8 w1, r_8 w2, valN_tmp, valN_const, Nat.reduceLT, r1.ld, Nat.zero_add, List.getElem?_cons_zero, List.getElem?_cons_succ, Cells.len hy1.f, Cells.len hrw, r_rem z1, r_rem z2, m1, m2]
  refine W_draw All ?_
  simp only [rn0, rn1, rn2, rn3, rn4, rn5, rn6, rn7, rn8, if_true, if_false, Nat.le_refl, true_and, and_true, decide_true, decide_false, Bool.not_true, Bool.not_false, reduceIte, Nat.reduceEqDiff, Nat.reduceAdd, Nat.reduceMul, Nat.reduceSub, Nat.reduceLeDiff, Nat.reduceLT, p_conv8, r_8 w1, r_8 w2, valN_tmp, valN_const, Nat.reduceLT, r1.ld, Nat.zero_add, List.getElem?_cons_zero, List.getElem?_cons_succ, Cells.len hy1.f, Cells.len hrw, r_rem z1, r_rem z2, m3, m4]
  refine W_draw All ?_
  simp only [rn0, rn1, rn2, rn3, rn4, rn5, rn6, rn7, rn8, if_true, if_false, Nat.le_refl, true_and, and_true, decide_true, decide_false, Bool.not_true, Bool.not_false, reduceIte, Nat.reduceEqDiff, Nat.reduceAdd, Nat.reduceMul, Nat.reduceSub, Nat.reduceLeDiff, Nat.reduceLT, x1, hy1.self]
  refine up_row (cs := [nilS, nilS, nilS]) (by omega) rfl rfl (fun g2 hx => hx.sub) fun g2 hx2 => ?_
  have n2 := hx2.next
  have f2 := hx2.floor
  have e2 : g2.next = h.next + 2 := by omega
  simp only [rn0, rn1, rn2, rn3, rn4, rn5, rn6, rn7, rn8, if_true, if_false, Nat.le_refl, true_and, and_true, decide_true, decide_false, Bool.not_true, Bool.not_false, reduceIte, Nat.reduceEqDiff, Nat.reduceAdd, Nat.reduceMul, Nat.reduceSub, Nat.reduceLeDiff, Nat.reduceLT]
  refine up_row (cs := [nilS, nilS, nilS]) (by omega) rfl rfl (fun g3 hx => hx2.sub.trans hx.sub) fun g3 hx3 => ?_
  have n3 := hx3.next
  have f3 := hx3.floor
  have rx3 : g3.get (h.next + 1) = some (.row [nilS, nilS, nilS] true 0) := by rw [hx3.old _ (by omega)]; have := hx2.get; rw [e1] at this; exact this
  have rz3 : g3.get (h.next + 2) = some (.row [nilS, nilS, nilS] true 0) := by have := hx3.get; rw [e2] at this; exact this
  rw [e1, e2]
  simp only [rn0, rn1, rn2, rn3, rn4, rn5, rn6, rn7, rn8, if_true, if_false, Nat.le_refl, true_and, and_true, decide_true, decide_false, Bool.not_true, Bool.not_false, reduceIte, Nat.reduceEqDiff, Nat.reduceAdd, Nat.reduceMul, Nat.reduceSub, Nat.reduceLeDiff, Nat.reduceLT]
  refine up_store (b := h.next + 1) (off := 0) (vs := [fv, vv, sv]) rfl rx3 (by omega) (by omega) rfl hy.one rfl (by simp) (fun g hs => fun i cs w gr t hg => by
    have := AHeap.lt_of_get hg
    rw [hs.old i (by omega)]; exact hx3.sub _ _ _ _ t (hx2.sub _ _ _ _ t hg)) fun g4 hs4 => ?_
  rw [show splice [nilS, nilS, nilS] 0 [fv, vv, sv] = [fv, vv, sv] from rfl] at hs4
  have n4 := hs4.next
  have f4 := hs4.floor
  simp only [rn0, rn1, rn2, rn3, rn4, rn5, rn6, rn7, rn8, if_true, if_false, Nat.le_refl, true_and, and_true, decide_true, decide_false, Bool.not_true, Bool.not_false, reduceIte, Nat.reduceEqDiff, Nat.reduceAdd, Nat.reduceMul, Nat.reduceSub, Nat.reduceLeDiff, Nat.reduceLT]
  refine up_store (b := h.next + 2) (off := 0) (vs := [fv, vv, sv]) rfl (by rw [hs4.old _ (by omega)]; exact rz3) (by omega) (by omega) rfl hy.one rfl (by simp) (fun _ _ => trivial) fun g5 hs5 => ?_
  rw [show splice [nilS, nilS, nilS] 0 [fv, vv, sv] = [fv, vv, sv] from rfl] at hs5
  have n5 := hs5.next
  have f5 := hs5.floor
  have gx5 : g5.get (h.next + 1) = some (.row [fv, vv, sv] true 0) := by rw [hs5.old _ (by omega)]; exact hs4.get
  have gz5 : g5.get (h.next + 2) = some (.row [fv, vv, sv] true 0) := hs5.get
  have old5 : ∀ i, i < h.next + 1 → g5.get i = g1.get i := fun i hi => by rw [hs5.old i (by omega), hs4.old i (by omega), hx3.old i (by omega), hx2.old i (by omega)]
  have s15 : Sub All g1 g5 := fun i cs w gr t hg => by rw [old5 i (by have := AHeap.lt_of_get hg; omega)]; exact hg
  have r5 := r1.mono s15
  have hy5 := hy1.mono s15
  have e5 : g5.next = h.next + 3 := by omega
  obtain ⟨xf, kf, ef, lf⟩ := Cells.list (by omega) hy5.f
  clear hs4 hs5 hx2 hx3 rx3 rz3
  simp only [rn0, rn1, rn2, rn3, rn4, rn5, rn6, rn7, rn8, if_true, if_false, Nat.le_refl, true_and, and_true, decide_true, decide_false, Bool.not_true, Bool.not_false, reduceIte, Nat.reduceEqDiff, Nat.reduceAdd, Nat.reduceMul, Nat.reduceSub, Nat.reduceLeDiff, Nat.reduceLT, build_none2]
  refine step_slice (by omega) rfl fun g6 hx6 => ?_
  have n6 := hx6.next
  have f6 := hx6.floor
  have hap := append_none (h := g6) (s := 2) (bytes := 16) (b := g5.next) ⟨xf, kf, ef⟩ (cells_sub hx6.sub hy5.f (by omega) lf) flatL_len (by simp [maxBytes]; omega) (by simp [maxBytes]; omega)
  rw [if_neg (by omega)] at hap
  simp only [rn0, rn1, rn2, rn3, rn4, rn5, rn6, rn7, rn8, if_true, if_false, Nat.le_refl, true_and, and_true, decide_true, decide_false, Bool.not_true, Bool.not_false, reduceIte, Nat.reduceEqDiff, Nat.reduceAdd, Nat.reduceMul, Nat.reduceSub, Nat.reduceLeDiff, Nat.reduceLT, (r5.mono hx6.sub).ld, Nat.zero_add, List.getElem?_cons_zero, List.getElem?_cons_succ, hap]
  refine step_slice (by omega) flatL_one fun g7 hx7 => ?_
  have n7 := hx7.next
  have f7 := hx7.floor
  have e7 : g6.next = h.next + 4 := by omega
  have gF7 := hx7.get
  rw [e7] at gF7
  rw [e7]
  simp only [rn0, rn1, rn2, rn3, rn4, rn5, rn6, rn7, rn8, if_true, if_false, Nat.le_refl, true_and, and_true, decide_true, decide_false, Bool.not_true, Bool.not_false, reduceIte, Nat.reduceEqDiff, Nat.reduceAdd, Nat.reduceMul, Nat.reduceSub, Nat.reduceLeDiff, Nat.reduceLT]
  refine step_store (b := h.next + 1) (off := 0) (vs := [.slice (some ⟨h.next + 4, 0, none⟩) Y.nf unk]) rfl (hx7.sub _ _ _ _ trivial (hx6.sub _ _ _ _ trivial gx5)) (by omega) (by omega) rfl rfl rfl (by simp) fun g8 hs8 => ?_
  rw [show splice [fv, vv, sv] 0 [.slice (some ⟨h.next + 4, 0, none⟩) Y.nf unk] = [.slice (some ⟨h.next + 4, 0, none⟩) Y.nf unk, vv, sv] from rfl] at hs8
  have n8 := hs8.next
  have f8 := hs8.floor
  simp only [rn0, rn1, rn2, rn3, rn4, rn5, rn6, rn7, rn8, if_true, if_false, Nat.le_refl, true_and, and_true, decide_true, decide_false, Bool.not_true, Bool.not_false, reduceIte, Nat.reduceEqDiff, Nat.reduceAdd, Nat.reduceMul, Nat.reduceSub, Nat.reduceLeDiff, Nat.reduceLT]
  refine step_store (b := h.next + 1) (off := 1) (vs := [nilS]) rfl hs8.get (by omega) (by omega) rfl rfl rfl (by simp) fun g9 hs9 => ?_
  rw [show splice [.slice (some ⟨h.next + 4, 0, none⟩) Y.nf unk, vv, sv] 1 [nilS] = [.slice (some ⟨h.next + 4, 0, none⟩) Y.nf unk, nilS, sv] from rfl] at hs9
  have n9 := hs9.next
  have f9 := hs9.floor
  have old9 : ∀ i, i < h.next + 3 → i ≠ h.next + 1 → g9.get i = g5.get i := fun i hi hne => by rw [hs9.old i hne, hs8.old i hne, hx7.old i (by omega), hx6.old i (by omega)]
  have s19 : Sub All g1 g9 := fun i cs w gr t hg => by
    have := AHeap.lt_of_get hg
    rw [old9 i (by omega) (by omega)]; exact s15 _ _ _ _ t hg
  have gx9 := hs9.get
  have gz9 : g9.get (h.next + 2) = some (.row [fv, vv, sv] true 0) := by rw [old9 _ (by omega) (by omega)]; exact gz5
  have gF9 : g9.get (h.next + 4) = some (.row (flatL 2 Y.nf fun k j => .int .i64 (if j = 0 then Y.lo k else Y.hi k)) true 2) := by rw [hs9.old _ (by omega), hs8.old _ (by omega)]; exact gF7
  have r9 := r1.mono s19
  have hy9 := hy1.mono s19
  have e9 : g9.next = h.next + 5 := by omega
  have rx9 : Row g9 (h.next + 1) [.slice (some ⟨h.next + 4, 0, none⟩) Y.nf unk, nilS, sv] := ⟨_, _, gx9⟩
  clear hs8 hs9 hx6 hx7 gF7 old9
  have hcF : ∀ k j, k < Y.nf → j < 2 → (flatL 2 Y.nf fun k j => .int .i64 (if j = 0 then Y.lo k else Y.hi k))[k * 2 + j]? = some (.int .i64 (if j = 0 then Y.lo k else Y.hi k)) := fun k j hk hj => flatL_get (c := fun k j => .int .i64 (if j = 0 then Y.lo k else Y.hi k)) hk hj
  have hlF : (flatL 2 Y.nf fun k j => .int .i64 (if j = 0 then Y.lo k else Y.hi k)).length = Y.nf * 2 := flatL_len
  have cF9 : Cells g9 (.slice (some ⟨h.next + 4, 0, none⟩) Y.nf unk) 2 Y.nf (fun k j => .int .i64 (if j = 0 then Y.lo k else Y.hi k)) := cells_row ⟨_, _, gF9⟩ hcF
  have pa : ∀ k, ptrO fv 2 k 0 = .pointer (some ⟨bf, of + k * 2, none⟩) := fun k => by rw [hfv]; rfl
  have pF : ∀ k, ptrO (.slice (some ⟨h.next + 4, 0, none⟩) Y.nf unk) 2 k 0 = .pointer (some ⟨h.next + 4, k * 2, none⟩) := fun k => by simp [ptrO]
  have iFa := Cells.idx cF9 la
  have iFb := Cells.idx cF9 lb
  have iya := Cells.idx hy9.f la
  have iyb := Cells.idx hy9.f lb
  rw [pF] at iFa iFb
  rw [pa] at iya iyb
  have lya := ranges_ld hy9.f la
  have lyb := ranges_ld hy9.f lb
  rw [pa] at lya lyb
  have nb4 : (bf = h.next + 4) = False := eq_false (by omega)
  have n04 : (h.next = h.next + 4) = False := eq_false (by omega)
  have n14 : (h.next + 1 = h.next + 4) = False := eq_false (by omega)
  simp only [rn0, rn1, rn2, rn3, rn4, rn5, rn6, rn7, rn8, if_true, if_false, Nat.le_refl, true_and, and_true, decide_true, decide_false, Bool.not_true, Bool.not_false, reduceIte, Nat.reduceEqDiff, Nat.reduceAdd, Nat.reduceMul, Nat.reduceSub, Nat.reduceLeDiff, Nat.reduceLT]
  refine W_draw (fun i => i ≠ h.next + 4) ?_
  simp only [rn0, rn1, rn2, rn3, rn4, rn5, rn6, rn7, rn8, if_true, if_false, Nat.le_refl, true_and, and_true, decide_true, decide_false, Bool.not_true, Bool.not_false, reduceIte, Nat.reduceEqDiff, Nat.reduceAdd, Nat.reduceMul, Nat.reduceSub, Nat.reduceLeDiff, Nat.reduceLT, rd_1, rd_N, rd_ne, r9.ld, rx9.ld, Nat.zero_add, List.getElem?_cons_zero, List.getElem?_cons_succ, iFa, iFb, iya, iyb, lya, lyb, self_range, hy9.self, cF9.self, ne_eq, nb4, n04, n14, not_false_eq_true]
  refine up_store (b := h.next + 4) (off := a * 2) (vs := [.int .i64 (Y.lo b), .int .i64 (Y.hi b)]) rfl gF9 (by omega) (by omega) rfl rfl rfl (by rw [hlF]; omega) (fun g hs => fun i cs w gr hi hg => by rw [hs.old i hi]; exact hg) fun g10 hs10 => ?_
  rw [flatR_splice la] at hs10
  have n10 := hs10.next
  have f10 := hs10.floor
  simp only [rn0, rn1, rn2, rn3, rn4, rn5, rn6, rn7, rn8, if_true, if_false, Nat.le_refl, true_and, and_true, decide_true, decide_false, Bool.not_true, Bool.not_false, reduceIte, Nat.reduceEqDiff, Nat.reduceAdd, Nat.reduceMul, Nat.reduceSub, Nat.reduceLeDiff, Nat.reduceLT, iFb]
  refine up_store (b := h.next + 4) (off := b * 2) (vs := [.int .i64 (Y.lo a), .int .i64 (Y.hi a)]) rfl hs10.get (by omega) (by omega) rfl rfl rfl (by rw [flatL_len]; omega) (fun _ _ => trivial) fun g11 hs11 => ?_
  rw [flatR_splice lb] at hs11
  have n11 := hs11.next
  have f11 := hs11.floor
  have gF11 : g11.get (h.next + 4) = some (.row (flatL 2 Y.nf fun k j => .int .i64 (if j = 0 then Y.lo (tp a b k) else Y.hi (tp a b k))) true 2) := by
    have := hs11.get
    rw [show (fun i => if i = b then Y.lo a else (fun i => if i = a then Y.lo b else Y.lo i) i) = fun k => Y.lo (tp a b k) from tp_set, show (fun i => if i = b then Y.hi a else (fun i => if i = a then Y.hi b else Y.hi i) i) = fun k => Y.hi (tp a b k) from tp_set] at this
    exact this
  have old11 : ∀ i, i ≠ h.next + 4 → g11.get i = g9.get i := fun i hi => by rw [hs11.old i hi, hs10.old i hi]
  have gx11 : g11.get (h.next + 1) = some (.row [.slice (some ⟨h.next + 4, 0, none⟩) Y.nf unk, nilS, sv] true 0) := by rw [old11 _ (by omega)]; exact gx9
  have gz11 : g11.get (h.next + 2) = some (.row [fv, vv, sv] true 0) := by rw [old11 _ (by omega)]; exact gz9
  clear hs10 hs11 iFa iFb iya iyb lya lyb cF9 hcF hlF
  simp only [rn0, rn1, rn2, rn3, rn4, rn5, rn6, rn7, rn8, if_true, if_false, Nat.le_refl, true_and, and_true, decide_true, decide_false, Bool.not_true, Bool.not_false, reduceIte, Nat.reduceEqDiff, Nat.reduceAdd, Nat.reduceMul, Nat.reduceSub, Nat.reduceLeDiff, Nat.reduceLT]
  refine step_store (b := h.next + 2) (off := 1) (vs := [nilS]) rfl gz11 (by omega) (by omega) rfl rfl rfl (by simp) fun g12 hs12 => ?_
  rw [show splice [fv, vv, sv] 1 [nilS] = [fv, nilS, sv] from rfl] at hs12
  have n12 := hs12.next
  have f12 := hs12.floor
  simp only [rn0, rn1, rn2, rn3, rn4, rn5, rn6, rn7, rn8, if_true, if_false, Nat.le_refl, true_and, and_true, decide_true, decide_false, Bool.not_true, Bool.not_false, reduceIte, Nat.reduceEqDiff, Nat.reduceAdd, Nat.reduceMul, Nat.reduceSub, Nat.reduceLeDiff, Nat.reduceLT]
  refine step_store (b := h.next + 2) (off := 2) (vs := [nilS]) rfl hs12.get (by omega) (by omega) rfl rfl rfl (by simp) fun g13 hs13 => ?_
  rw [show splice [fv, nilS, sv] 2 [nilS] = [fv, nilS, nilS] from rfl] at hs13
  have n13 := hs13.next
  have f13 := hs13.floor
  have gF13 : g13.get (h.next + 4) = some (.row (flatL 2 Y.nf fun k j => .int .i64 (if j = 0 then Y.lo (tp a b k) else Y.hi (tp a b k))) true 2) := by rw [hs13.old _ (by omega), hs12.old _ (by omega)]; exact gF11
  have gx13 : g13.get (h.next + 1) = some (.row [.slice (some ⟨h.next + 4, 0, none⟩) Y.nf unk, nilS, sv] true 0) := by rw [hs13.old _ (by omega), hs12.old _ (by omega)]; exact gx11
  have gz13 : g13.get (h.next + 2) = some (.row [fv, nilS, nilS] true 0) := hs13.get
  have old13 : ∀ i, i < h.next + 1 → g13.get i = g9.get i := fun i hi => by rw [hs13.old i (by omega), hs12.old i (by omega), old11 i (by omega)]
  have s113 : Sub All g1 g13 := fun i cs w gr t hg => by
    rw [old13 i (by have := AHeap.lt_of_get hg; omega)]; exact s19 _ _ _ _ t hg
  have r13 := r1.mono s113
  have hy13 := hy1.mono s113
  have e13 : g13.next = h.next + 5 := by omega
  clear hs12 hs13 gF9 gF11 gx9 gx11 gz9 gz11 old11 old13 rx9
  obtain ⟨FX, hFX⟩ : ∃ x, x = Value.slice (some ⟨h.next + 4, 0, none⟩) Y.nf unk := ⟨_, rfl⟩
  rw [← hFX] at gx13
  have hqs : ∀ k, k < Y.nv → ∃ a j cap, rr k = Value.slice a j cap := fun k hk => by
    obtain ⟨a, cap, e, _⟩ := hq k hk
    exact ⟨a, _, cap, e⟩
  have hqo : ∀ k, k < Y.nv → oneCell (rr k) = true := fun k hk => Cells.one (hq k hk)
  simp only [rn0, rn1, rn2, rn3, rn4, rn5, rn6, rn7, rn8, if_true, if_false, Nat.le_refl, true_and, and_true, decide_true, decide_false, Bool.not_true, Bool.not_false, reduceIte, Nat.reduceEqDiff, Nat.reduceAdd, Nat.reduceMul, Nat.reduceSub, Nat.reduceLeDiff, Nat.reduceLT]
  refine W_loop Y.nv (fun i f g ms => (∃ xv zv, Sub (fun i => i ≠ h.next + 1 ∧ i ≠ h.next + 2) g13 g ∧ g.floor = g13.floor ∧ g13.next ≤ g.next ∧ g.get (h.next + 1) = some (.row [FX, xv, sv] true 0) ∧ g.get (h.next + 2) = some (.row [fv, zv, nilS] true 0) ∧ DRows g13.next g xv i Y.nf (fun v k => Y.q v (tp a b k)) ∧ GrowC g13.next g zv 1 i (fun k _ => rr (tp c d k)) ∧
      (∀ a k cap a' k' cap', xv = .slice (some a) k cap → zv = .slice (some a') k' cap' → a.block ≠ a'.block) ∧ g.next ≤ g13.next + 10 * i) ∧ ms = [] ∧ f 3 = .pointer (some ⟨h.next, 0, none⟩) ∧ f 7 = .int .i64 (a : Int) ∧ f 8 = .int .i64 (b : Int) ∧ f 9 = .int .i64 (c : Int) ∧ f 10 = .int .i64 (d : Int) ∧ f 11 = .pointer (some ⟨h.next + 1, 0, none⟩) ∧ f 12 = .pointer (some ⟨h.next + 2, 0, none⟩) ∧ f 13 = .int .i64 (i : Int)) (by simp; omega) ?_ ?_ ?_
  · simp only [rn0, rn1, rn2, rn3, rn4, rn5, rn6, rn7, rn8, if_true, if_false, Nat.le_refl, true_and, and_true, decide_true, decide_false, Bool.not_true, Bool.not_false, reduceIte, Nat.reduceEqDiff, Nat.reduceAdd, Nat.reduceMul, Nat.reduceSub, Nat.reduceLeDiff, Nat.reduceLT]
    exact ⟨⟨nilS, nilS, gx13, gz13, .nil, .nil, (fun a k cap a' k' cap' e => by cases e), by omega⟩, rfl⟩
  · rintro i f g ms hi ⟨⟨xv, zv, st, hfg, hup, gx, gz, gd, gc, hne, hgn⟩, rfl, p3, p7, p8, p9, p10, p11, p12, p13⟩
    have hi' : (i : Int) < (Y.nv : Int) := by omega
    have hwi : wrapF .i64 ((i : Int) + 1) = ((i + 1 : Nat) : Int) := by rw [wrap_in (by omega) (by omega)]; rfl
    have hall : Sub All g1 g := fun j cs w gr t hg => st j cs w gr ⟨by have := AHeap.lt_of_get hg; omega, by have := AHeap.lt_of_get hg; omega⟩ (s113 _ _ _ _ t hg)
    have hyg := hy1.mono hall
    have rg := r1.mono hall
    have hrwg := Cells.mono hrw hall
    have hcnt : Y.cnt i = Y.nf := (hG.v i hi).1
    have hqi := (hq i hi).mono hall
    rw [hcnt] at hqi
    obtain ⟨bl, g14, el, hgb, m14, b1, b2⟩ := list_w (n := n) (h := g) (by omega) (by omega) hqi (by omega) hnf
    have n14 := m14.next
    have u14 := m14.up
    have f14 := m14.floor
    have lq : ∀ k, k < Y.nf → loadCell g14 (.pointer (some ⟨bl, k, none⟩)) = some (.int .i64 (Y.q i k)) := fun k hk => by rw [(show Row g14 bl (rowI Y.nf (Y.q i)) from ⟨_, _, hgb⟩).ld, rowI_get hk]
    simp only [rn0, rn1, rn2, rn3, rn4, rn5, rn6, rn7, rn8, if_true, if_false, Nat.le_refl, true_and, and_true, decide_true, decide_false, Bool.not_true, Bool.not_false, reduceIte, Nat.reduceEqDiff, Nat.reduceAdd, Nat.reduceMul, Nat.reduceSub, Nat.reduceLeDiff, Nat.reduceLT, p3, p7, p8, p9, p10, p11, p12, p13, rg.ld, Nat.zero_add, List.getElem?_cons_zero, List.getElem?_cons_succ, Cells.len hrwg, hi', Cells.idx hrwg hi, Cells.ld hrwg hi Nat.zero_lt_one, el]
    refine W_draw All ?_
    simp only [rn0, rn1, rn2, rn3, rn4, rn5, rn6, rn7, rn8, if_true, if_false, Nat.le_refl, true_and, and_true, decide_true, decide_false, Bool.not_true, Bool.not_false, reduceIte, Nat.reduceEqDiff, Nat.reduceAdd, Nat.reduceMul, Nat.reduceSub, Nat.reduceLeDiff, Nat.reduceLT, p3, p7, p8, p9, p10, p11, p12, p13, idxSl_p (o := bl) la, idxSl_p (o := bl) lb, lq a la, lq b lb]
    refine up_store (b := bl) (off := a) (vs := [.int .i64 (Y.q i b)]) rfl hgb (by omega) (by omega) rfl rfl rfl (by rw [rowI_len]; exact la) (fun _ _ => trivial) fun g15 hs15 => ?_
    rw [rowI_splice la] at hs15
    have n15 := hs15.next
    have f15 := hs15.floor
    simp only [rn0, rn1, rn2, rn3, rn4, rn5, rn6, rn7, rn8, if_true, if_false, Nat.le_refl, true_and, and_true, decide_true, decide_false, Bool.not_true, Bool.not_false, reduceIte, Nat.reduceEqDiff, Nat.reduceAdd, Nat.reduceMul, Nat.reduceSub, Nat.reduceLeDiff, Nat.reduceLT, idxSl_p (o := bl) lb]
    refine up_store (b := bl) (off := b) (vs := [.int .i64 (Y.q i a)]) rfl hs15.get (by omega) (by omega) rfl rfl rfl (by rw [rowI_len]; exact lb) (fun _ _ => trivial) fun g16 hs16 => ?_
    rw [rowI_splice lb] at hs16
    have n16 := hs16.next
    have f16 := hs16.floor
    have gb16 : g16.get bl = some (.row (rowI Y.nf fun k => Y.q i (tp a b k)) true 1) := by
      have := hs16.get
      rw [show (fun j => if j = b then Y.q i a else (fun j => if j = a then Y.q i b else Y.q i j) j) = fun k => Y.q i (tp a b k) from tp_set] at this
      exact this
    have s16 : Sub All g g16 := fun j cs w gr t hg => by
      rw [hs16.old j (by have := AHeap.lt_of_get hg; omega), hs15.old j (by have := AHeap.lt_of_get hg; omega)]; exact m14.sub _ _ _ _ t hg
    clear hs15 hs16 lq
    have rx16 : Row g16 (h.next + 1) [FX, xv, sv] := ⟨_, _, s16 _ _ _ _ trivial gx⟩
    simp only [rn0, rn1, rn2, rn3, rn4, rn5, rn6, rn7, rn8, if_true, if_false, Nat.le_refl, true_and, and_true, decide_true, decide_false, Bool.not_true, Bool.not_false, reduceIte, Nat.reduceEqDiff, Nat.reduceAdd, Nat.reduceMul, Nat.reduceSub, Nat.reduceLeDiff, Nat.reduceLT, p3, p7, p8, p9, p10, p11, p12, p13, rx16.ld, Nat.zero_add, List.getElem?_cons_zero, List.getElem?_cons_succ, sl_row (v := .slice (some ⟨bl, 0, none⟩) Y.nf unk) rfl]
    refine step_slice (by omega) rfl fun g17 hx17 => ?_
    have n17 := hx17.next
    have f17 := hx17.floor
    obtain ⟨xv', g18, e18, gd18, hk18, ho18, hvB, hv'⟩ := gd.push (h := g16) (h1 := g17) (b := bl) s16 (by omega) b1 (by omega) (by omega) (by omega) gb16 (by omega) hx17 (by omega)
    have n18 := hk18.next
    have f18 := hk18.floor
    have s17 : Sub All g g17 := s16.trans hx17.sub
    have gc17 := gc.sub s17
    have hzb : ∀ a k cap, zv = .slice (some a) k cap → g13.next ≤ a.block ∧ a.block < g.next := fun a k cap e => gc.block e
    have gc18 : GrowC g13.next g18 zv 1 i (fun k _ => rr (tp c d k)) := GrowC.at' gc17 fun a k cap e => hk18.old _ (by have := hzb _ _ _ e; omega) fun a' k' cap' e' heq => hne _ _ _ _ _ _ e' e heq.symm
    have gx18 : g18.get (h.next + 1) = some (.row [FX, xv, sv] true 0) := by
      rw [hk18.old _ (by omega) fun a' k' cap' e' => by have := hvB _ _ _ e'; omega]; exact s17 _ _ _ _ trivial gx
    have gz18 : g18.get (h.next + 2) = some (.row [fv, zv, nilS] true 0) := by
      rw [hk18.old _ (by omega) fun a' k' cap' e' => by have := hvB _ _ _ e'; omega]; exact s17 _ _ _ _ trivial gz
    simp only [rn0, rn1, rn2, rn3, rn4, rn5, rn6, rn7, rn8, if_true, if_false, Nat.le_refl, true_and, and_true, decide_true, decide_false, Bool.not_true, Bool.not_false, reduceIte, Nat.reduceEqDiff, Nat.reduceAdd, Nat.reduceMul, Nat.reduceSub, Nat.reduceLeDiff, Nat.reduceLT, p3, p7, p8, p9, p10, p11, p12, p13, e18]
    refine step_store (b := h.next + 1) (off := 1) (vs := [xv']) rfl gx18 (by omega) (by omega) (by rw [hv']; rfl) (by simp [allB, ho18]) rfl (by simp) fun g19 hs19 => ?_
    rw [show splice [FX, xv, sv] 1 [xv'] = [FX, xv', sv] from rfl] at hs19
    have n19 := hs19.next
    have f19 := hs19.floor
    have gd19 := gd18.keep hs19.keep (by omega)
    have gc19 := gc18.keep hs19.keep (by omega)
    have gx19 := hs19.get
    have gz19 : g19.get (h.next + 2) = some (.row [fv, zv, nilS] true 0) := by rw [hs19.old _ (by omega)]; exact gz18
    have old19 : ∀ j, j < g13.next → j ≠ h.next + 1 → g19.get j = g17.get j := fun j hj hjn => by
      rw [hs19.old j hjn, hk18.old j (by omega) fun a' k' cap' e' => by have := hvB _ _ _ e'; omega]
    have st19 : Sub (fun i => i ≠ h.next + 1 ∧ i ≠ h.next + 2) g13 g19 := fun j cs w gr hj hg => by
      rw [old19 j (AHeap.lt_of_get hg) hj.1]; exact s17 _ _ _ _ trivial (st _ _ _ _ hj hg)
    have h119 : Sub All g1 g19 := fun j cs w gr t hg => st19 j cs w gr ⟨by have := AHeap.lt_of_get hg; omega, by have := AHeap.lt_of_get hg; omega⟩ (s113 _ _ _ _ t hg)
    have r19 := r1.mono h119
    have hrw19 := Cells.mono hrw h119
    have rz19 : Row g19 (h.next + 2) [fv, zv, nilS] := ⟨_, _, gz19⟩
    have ltd : tp c d i < Y.nv := tp_lt lc ld hi
    have esw := swapN_c (n := n) (h := g19) (by omega) i c d
    simp only [rn0, rn1, rn2, rn3, rn4, rn5, rn6, rn7, rn8, if_true, if_false, Nat.le_refl, true_and, and_true, decide_true, decide_false, Bool.not_true, Bool.not_false, reduceIte, Nat.reduceEqDiff, Nat.reduceAdd, Nat.reduceMul, Nat.reduceSub, Nat.reduceLeDiff, Nat.reduceLT, p3, p7, p8, p9, p10, p11, p12, p13]
    refine W_draw All ?_
    simp only [rn0, rn1, rn2, rn3, rn4, rn5, rn6, rn7, rn8, if_true, if_false, Nat.le_refl, true_and, and_true, decide_true, decide_false, Bool.not_true, Bool.not_false, reduceIte, Nat.reduceEqDiff, Nat.reduceAdd, Nat.reduceMul, Nat.reduceSub, Nat.reduceLeDiff, Nat.reduceLT, p3, p7, p8, p9, p10, p11, p12, p13, r19.ld, rz19.ld, Nat.zero_add, List.getElem?_cons_zero, List.getElem?_cons_succ, Cells.self hrw19, gc19.cells.self, esw, Cells.idx hrw19 ltd, Cells.ld hrw19 ltd Nat.zero_lt_one, sl_row (hqo _ ltd)]
    refine up_slice (by omega) (by simp [allB, hqo _ ltd]) (fun g20 hx => hx.sub) fun g20 hx20 => ?_
    have n20 := hx20.next
    have f20 := hx20.floor
    obtain ⟨zv', g21, e21, ev21, gc21, hk21⟩ := (gc19.sub hx20.sub).append (bytes := 24) (cap := 1) (by omega) (by omega) (by omega) hx20.get rfl (by simp [allB, hqo _ ltd]) (fun j hj => one_get j hj) (by simp [maxBytes]; omega) (by simp [maxBytes]; omega)
    have n21 := hk21.next
    have f21 := hk21.floor
    have gd21 := (gd19.sub hx20.sub (by omega)).kept hnf (gc19.sub hx20.sub) (fun k hk => hqs _ (tp_lt lc ld (by omega))) hk21 fun a k cap a' k' cap' e e' => by
      rw [hv'] at e
      cases e
      have := hzb _ _ _ e'
      show g17.next ≠ a'.block
      omega
    have gz21 : g21.get (h.next + 2) = some (.row [fv, zv, nilS] true 0) := by
      rw [hk21.old _ (by omega) fun a' k' cap' e' => by have := hzb _ _ _ e'; omega, hx20.old _ (by omega)]; exact gz19
    have gx21 : g21.get (h.next + 1) = some (.row [FX, xv', sv] true 0) := by
      rw [hk21.old _ (by omega) fun a' k' cap' e' => by have := hzb _ _ _ e'; omega, hx20.old _ (by omega)]; exact gx19
    simp only [rn0, rn1, rn2, rn3, rn4, rn5, rn6, rn7, rn8, if_true, if_false, Nat.le_refl, true_and, and_true, decide_true, decide_false, Bool.not_true, Bool.not_false, reduceIte, Nat.reduceEqDiff, Nat.reduceAdd, Nat.reduceMul, Nat.reduceSub, Nat.reduceLeDiff, Nat.reduceLT, p3, p7, p8, p9, p10, p11, p12, p13, e21, Nat.zero_add]
    refine ⟨by omega, up_store (b := h.next + 2) (off := 1) (vs := [zv']) rfl gz21 (by omega) (by omega) (by rw [ev21]; rfl) (by simp [allB, gc21.one]) rfl (by simp) (fun _ _ => trivial) fun g22 hs22 => ?_⟩
    rw [show splice [fv, zv, nilS] 1 [zv'] = [fv, zv', nilS] from rfl] at hs22
    have n22 := hs22.next
    have f22 := hs22.floor
    have st22 : Sub (fun i => i ≠ h.next + 1 ∧ i ≠ h.next + 2) g13 g22 := fun j cs w gr hj hg => by
      have := AHeap.lt_of_get hg
      rw [hs22.old j hj.2, hk21.old _ (by omega) fun a' k' cap' e' => by have := hzb _ _ _ e'; omega, hx20.old _ (by omega)]; exact st19 _ _ _ _ hj hg
    simp only [rn0, rn1, rn2, rn3, rn4, rn5, rn6, rn7, rn8, if_true, if_false, Nat.le_refl, true_and, and_true, decide_true, decide_false, Bool.not_true, Bool.not_false, reduceIte, Nat.reduceEqDiff, Nat.reduceAdd, Nat.reduceMul, Nat.reduceSub, Nat.reduceLeDiff, Nat.reduceLT, p3, p7, p8, p9, p10, p11, p12, p13, hwi]
    refine ⟨xv', zv', st22, by omega, by omega, by rw [hs22.old _ (by omega)]; exact gx21, hs22.get, gd21.keep hs22.keep (by omega), gc21.keep hs22.keep (by omega), fun a k cap a' k' cap' e e' => ?_, by omega⟩
    rw [hv'] at e
    rw [ev21] at e'
    cases e
    cases e'
    show g17.next ≠ g20.next
    omega
  rintro f g ms ⟨⟨xv, zv, st, hfg, hup, gx, gz, gd, gc, hne, hgn⟩, rfl, p3, p7, p8, p9, p10, p11, p12, p13⟩
  have hallB : Sub All g1 g := fun j cs w gr t hg => st j cs w gr ⟨by have := AHeap.lt_of_get hg; omega, by have := AHeap.lt_of_get hg; omega⟩ (s113 _ _ _ _ t hg)
  have rB := r1.mono hallB
  have hyB := hy1.mono hallB
  have hrwB := Cells.mono hrw hallB
  have gFB : g.get (h.next + 4) = some (.row (flatL 2 Y.nf fun k j => .int .i64 (if j = 0 then Y.lo (tp a b k) else Y.hi (tp a b k))) true 2) := st _ _ _ _ ⟨by omega, by omega⟩ gF13
  simp only [rn0, rn1, rn2, rn3, rn4, rn5, rn6, rn7, rn8, if_true, if_false, Nat.le_refl, true_and, and_true, decide_true, decide_false, Bool.not_true, Bool.not_false, reduceIte, Nat.reduceEqDiff, Nat.reduceAdd, Nat.reduceMul, Nat.reduceSub, Nat.reduceLeDiff, Nat.reduceLT, p3, p7, p8, p9, p10, p11, p12, p13, rB.ld, Nat.zero_add, List.getElem?_cons_zero, List.getElem?_cons_succ, Cells.len hrwB, Int.lt_irrefl]
  obtain ⟨gB, hgB⟩ : ∃ x, x = g := ⟨_, rfl⟩
  rw [← hgB] at st hfg hup gx gz gd gc hgn hallB rB hyB hrwB gFB ⊢
  clear hgB
  have hall : ∀ {g : AHeap}, Keep (h.next + 2) gB g → Sub All g1 g := fun st i cs w gr t hg => st.sub i cs w gr (by have := AHeap.lt_of_get hg; omega) (hallB _ _ _ _ t hg)
  refine W_loop Y.ns (fun i f g ms => (∃ S, Keep (h.next + 2) gB g ∧ g.get (h.next + 2) = some (.row [fv, zv, S] true 0) ∧ GrowC gB.next g S 3 i (fun k j => .int .i64 (if j = 0 then ((tp c d (Y.sv k).toNat : Nat) : Int) else if j = 1 then Y.slo k else Y.shi k)) ∧ g.next ≤ gB.next + 2 * i) ∧ ms = [] ∧ f 3 = .pointer (some ⟨h.next, 0, none⟩) ∧ f 9 = .int .i64 (c : Int) ∧ f 10 = .int .i64 (d : Int) ∧ f 11 = .pointer (some ⟨h.next + 1, 0, none⟩) ∧ f 12 = .pointer (some ⟨h.next + 2, 0, none⟩) ∧ f 15 = .int .i64 (i : Int)) (by simp; omega) ?_ ?_ ?_
  · simp only [rn0, rn1, rn2, rn3, rn4, rn5, rn6, rn7, rn8, if_true, if_false, Nat.le_refl, true_and, and_true, decide_true, decide_false, Bool.not_true, Bool.not_false, reduceIte, Nat.reduceEqDiff, Nat.reduceAdd, Nat.reduceMul, Nat.reduceSub, Nat.reduceLeDiff, Nat.reduceLT, p3, p9, p10, p11, p12]
    exact ⟨⟨nilS, Keep.refl, gz, .nil, by omega⟩, rfl⟩
  · rintro i f g ms hi ⟨⟨S, sk, go, gS, hgn'⟩, rfl, p3, p9, p10, p11, p12, p15⟩
    have hi' : (i : Int) < (Y.ns : Int) := by omega
    have hwi : wrapF .i64 ((i : Int) + 1) = ((i + 1 : Nat) : Int) := by rw [wrap_in (by omega) (by omega)]; rfl
    have hup' := sk.up
    have hfg' := sk.floor
    have hyg := hy1.mono (hall sk)
    have rg := r1.mono (hall sk)
    have rz : Row g (h.next + 2) [fv, zv, S] := ⟨_, _, go⟩
    obtain ⟨⟨sv1, sv2⟩, _⟩ := hG.s i hi
    have hsn : Y.sv i = (((Y.sv i).toNat : Nat) : Int) := by omega
    have q0 : loadCell g (ptrO sv 3 i 0) = some (.int .i64 (((Y.sv i).toNat : Nat) : Int)) := by rw [← hsn]; exact Cells.ld hyg.s hi (by omega)
    have q12 : loadAgg 2 g (ptrO sv 3 i 1) = some (.agg ⟨[.int .i64 (Y.slo i), .int .i64 (Y.shi i)]⟩) := by rw [Cells.ldN hyg.s hi (by omega) (by omega)]; simp [List.range_succ]
    have esw := swapN_c (n := n) (h := g) (by omega) (Y.sv i).toNat c d
    simp only [rn0, rn1, rn2, rn3, rn4, rn5, rn6, rn7, rn8, if_true, if_false, Nat.le_refl, true_and, and_true, decide_true, decide_false, Bool.not_true, Bool.not_false, reduceIte, Nat.reduceEqDiff, Nat.reduceAdd, Nat.reduceMul, Nat.reduceSub, Nat.reduceLeDiff, Nat.reduceLT, p3, p9, p10, p11, p12, p15, rg.ld, Nat.zero_add, List.getElem?_cons_zero, List.getElem?_cons_succ, Cells.len hyg.s, hi']
    refine W_draw All ?_
    simp only [rn0, rn1, rn2, rn3, rn4, rn5, rn6, rn7, rn8, if_true, if_false, Nat.le_refl, true_and, and_true, decide_true, decide_false, Bool.not_true, Bool.not_false, reduceIte, Nat.reduceEqDiff, Nat.reduceAdd, Nat.reduceMul, Nat.reduceSub, Nat.reduceLeDiff, Nat.reduceLT, p3, p9, p10, p11, p12, p15, rg.ld, rz.ld, Nat.zero_add, List.getElem?_cons_zero, List.getElem?_cons_succ, gS.cells.self, Cells.self hyg.s, Cells.idx hyg.s hi, Cells.fld hyg.s hi, q0, q12, esw, self_range, build_samp, sl_samp]
    refine up_slice (by omega) rfl (fun g6 hx => hx.sub) fun g6 hx => ?_
    have hgx := hx.next
    have hgf := hx.floor
    obtain ⟨S', g7, e, e', gS', hk7⟩ := (gS.sub hx.sub).append (bytes := 24) (cap := 1) (by omega) (by omega) (by omega) hx.get rfl rfl (fun j hj => by
      obtain rfl | rfl | rfl : j = 0 ∨ j = 1 ∨ j = 2 := by omega
      all_goals rfl) (by simp [maxBytes]; omega) (by simp [maxBytes]; omega)
    obtain ⟨st2, go2⟩ := grew (sk.trans hx.keep) hk7 (fun a k c e => (gS.block e).1) (by omega) (hx.sub _ _ _ _ trivial go)
    have hgx2 := hk7.next
    have hgf2 := hk7.floor
    simp only [rn0, rn1, rn2, rn3, rn4, rn5, rn6, rn7, rn8, if_true, if_false, Nat.le_refl, true_and, and_true, decide_true, decide_false, Bool.not_true, Bool.not_false, reduceIte, Nat.reduceEqDiff, Nat.reduceAdd, Nat.reduceMul, Nat.reduceSub, Nat.reduceLeDiff, Nat.reduceLT, p3, p9, p10, p11, p12, p15, e, Nat.add_zero, Nat.zero_add]
    refine ⟨by omega, up_store (b := h.next + 2) (off := 2) (vs := [S']) rfl go2 (by omega) (by omega) (by rw [e']; rfl) (by simp [allB, gS'.one]) rfl (by simp) (fun _ _ => trivial) fun g8 hs => ?_⟩
    have hgx3 := hs.next
    simp only [rn0, rn1, rn2, rn3, rn4, rn5, rn6, rn7, rn8, if_true, if_false, Nat.le_refl, true_and, and_true, decide_true, decide_false, Bool.not_true, Bool.not_false, reduceIte, Nat.reduceEqDiff, Nat.reduceAdd, Nat.reduceMul, Nat.reduceSub, Nat.reduceLeDiff, Nat.reduceLT, p3, p9, p10, p11, p12, p15, hwi]
    exact ⟨_, set_keep st2 hs, hs.get, gS'.keep hs.keep (by omega), by omega⟩
  rintro f g ms ⟨⟨S, sk, go, gS, hgn'⟩, rfl, p3, p9, p10, p11, p12, p15⟩
  have hup' := sk.up
  have hfg' := sk.floor
  have hyg := hy1.mono (hall sk)
  have rg := r1.mono (hall sk)
  have rx : Row g (h.next + 1) [FX, xv, sv] := ⟨_, _, sk.sub _ _ _ _ (by omega) gx⟩
  have rz : Row g (h.next + 2) [fv, zv, S] := ⟨_, _, go⟩
  have hX : YardR g FX xv sv (turnF Y a b) := by
    refine ⟨?_, ?_, hyg.s⟩
    · rw [hFX]
      exact cells_row ⟨_, _, sk.sub _ _ _ _ (by omega) gFB⟩ fun k j hk hj => flatL_get (c := fun k j => .int .i64 (if j = 0 then Y.lo (tp a b k) else Y.hi (tp a b k))) hk hj
    · exact (gd.keep sk (by omega)).rows
  have hZ : YardR g fv zv S (turnV Y c d) := by
    refine ⟨hyg.f, ⟨fun k => rr (tp c d k), (gc.keep sk (by omega)).cells, fun k hk => ?_⟩, gS.cells⟩
    exact (hq _ (tp_lt lc ld hk)).mono (hall sk)
  have hfx := turnF_fault hf la lb
  have hfz := turnV_fault hf lc ld
  have hTX : Thin (turnF Y a b) := ⟨hT.1, hT.2.1, hT.2.2.1, fun _ _ => hT.1⟩
  have hTZ : Thin (turnV Y c d) := ⟨hT.1, hT.2.1, hT.2.2.1, fun v hv => hT.2.2.2 _ (tp_lt lc ld hv)⟩
  obtain ⟨F0, V0, S0, g2, ey0, hy0, u0⟩ := yard_c (n := n) (h := g) (by omega) (by omega) (by omega) hyg hT
  have n2 := u0.next
  have u2 := u0.up
  have f2 := u0.floor
  obtain ⟨b0v, g3, eb0, k0, hb0⟩ := boundsV_c (n := n) (h := g2) (by omega) (by omega) (by omega) hy0 hT
  have n3 := k0.next
  have u3 := k0.up
  have f3 := k0.floor
  have s03 : Sub All g g3 := u0.sub.trans k0.sub
  obtain ⟨FA, VA, SA, g4, ey1, hyA, ua⟩ := yard_c (n := n) (h := g3) (by omega) (by omega) (by omega) (hX.mono s03) hTX
  have n4 := ua.next
  have u4 := ua.up
  have f4 := ua.floor
  obtain ⟨b1v, g5, eb1, k1, hb1⟩ := boundsV_c (n := n) (h := g4) (by omega) (by omega) (by omega) hyA hTX
  have n5 := k1.next
  have u5 := k1.up
  have f5 := k1.floor
  have s05 : Sub All g g5 := s03.trans (ua.sub.trans k1.sub)
  obtain ⟨FB, VB, SB, g6, ey2, hyB2, ub⟩ := yard_c (n := n) (h := g5) (by omega) (by omega) (by omega) (hZ.mono s05) hTZ
  have n6 := ub.next
  have u6 := ub.up
  have f6 := ub.floor
  obtain ⟨b2v, g7, eb2, k2, hb2⟩ := boundsV_c (n := n) (h := g6) (by omega) (by omega) (by omega) hyB2 hTZ
  have n7 := k2.next
  have u7 := k2.up
  have f7 := k2.floor
  have s07 : Sub All g g7 := s05.trans (ub.sub.trans k2.sub)
  have w0 := rg.whole (n := 3) rfl
  have wx3 := (rx.mono s03).whole (n := 3) rfl
  have wz5 := (rz.mono s05).whole (n := 3) rfl
  have r7 := rg.mono s07
  have hrw7 := Cells.mono (Cells.mono hrw (hall sk)) s07
  have haw : ∀ g, call n (.func (.func 24) #[] #[]) [] g = some (.bool true, g) := fun g => awake_c (n := n) (h := g) (by omega)
  by_cases he : truths Y = []
  · have heX := (turnF_nil la lb).2 he
    have heZ := (turnV_nil (a := c) (b := d)).2 he
    rcases hb0 with ⟨h0, _⟩ | ⟨_, _, rfl⟩ | ⟨_, h0, _⟩
    · exact absurd hf h0
    rotate_left
    · exact absurd he h0
    rcases hb1 with ⟨h0, _⟩ | ⟨_, _, rfl⟩ | ⟨_, h0, _⟩
    · exact absurd hfx h0
    rotate_left
    · exact absurd heX h0
    rcases hb2 with ⟨h0, _⟩ | ⟨_, _, rfl⟩ | ⟨_, h0, _⟩
    · exact absurd hfz h0
    rotate_left
    · exact absurd heZ h0
    simp only [rn0, rn1, rn2, rn3, rn4, rn5, rn6, rn7, rn8, if_true, if_false, Nat.le_refl, true_and, and_true, decide_true, decide_false, Bool.not_true, Bool.not_false, reduceIte, Nat.reduceEqDiff, Nat.reduceAdd, Nat.reduceMul, Nat.reduceSub, Nat.reduceLeDiff, Nat.reduceLT, p3, p9, p10, p11, p12, p15, rg.ld, Nat.zero_add, List.getElem?_cons_zero, List.getElem?_cons_succ, Cells.len hyg.s, Int.lt_irrefl, w0, ey0, eb0, ex0, ex1, wx3, ey1, eb1, wz5, ey2, eb2, Int.reduceEq, haw]
  · have heX := mt (turnF_nil la lb).1 he
    have heZ := mt (turnV_nil (a := c) (b := d)).1 he
    rcases hb0 with ⟨h0, _⟩ | ⟨_, h0, _⟩ | ⟨_, _, l0, rfl, hl0⟩
    · exact absurd hf h0
    · exact absurd h0 he
    rcases hb1 with ⟨h0, _⟩ | ⟨_, h0, _⟩ | ⟨_, _, l1, rfl, hl1⟩
    · exact absurd hfx h0
    · exact absurd h0 heX
    rcases hb2 with ⟨h0, _⟩ | ⟨_, h0, _⟩ | ⟨_, _, l2, rfl, hl2⟩
    · exact absurd hfz h0
    · exact absurd h0 heZ
    have q0 : Ranges g7 l0 Y.nv _ _ := Cells.mono (Cells.mono hl0 (ua.sub.trans k1.sub)) (ub.sub.trans k2.sub)
    have q1 : Ranges g7 l1 Y.nv _ _ := Cells.mono hl1 (ub.sub.trans k2.sub)
    have q2 : Ranges g7 l2 Y.nv _ _ := hl2
    simp only [rn0, rn1, rn2, rn3, rn4, rn5, rn6, rn7, rn8, if_true, if_false, Nat.le_refl, true_and, and_true, decide_true, decide_false, Bool.not_true, Bool.not_false, reduceIte, Nat.reduceEqDiff, Nat.reduceAdd, Nat.reduceMul, Nat.reduceSub, Nat.reduceLeDiff, Nat.reduceLT, p3, p9, p10, p11, p12, p15, rg.ld, r7.ld, Nat.zero_add, List.getElem?_cons_zero, List.getElem?_cons_succ, Cells.len hyg.s, Int.lt_irrefl, w0, ey0, eb0, ex0, ex1, wx3, ey1, eb1, wz5, ey2, eb2, Int.reduceEq, Cells.len q0, Cells.len q1, Cells.len q2, Cells.len hrw7]
    refine W_loop Y.nv (fun i f g ms => g = g7 ∧ ms = [] ∧ f 9 = .int .i64 (c : Int) ∧ f 10 = .int .i64 (d : Int) ∧ f 16 = l0 ∧ f 18 = l1 ∧ f 20 = l2 ∧ f 22 = .int .i64 (i : Int)) (by simp; omega) ?_ ?_ ?_
    · simp only [rn0, rn1, rn2, rn3, rn4, rn5, rn6, rn7, rn8, if_true, if_false, Nat.le_refl, true_and, and_true, decide_true, decide_false, Bool.not_true, Bool.not_false, reduceIte, Nat.reduceEqDiff, Nat.reduceAdd, Nat.reduceMul, Nat.reduceSub, Nat.reduceLeDiff, Nat.reduceLT, p3, p9, p10, p11, p12, p15]
      try trivial
    · rintro i f g ms hi ⟨rfl, rfl, p9, p10, p16, p18, p20, p22⟩
      have hi' : (i : Int) < (Y.nv : Int) := by omega
      have hwi : wrapF .i64 ((i : Int) + 1) = ((i + 1 : Nat) : Int) := by rw [wrap_in (by omega) (by omega)]; rfl
      have ltd : tp c d i < Y.nv := tp_lt lc ld hi
      obtain ⟨L, hL⟩ : ∃ x, x = loN (fun t => blueN t (Y.q i) Y.nf) (truths Y) := ⟨_, rfl⟩
      obtain ⟨H, hH⟩ : ∃ x, x = hiN (fun t => blueN t (Y.q i) Y.nf) (truths Y) := ⟨_, rfl⟩
      have a0 : loadAgg 2 g (ptrO l0 2 i 0) = some (.agg ⟨[.int .i64 L, .int .i64 H]⟩) := by rw [hL, hH]; exact ranges_ld q0 hi
      have a1 : loadAgg 2 g (ptrO l1 2 i 0) = some (.agg ⟨[.int .i64 L, .int .i64 H]⟩) := by rw [hL, hH, ← (turnF_ends la lb he i).1, ← (turnF_ends la lb he i).2]; exact ranges_ld q1 hi
      have a2 : loadAgg 2 g (ptrO l2 2 (tp c d i) 0) = some (.agg ⟨[.int .i64 L, .int .i64 H]⟩) := by rw [hL, hH, ← (turnV_ends (a := c) (b := d) he i).1, ← (turnV_ends (a := c) (b := d) he i).2]; exact ranges_ld q2 ltd
      have esw := swapN_c (n := n) (h := g) (by omega) i c d
      have he1 := fun (f : Fr) (e1 : f 237 = .agg ⟨[.int .i64 L, .int .i64 H]⟩) (e2 : f 241 = .agg ⟨[.int .i64 L, .int .i64 H]⟩) => neq49 (h := g) (N := 258) (f := f) (x := T 237) (y := T 241) (ty := 4) (u := 49) (by rw [valN_tmp (by omega)]; exact e1) (by rw [valN_tmp (by omega)]; exact e2)
      have he2 := fun (f : Fr) (e1 : f 247 = .agg ⟨[.int .i64 L, .int .i64 H]⟩) (e2 : f 254 = .agg ⟨[.int .i64 L, .int .i64 H]⟩) => neq49 (h := g) (N := 258) (f := f) (x := T 247) (y := T 254) (ty := 4) (u := 49) (by rw [valN_tmp (by omega)]; exact e1) (by rw [valN_tmp (by omega)]; exact e2)
      simp only [rn0, rn1, rn2, rn3, rn4, rn5, rn6, rn7, rn8, if_true, if_false, Nat.le_refl, true_and, and_true, decide_true, decide_false, Bool.not_true, Bool.not_false, reduceIte, Nat.reduceEqDiff, Nat.reduceAdd, Nat.reduceMul, Nat.reduceSub, Nat.reduceLeDiff, Nat.reduceLT, p9, p10, p16, p18, p20, p22, Cells.len q0, hi']
      refine W_draw All ?_
      simp only [rn0, rn1, rn2, rn3, rn4, rn5, rn6, rn7, rn8, if_true, if_false, Nat.le_refl, true_and, and_true, decide_true, decide_false, Bool.not_true, Bool.not_false, reduceIte, Nat.reduceEqDiff, Nat.reduceAdd, Nat.reduceMul, Nat.reduceSub, Nat.reduceLeDiff, Nat.reduceLT, p9, p10, p16, p18, p20, p22, Cells.idx q0 hi, Cells.idx q1 hi, a0, a1, x_binA, binA_neqAgg]
      rw [he1 _ (by simp only [rn0, rn1, rn2, rn3, rn4, rn5, rn6, rn7, rn8, if_true, if_false, Nat.le_refl, true_and, and_true, decide_true, decide_false, Bool.not_true, Bool.not_false, reduceIte, Nat.reduceEqDiff, Nat.reduceAdd, Nat.reduceMul, Nat.reduceSub, Nat.reduceLeDiff, Nat.reduceLT, p9, p10, p16, p18, p20, p22]) (by simp only [rn0, rn1, rn2, rn3, rn4, rn5, rn6, rn7, rn8, if_true, if_false, Nat.le_refl, true_and, and_true, decide_true, decide_false, Bool.not_true, Bool.not_false, reduceIte, Nat.reduceEqDiff, Nat.reduceAdd, Nat.reduceMul, Nat.reduceSub, Nat.reduceLeDiff, Nat.reduceLT, p9, p10, p16, p18, p20, p22])]
      simp only [rn0, rn1, rn2, rn3, rn4, rn5, rn6, rn7, rn8, if_true, if_false, Nat.le_refl, true_and, and_true, decide_true, decide_false, Bool.not_true, Bool.not_false, reduceIte, Nat.reduceEqDiff, Nat.reduceAdd, Nat.reduceMul, Nat.reduceSub, Nat.reduceLeDiff, Nat.reduceLT, p9, p10, p16, p18, p20, p22, d_guard, dg_ff, Cells.idx q0 hi, Cells.idx q2 ltd, a0, a2, self_range, esw, x_binA, binA_neqAgg]
      rw [he2 _ (by simp only [rn0, rn1, rn2, rn3, rn4, rn5, rn6, rn7, rn8, if_true, if_false, Nat.le_refl, true_and, and_true, decide_true, decide_false, Bool.not_true, Bool.not_false, reduceIte, Nat.reduceEqDiff, Nat.reduceAdd, Nat.reduceMul, Nat.reduceSub, Nat.reduceLeDiff, Nat.reduceLT, p9, p10, p16, p18, p20, p22]) (by simp only [rn0, rn1, rn2, rn3, rn4, rn5, rn6, rn7, rn8, if_true, if_false, Nat.le_refl, true_and, and_true, decide_true, decide_false, Bool.not_true, Bool.not_false, reduceIte, Nat.reduceEqDiff, Nat.reduceAdd, Nat.reduceMul, Nat.reduceSub, Nat.reduceLeDiff, Nat.reduceLT, p9, p10, p16, p18, p20, p22])]
      simp only [rn0, rn1, rn2, rn3, rn4, rn5, rn6, rn7, rn8, if_true, if_false, Nat.le_refl, true_and, and_true, decide_true, decide_false, Bool.not_true, Bool.not_false, reduceIte, Nat.reduceEqDiff, Nat.reduceAdd, Nat.reduceMul, Nat.reduceSub, Nat.reduceLeDiff, Nat.reduceLT, p9, p10, p16, p18, p20, p22, hwi]
    · rintro f g ms ⟨rfl, rfl, p9, p10, p16, p18, p20, p22⟩
      simp only [rn0, rn1, rn2, rn3, rn4, rn5, rn6, rn7, rn8, if_true, if_false, Nat.le_refl, true_and, and_true, decide_true, decide_false, Bool.not_true, Bool.not_false, reduceIte, Nat.reduceEqDiff, Nat.reduceAdd, Nat.reduceMul, Nat.reduceSub, Nat.reduceLeDiff, Nat.reduceLT, p9, p10, p16, p18, p20, p22, Cells.len q0, Int.lt_irrefl, haw]
end Go.Vm.Vat

namespace Go.Vm.Vat
open Go.Proofs
set_option linter.unusedSimpArgs false
set_option linter.unusedVariables false
set_option maxRecDepth 10000
variable {n : Nat} {h : AHeap}
theorem turned_c (hn : 10200 ≤ n) (hr : h.next + 9000000 < far) (hfl : h.floor ≤ h.next) {fv vv sv : Value} {Y : MY} (hy : YardR h fv vv sv Y) (a1 : Int) (wf1 : (Lit.int .u8 a1).wf = true) (a2 : Int) (wf2 : (Lit.int .u8 a2).wf = true) :
    ∃ v h', call n (.func (.func 17) #[] #[]) [.agg ⟨[fv, vv, sv]⟩, .int .u8 a1, .int .u8 a2] h = some (v, h') ∧ v = .bool true := by
  obtain ⟨k1, rfl, h1⟩ := wf8 wf1
  obtain ⟨k2, rfl, h2⟩ := wf8 wf2
  by_cases hg : (Thin Y ∧ faultN Y = 0) ∧ 0 < Y.nf ∧ 0 < Y.nv
  · obtain ⟨⟨g1, g2⟩, g3, g4⟩ := hg
    exact turned_m (by omega) hr hfl hy g1 g2 g3 g4 h1 h2
  obtain ⟨n, rfl⟩ : ∃ p, n = p + 1 := ⟨n - 1, by omega⟩
  refine call_any0 fok17 rfl rfl (by simp) ?_
  simp only [s17, W_seq, W_ops]
  refine ops_box (cs := [fv, vv, sv]) (by omega) rfl hy.one fun g1 hx1 => ?_
  have n1 := hx1.next
  have hy1 := hy.mono hx1.sub
  have x1 := hx1.row.whole (n := 3) rfl
  have r1 := hx1.row
  have hrd := ready_c (n := n) (h := g1) (by omega) (by omega) hy1
  have haw := awake_c (n := n) (h := g1) (by omega)
  by_cases c1 : Thin Y ∧ faultN Y = 0
  case neg =>
    rw [decide_eq_false c1] at hrd
    simp only [rn0, rn1, rn2, rn3, rn4, rn5, rn6, rn7, rn8, if_true, if_false, Nat.le_refl, true_and, and_true, decide_true, decide_false, Bool.not_true, Bool.not_false, reduceIte, Nat.reduceEqDiff, Nat.reduceAdd, Nat.reduceMul, Nat.reduceSub, Nat.reduceLeDiff, Nat.reduceLT, x1, hrd, haw]
  rw [decide_eq_true c1] at hrd
  obtain ⟨rr, hrw, hq⟩ := hy1.v
  by_cases c2 : (Y.nf : Int) = 0
  · simp only [rn0, rn1, rn2, rn3, rn4, rn5, rn6, rn7, rn8, if_true, if_false, Nat.le_refl, true_and, and_true, decide_true, decide_false, Bool.not_true, Bool.not_false, reduceIte, Nat.reduceEqDiff, Nat.reduceAdd, Nat.reduceMul, Nat.reduceSub, Nat.reduceLeDiff, Nat.reduceLT, x1, hrd, r1.ld, Nat.zero_add, List.getElem?_cons_zero, List.getElem?_cons_succ, Cells.len hy1.f, Cells.len hrw, c2, haw]
  have c3 : (Y.nv : Int) = 0 := by
    apply Classical.byContradiction
    intro hn
    exact hg ⟨c1, by omega, by omega⟩
  simp only [rn0, rn1, rn2, rn3, rn4, rn5, rn6, rn7, rn8, if_true, if_false, Nat.le_refl, true_and, and_true, decide_true, decide_false, Bool.not_true, Bool.not_false, reduceIte, Nat.reduceEqDiff, Nat.reduceAdd, Nat.reduceMul, Nat.reduceSub, Nat.reduceLeDiff, Nat.reduceLT, x1, hrd, r1.ld, Nat.zero_add, List.getElem?_cons_zero, List.getElem?_cons_succ, Cells.len hy1.f, Cells.len hrw, c2, c3, haw]
end Go.Vm.Vat
