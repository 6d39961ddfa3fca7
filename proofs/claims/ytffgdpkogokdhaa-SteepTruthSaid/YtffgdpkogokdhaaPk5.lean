/- Texts of the proofs of this seat, put together: StFault, StV1, StV2, StV3, StV4. -/
import Derived.Test.YtffgdpkogokdhaaPk4

namespace Go.Vm.St
open Go.Proofs Go.Vm.Vat
set_option linter.unusedSimpArgs false
set_option linter.unusedVariables false
set_option maxRecDepth 10000
variable {n : Nat} {h : AHeap}
def s82 : SCode := (.seq (.ops [⟨(some 1), none, .box (T 0)⟩, ⟨(some 2), none, .mov (.const (.int .i64 (0)))⟩]) (.seq (.seq (.ops [⟨(some 8), none, .fieldAddr 0 (T 1)⟩, ⟨(some 9), none, .load1 (T 8)⟩, ⟨(some 10), none, .int2 .gtr (T 9) (.const (.int .i64 (5)))⟩, ⟨(some 11), none, .mov (T 10)⟩, ⟨(some 12), (some (11, false)), .fieldAddr 5 (T 1)⟩, ⟨(some 13), (some (11, false)), .load1 (T 12)⟩, ⟨(some 14), (some (11, false)), .len (T 13)⟩, ⟨(some 15), (some (11, false)), .int2 .gtr (T 14) (.const (.int .i64 (4)))⟩, ⟨(some 16), none, .pick (T 11) (.const (.bool true)) (T 15)⟩, ⟨(some 17), none, .mov (T 16)⟩, ⟨(some 18), (some (17, false)), .fieldAddr 6 (T 1)⟩, ⟨(some 19), (some (17, false)), .load1 (T 18)⟩, ⟨(some 20), (some (17, false)), .len (T 19)⟩, ⟨(some 21), (some (17, false)), .int2 .gtr (T 20) (.const (.int .i64 (5)))⟩, ⟨(some 22), none, .pick (T 17) (.const (.bool true)) (T 21)⟩]) (.cond (T 22) (.seq (.ops [⟨(some 2), none, .mov (.const (.int .i64 (3)))⟩]) .ret) .skip)) (.seq (.seq (.ops [⟨(some 23), none, .fieldAddr 0 (T 1)⟩, ⟨(some 24), none, .load1 (T 23)⟩, ⟨(some 25), none, .int2 .lss (T 24) (.const (.int .i64 (0)))⟩, ⟨(some 26), none, .mov (T 25)⟩, ⟨(some 27), (some (26, false)), .fieldAddr 1 (T 1)⟩, ⟨(some 28), (some (26, false)), .load1 (T 27)⟩, ⟨(some 29), (some (26, false)), .call (.func 42) [(T 28), (.const (.int .i64 (1))), (.const (.int .i64 (9)))]⟩, ⟨(some 30), (some (26, false)), .not (T 29)⟩, ⟨(some 31), none, .pick (T 26) (.const (.bool true)) (T 30)⟩, ⟨(some 32), none, .mov (T 31)⟩, ⟨(some 33), (some (32, false)), .fieldAddr 2 (T 1)⟩, ⟨(some 34), (some (32, false)), .load1 (T 33)⟩, ⟨(some 35), (some (32, false)), .len (T 34)⟩, ⟨(some 36), (some (32, false)), .fieldAddr 0 (T 1)⟩, ⟨(some 37), (some (32, false)), .load1 (T 36)⟩, ⟨(some 38), (some (32, false)), .int2 .add (T 37) (.const (.int .i64 (1)))⟩, ⟨(some 39), (some (32, false)), .int2 .neq (T 35) (T 38)⟩, ⟨(some 40), none, .pick (T 32) (.const (.bool true)) (T 39)⟩, ⟨(some 41), none, .mov (T 40)⟩, ⟨(some 42), (some (41, false)), .fieldAddr 3 (T 1)⟩, ⟨(some 43), (some (41, false)), .loadN 2 (T 42)⟩, ⟨(some 44), (some (41, false)), .call (.func 111) [(T 43), (.const (.int .i64 (99)))]⟩, ⟨(some 45), (some (41, false)), .not (T 44)⟩, ⟨(some 46), none, .pick (T 41) (.const (.bool true)) (T 45)⟩]) (.cond (T 46) (.seq (.ops [⟨(some 2), none, .mov (.const (.int .i64 (1)))⟩]) .ret) .skip)) (.seq (.seq (.ops [⟨(some 3), none, .mov (.const (.int .i64 (0)))⟩]) (.block 0 (.loop (.seq (.seq (.ops [⟨(some 47), none, .mov (T 3)⟩, ⟨(some 48), none, .fieldAddr 2 (T 1)⟩, ⟨(some 49), none, .load1 (T 48)⟩, ⟨(some 50), none, .len (T 49)⟩, ⟨(some 51), none, .int2 .lss (T 47) (T 50)⟩]) (.cond (T 51) .skip (.exit 0))) (.seq (.block 1 (.seq (.ops [⟨(some 54), none, .fieldAddr 2 (T 1)⟩, ⟨(some 55), none, .load1 (T 54)⟩, ⟨(some 56), none, .mov (T 3)⟩, ⟨(some 57), none, .idxSl 2 (T 55) (T 56)⟩, ⟨(some 58), none, .loadN 2 (T 57)⟩, ⟨(some 59), none, .call (.func 111) [(T 58), (.const (.int .i64 (9)))]⟩, ⟨(some 60), none, .not (T 59)⟩]) (.cond (T 60) (.seq (.ops [⟨(some 2), none, .mov (.const (.int .i64 (1)))⟩]) .ret) .skip))) (.ops [⟨(some 52), none, .mov (T 3)⟩, ⟨(some 53), none, .int2 .add (T 52) (.const (.int .i64 (1)))⟩, ⟨(some 3), none, .mov (T 53)⟩])))))) (.seq (.seq (.ops [⟨(some 4), none, .mov (.const (.int .i64 (0)))⟩]) (.block 2 (.loop (.seq (.seq (.ops [⟨(some 61), none, .mov (T 4)⟩, ⟨(some 62), none, .fieldAddr 5 (T 1)⟩, ⟨(some 63), none, .load1 (T 62)⟩, ⟨(some 64), none, .len (T 63)⟩, ⟨(some 65), none, .int2 .lss (T 61) (T 64)⟩]) (.cond (T 65) .skip (.exit 2))) (.seq (.block 3 (.seq (.ops [⟨(some 68), none, .fieldAddr 5 (T 1)⟩, ⟨(some 69), none, .load1 (T 68)⟩, ⟨(some 70), none, .mov (T 4)⟩, ⟨(some 71), none, .idxSl 4 (T 69) (T 70)⟩, ⟨(some 72), none, .loadN 4 (T 71)⟩, ⟨(some 5), none, .alloc [(.int .i64 (0)), (.int .i64 (0)), (.int .i64 (0)), (.int .i64 (0))]⟩, ⟨none, none, .store 4 (T 5) (T 72)⟩]) (.seq (.ops [⟨(some 73), none, .fieldAddr 0 (T 5)⟩, ⟨(some 74), none, .load1 (T 73)⟩, ⟨(some 75), none, .fieldAddr 0 (T 1)⟩, ⟨(some 76), none, .load1 (T 75)⟩, ⟨(some 77), none, .call (.func 42) [(T 74), (.const (.int .i64 (0))), (T 76)]⟩, ⟨(some 78), none, .not (T 77)⟩, ⟨(some 79), none, .mov (T 78)⟩, ⟨(some 80), (some (79, false)), .fieldAddr 1 (T 5)⟩, ⟨(some 81), (some (79, false)), .loadN 2 (T 80)⟩, ⟨(some 82), (some (79, false)), .call (.func 111) [(T 81), (.const (.int .i64 (99)))]⟩, ⟨(some 83), (some (79, false)), .not (T 82)⟩, ⟨(some 84), none, .pick (T 79) (.const (.bool true)) (T 83)⟩, ⟨(some 85), none, .mov (T 84)⟩, ⟨(some 86), (some (85, false)), .fieldAddr 3 (T 5)⟩, ⟨(some 87), (some (85, false)), .load1 (T 86)⟩, ⟨(some 88), (some (85, false)), .call (.func 42) [(T 87), (.const (.int .i64 (0))), (.const (.int .i64 (99)))]⟩, ⟨(some 89), (some (85, false)), .not (T 88)⟩, ⟨(some 90), none, .pick (T 85) (.const (.bool true)) (T 89)⟩]) (.cond (T 90) (.seq (.ops [⟨(some 2), none, .mov (.const (.int .i64 (1)))⟩]) .ret) .skip)))) (.ops [⟨(some 66), none, .mov (T 4)⟩, ⟨(some 67), none, .int2 .add (T 66) (.const (.int .i64 (1)))⟩, ⟨(some 4), none, .mov (T 67)⟩])))))) (.seq (.seq (.ops [⟨(some 6), none, .mov (.const (.int .i64 (0)))⟩]) (.block 4 (.loop (.seq (.seq (.ops [⟨(some 91), none, .mov (T 6)⟩, ⟨(some 92), none, .fieldAddr 6 (T 1)⟩, ⟨(some 93), none, .load1 (T 92)⟩, ⟨(some 94), none, .len (T 93)⟩, ⟨(some 95), none, .int2 .lss (T 91) (T 94)⟩]) (.cond (T 95) .skip (.exit 4))) (.seq (.block 5 (.seq (.ops [⟨(some 98), none, .fieldAddr 6 (T 1)⟩, ⟨(some 99), none, .load1 (T 98)⟩, ⟨(some 100), none, .mov (T 6)⟩, ⟨(some 101), none, .idxSl 3 (T 99) (T 100)⟩, ⟨(some 102), none, .loadN 3 (T 101)⟩, ⟨(some 7), none, .alloc [(.int .i64 (0)), (.int .i64 (0)), (.int .i64 (0))]⟩, ⟨none, none, .store 3 (T 7) (T 102)⟩]) (.seq (.draw [⟨.free, ⟨(some 103), none, .fieldAddr 0 (T 7)⟩⟩, ⟨.rd1, ⟨(some 104), none, .load1 (T 103)⟩⟩, ⟨.free, ⟨(some 105), none, .fieldAddr 5 (T 1)⟩⟩, ⟨.rd1, ⟨(some 106), none, .load1 (T 105)⟩⟩, ⟨.free, ⟨(some 107), none, .len (T 106)⟩⟩, ⟨.free, ⟨(some 108), none, .int2 .sub (T 107) (.const (.int .i64 (1)))⟩⟩, ⟨.up, ⟨(some 109), none, .call (.func 42) [(T 104), (.const (.int .i64 (0))), (T 108)]⟩⟩, ⟨.free, ⟨(some 110), none, .not (T 109)⟩⟩, ⟨.free, ⟨(some 111), none, .mov (T 110)⟩⟩, ⟨.free, ⟨(some 112), (some (111, false)), .fieldAddr 1 (T 7)⟩⟩, ⟨.rd1, ⟨(some 113), (some (111, false)), .load1 (T 112)⟩⟩, ⟨.free, ⟨(some 114), (some (111, false)), .fieldAddr 5 (T 1)⟩⟩, ⟨.rd1, ⟨(some 115), (some (111, false)), .load1 (T 114)⟩⟩, ⟨.free, ⟨(some 116), (some (111, false)), .fieldAddr 0 (T 7)⟩⟩, ⟨.rd1, ⟨(some 117), (some (111, false)), .load1 (T 116)⟩⟩, ⟨.free, ⟨(some 118), (some (111, false)), .idxSl 4 (T 115) (T 117)⟩⟩, ⟨.free, ⟨(some 119), (some (111, false)), .fieldAddr 0 (T 118)⟩⟩, ⟨.rd1, ⟨(some 120), (some (111, false)), .load1 (T 119)⟩⟩, ⟨.free, ⟨(some 121), (some (111, false)), .fieldAddr 0 (T 1)⟩⟩, ⟨.rd1, ⟨(some 122), (some (111, false)), .load1 (T 121)⟩⟩, ⟨.up, ⟨(some 123), (some (111, false)), .call (.func 42) [(T 113), (T 120), (T 122)]⟩⟩, ⟨.free, ⟨(some 124), (some (111, false)), .not (T 123)⟩⟩, ⟨.free, ⟨(some 125), none, .pick (T 111) (.const (.bool true)) (T 124)⟩⟩, ⟨.free, ⟨(some 126), none, .mov (T 125)⟩⟩, ⟨.free, ⟨(some 127), (some (126, false)), .fieldAddr 2 (T 7)⟩⟩, ⟨.rd1, ⟨(some 128), (some (126, false)), .load1 (T 127)⟩⟩, ⟨.any, ⟨(some 129), (some (126, false)), .call (.func 42) [(T 128), (.const (.int .i64 (0))), (.const (.int .i64 (2)))]⟩⟩, ⟨.free, ⟨(some 130), (some (126, false)), .not (T 129)⟩⟩, ⟨.free, ⟨(some 131), none, .pick (T 126) (.const (.bool true)) (T 130)⟩⟩]) (.cond (T 131) (.seq (.ops [⟨(some 2), none, .mov (.const (.int .i64 (1)))⟩]) .ret) .skip)))) (.ops [⟨(some 96), none, .mov (T 6)⟩, ⟨(some 97), none, .int2 .add (T 96) (.const (.int .i64 (1)))⟩, ⟨(some 6), none, .mov (T 97)⟩])))))) (.seq (.seq (.ops [⟨(some 132), none, .loadN 7 (T 1)⟩, ⟨(some 133), none, .call (.func 64) [(T 132)]⟩, ⟨(some 134), none, .int2 .gtr (T 133) (.const (.int .i64 (2000)))⟩]) (.cond (T 134) (.seq (.ops [⟨(some 2), none, .mov (.const (.int .i64 (3)))⟩]) .ret) .skip)) (.seq (.ops [⟨(some 2), none, .mov (.const (.int .i64 (0)))⟩]) .ret))))))))
theorem fok82 : FnOk Try.prog 82 135 s82 [.tmp 2] := ⟨Try.f82, _, Try.func82, rfl, Try.ntmps82, by kernel_rfl, by kernel_rfl⟩
set_option maxHeartbeats 1000000 in
theorem fault_c (hn : 120 ≤ n) (hr : h.next + 100 < far) {wv vv sv : Value} {S : MS} (hy : SteepR h wv vv sv S) (hl : S.nw ≤ 30 ∧ S.nv ≤ 30 ∧ S.ns ≤ 30) :
    call n (.func (.func 82) #[] #[]) [.agg ⟨stL S wv vv sv⟩] h = some (.int .i64 (faultS S), h) := by
  obtain ⟨n, rfl⟩ : ∃ p, n = p + 1 := ⟨n - 1, by omega⟩
  refine call_plain0 fok82 rfl rfl (by simp) rfl ?_
  have hy := hy.shut
  have hr : h.shutAll.next + 100 < far := hr
  have hfl : h.shutAll.floor ≤ h.shutAll.next := Nat.le_refl _
  generalize h.shutAll = h at hy hr hfl
  simp only [s82, W_seq, W_ops]
  refine ops_box (cs := stL S wv vv sv) (by omega) rfl hy.one fun h1 hx => ?_
  have hy := hy.mono hx.sub
  have n1 := hx.next
  have f1' := hx.floor
  have r1 := hx.row
  have e3 : ¬ LimOk S → faultS S = 3 := fun e => by unfold faultS; rw [if_pos e]
  by_cases c1 : 5 < S.last
  · have := e3 fun e => by have := e.1; omega
    simp only [rn0, rn1, rn2, reduceIte, Nat.reduceEqDiff, Nat.reduceAdd, Nat.reduceMul, Nat.reduceSub, Nat.reduceLeDiff, Nat.reduceLT, r1.ld, stg, Nat.zero_add, c1, this]
  by_cases c2 : (4 : Int) < (S.nv : Int)
  · have := e3 fun e => by have := e.2.1; omega
    simp only [rn0, rn1, rn2, reduceIte, Nat.reduceEqDiff, Nat.reduceAdd, Nat.reduceMul, Nat.reduceSub, Nat.reduceLeDiff, Nat.reduceLT, r1.ld, stg, Nat.zero_add, c1, Cells.len hy.v, c2, this]
  by_cases c3 : (5 : Int) < (S.ns : Int)
  · have := e3 fun e => by have := e.2.2; omega
    simp only [rn0, rn1, rn2, reduceIte, Nat.reduceEqDiff, Nat.reduceAdd, Nat.reduceMul, Nat.reduceSub, Nat.reduceLeDiff, Nat.reduceLT, r1.ld, stg, Nat.zero_add, c1, Cells.len hy.v, c2, Cells.len hy.s, c3, this]
  have hL : LimOk S := ⟨by omega, by omega, by omega⟩
  have bad : ¬ ArgsOk S → faultS S = 1 := fun e => by unfold faultS; rw [if_neg (by simpa using hL), if_pos e]
  simp only [rn0, rn1, rn2, reduceIte, Nat.reduceEqDiff, Nat.reduceAdd, Nat.reduceMul, Nat.reduceSub, Nat.reduceLeDiff, Nat.reduceLT, r1.ld, stg, Nat.zero_add, c1, Cells.len hy.v, c2, Cells.len hy.s, c3]
  by_cases c4 : S.last < 0
  · have := bad fun e => by have := e.head.1; omega
    simp only [rn0, rn1, rn2, reduceIte, Nat.reduceEqDiff, Nat.reduceAdd, Nat.reduceMul, Nat.reduceSub, Nat.reduceLeDiff, Nat.reduceLT, r1.ld, stg, Nat.zero_add, c4, this]
  have i1 := in_c (n := n) (h := h1) (by omega) S.per 1 9
  by_cases c5 : 1 ≤ S.per ∧ S.per ≤ 9
  case neg =>
    have := bad fun e => c5 e.head.2.1
    simp only [rn0, rn1, rn2, reduceIte, Nat.reduceEqDiff, Nat.reduceAdd, Nat.reduceMul, Nat.reduceSub, Nat.reduceLeDiff, Nat.reduceLT, r1.ld, stg, Nat.zero_add, c4, i1, c5, this]
  have hwl : wrapF .i64 (S.last + 1) = S.last + 1 := wrap_in (by omega) (by omega)
  by_cases c6 : (S.nw : Int) = S.last + 1
  case neg =>
    have := bad fun e => c6 e.head.2.2.1
    simp only [rn0, rn1, rn2, reduceIte, Nat.reduceEqDiff, Nat.reduceAdd, Nat.reduceMul, Nat.reduceSub, Nat.reduceLeDiff, Nat.reduceLT, r1.ld, stg, Nat.zero_add, c4, i1, c5, and_self, Cells.len hy.w, hwl, c6, this]
  have d6 : decide ((S.nw : Int) = S.last + 1) = true := decide_eq_true c6
  have i2 := inside_c (n := n) (h := h1) (by omega) (by omega) S.splo S.sphi 99
  by_cases c7 : 0 ≤ S.splo ∧ S.splo ≤ S.sphi ∧ S.sphi ≤ 99
  case neg =>
    have := bad fun e => c7 e.head.2.2.2
    simp only [rn0, rn1, rn2, reduceIte, Nat.reduceEqDiff, Nat.reduceAdd, Nat.reduceMul, Nat.reduceSub, Nat.reduceLeDiff, Nat.reduceLT, r1.ld, stg, Nat.zero_add, c4, i1, c5, and_self, Cells.len hy.w, hwl, d6, st_rng r1, i2, c7, this]
  have hH : HeadOk S := ⟨by omega, c5, c6, c7⟩
  simp only [rn0, rn1, rn2, reduceIte, Nat.reduceEqDiff, Nat.reduceAdd, Nat.reduceMul, Nat.reduceSub, Nat.reduceLeDiff, Nat.reduceLT, r1.ld, stg, Nat.zero_add, c4, i1, c5, and_self, Cells.len hy.w, hwl, d6, st_rng r1, i2, c7]
  refine W_loop S.nw (fun k f g ms => g = h1 ∧ ms = [] ∧ f 1 = .pointer (some ⟨h.next, 0, none⟩) ∧ f 3 = .int .i64 (k : Int) ∧ ∀ j, j < k → 0 ≤ S.wlo j ∧ S.wlo j ≤ S.whi j ∧ S.whi j ≤ 9) (by simp; omega) ?_ ?_ ?_
  · simp only [rn0, rn1, rn2, reduceIte, Nat.reduceEqDiff, Nat.reduceAdd, Nat.reduceMul, Nat.reduceSub, Nat.reduceLeDiff, Nat.reduceLT, Nat.not_lt_zero, false_implies, implies_true]
    trivial
  · rintro k f g ms hk ⟨rfl, rfl, f1, f3, hlt⟩
    have hk' : (k : Int) < (S.nw : Int) := by omega
    have hw : wrapF .i64 ((k : Int) + 1) = ((k + 1 : Nat) : Int) := by rw [wrap_in (by omega) (by omega)]; rfl
    have ei := inside_c (n := n) (h := g) (by omega) (by omega) (S.wlo k) (S.whi k) 9
    by_cases hkk : 0 ≤ S.wlo k ∧ S.wlo k ≤ S.whi k ∧ S.whi k ≤ 9
    · simp only [rn0, rn1, rn2, reduceIte, Nat.reduceEqDiff, Nat.reduceAdd, Nat.reduceMul, Nat.reduceSub, Nat.reduceLeDiff, Nat.reduceLT, f1, f3, r1.ld, stg, Nat.zero_add, Cells.len hy.w, hk', Cells.idx hy.w hk, ranges_ld hy.w hk, ei, hkk, hw, and_self]
      intro j hj
      by_cases e : j = k
      · subst e; exact hkk
      · exact hlt j (by omega)
    · have := bad fun hb => hkk (hb.warm k hk)
      simp only [rn0, rn1, rn2, reduceIte, Nat.reduceEqDiff, Nat.reduceAdd, Nat.reduceMul, Nat.reduceSub, Nat.reduceLeDiff, Nat.reduceLT, f1, f3, r1.ld, stg, Nat.zero_add, Cells.len hy.w, hk', Cells.idx hy.w hk, ranges_ld hy.w hk, ei, hkk, this]
  rintro f g ms ⟨rfl, rfl, f1, f3, hW⟩
  simp only [rn0, rn1, rn2, reduceIte, Nat.reduceEqDiff, Nat.reduceAdd, Nat.reduceMul, Nat.reduceSub, Nat.reduceLeDiff, Nat.reduceLT, f1, f3, r1.ld, stg, Nat.zero_add, Cells.len hy.w, Int.lt_irrefl]
  clear f3
  refine W_loop S.nv (fun k f g' ms => (Sub All g g' ∧ g'.next = g.next + k ∧ g'.floor = g.floor) ∧ ms = [] ∧ f 1 = .pointer (some ⟨h.next, 0, none⟩) ∧ f 4 = .int .i64 (k : Int) ∧ ∀ i, i < k → (0 ≤ S.vb i ∧ S.vb i ≤ S.last) ∧ (0 ≤ S.vlo i ∧ S.vlo i ≤ S.vhi i ∧ S.vhi i ≤ 99) ∧ 0 ≤ S.vn i ∧ S.vn i ≤ 99) (by simp; omega) ?_ ?_ ?_
  · simp only [rn0, rn1, rn2, reduceIte, Nat.reduceEqDiff, Nat.reduceAdd, Nat.reduceMul, Nat.reduceSub, Nat.reduceLeDiff, Nat.reduceLT, f1, Nat.not_lt_zero, false_implies, implies_true, Nat.add_zero]
    trivial
  · rintro k f g' ms hk ⟨⟨g1, g2, g3⟩, rfl, f1, f4, hlt⟩
    have hk' : (k : Int) < (S.nv : Int) := by omega
    have hw : wrapF .i64 ((k : Int) + 1) = ((k + 1 : Nat) : Int) := by rw [wrap_in (by omega) (by omega)]; rfl
    have hyg := hy.mono g1
    have rg := r1.mono g1
    simp only [rn0, rn1, rn2, reduceIte, Nat.reduceEqDiff, Nat.reduceAdd, Nat.reduceMul, Nat.reduceSub, Nat.reduceLeDiff, Nat.reduceLT, f1, f4, rg.ld, stg, Nat.zero_add, Cells.len hyg.v, hk', Cells.idx hyg.v hk, vat_ld hyg hk]
    refine step_new (vs := [.int .i64 (S.vb k), .int .i64 (S.vlo k), .int .i64 (S.vhi k), .int .i64 (S.vn k)]) (by omega) (by omega) rfl (by simp only [rn0, rn1, rn2, reduceIte, Nat.reduceEqDiff, Nat.reduceAdd, Nat.reduceMul, Nat.reduceSub, Nat.reduceLeDiff, Nat.reduceLT]; rfl) rfl rfl rfl fun g4 hx4 => ?_
    have n4 := hx4.next
    have f4' := hx4.floor
    have rg4 := rg.mono hx4.sub
    have hin : (Sub All g g4 ∧ g4.next = g.next + (k + 1) ∧ g4.floor = g.floor) = True := eq_true ⟨g1.trans hx4.sub, by omega, by omega⟩
    have j1 := in_c (n := n) (h := g4) (by omega) (S.vb k) 0 S.last
    have j2 := inside_c (n := n) (h := g4) (by omega) (by omega) (S.vlo k) (S.vhi k) 99
    have j3 := in_c (n := n) (h := g4) (by omega) (S.vn k) 0 99
    by_cases q1 : 0 ≤ S.vb k ∧ S.vb k ≤ S.last
    case neg =>
      have := bad fun hb => q1 (hb.vat k hk).1
      simp only [rn0, rn1, rn2, reduceIte, Nat.reduceEqDiff, Nat.reduceAdd, Nat.reduceMul, Nat.reduceSub, Nat.reduceLeDiff, Nat.reduceLT, f1, f4, rg4.ld, hx4.ld, stg, Nat.zero_add, List.getElem?_cons_zero, List.getElem?_cons_succ, j1, q1, this]
    by_cases q2 : 0 ≤ S.vlo k ∧ S.vlo k ≤ S.vhi k ∧ S.vhi k ≤ 99
    case neg =>
      have := bad fun hb => q2 (hb.vat k hk).2.1
      simp only [rn0, rn1, rn2, reduceIte, Nat.reduceEqDiff, Nat.reduceAdd, Nat.reduceMul, Nat.reduceSub, Nat.reduceLeDiff, Nat.reduceLT, f1, f4, rg4.ld, hx4.ld, hx4.ldN 1 2 (by simp) (by simp), stg, Nat.zero_add, List.drop_succ_cons, List.drop_zero, List.take_succ_cons, List.take_zero, List.getElem?_cons_zero, List.getElem?_cons_succ, j1, q1, and_self, j2, q2, this]
    by_cases q3 : 0 ≤ S.vn k ∧ S.vn k ≤ 99
    case neg =>
      have := bad fun hb => q3 (hb.vat k hk).2.2
      simp only [rn0, rn1, rn2, reduceIte, Nat.reduceEqDiff, Nat.reduceAdd, Nat.reduceMul, Nat.reduceSub, Nat.reduceLeDiff, Nat.reduceLT, f1, f4, rg4.ld, hx4.ld, hx4.ldN 1 2 (by simp) (by simp), stg, Nat.zero_add, List.drop_succ_cons, List.drop_zero, List.take_succ_cons, List.take_zero, List.getElem?_cons_zero, List.getElem?_cons_succ, j1, q1, and_self, j2, q2, j3, q3, this]
    simp only [rn0, rn1, rn2, reduceIte, Nat.reduceEqDiff, Nat.reduceAdd, Nat.reduceMul, Nat.reduceSub, Nat.reduceLeDiff, Nat.reduceLT, f1, f4, rg4.ld, hx4.ld, hx4.ldN 1 2 (by simp) (by simp), stg, Nat.zero_add, List.drop_succ_cons, List.drop_zero, List.take_succ_cons, List.take_zero, List.getElem?_cons_zero, List.getElem?_cons_succ, j1, q1, and_self, j2, q2, j3, q3, hw, hin]
    intro j hj
    by_cases e : j = k
    · subst e; exact ⟨q1, q2, q3⟩
    · exact hlt j (by omega)
  rintro f g2 ms ⟨⟨k1, k2, k3⟩, rfl, f1, f4, hV⟩
  have hy := hy.mono k1
  have r1 := r1.mono k1
  simp only [rn0, rn1, rn2, reduceIte, Nat.reduceEqDiff, Nat.reduceAdd, Nat.reduceMul, Nat.reduceSub, Nat.reduceLeDiff, Nat.reduceLT, f1, f4, r1.ld, stg, Nat.zero_add, Cells.len hy.v, Int.lt_irrefl]
  clear f4
  have hwv : wrapF .i64 ((S.nv : Int) - 1) = (S.nv : Int) - 1 := wrap_in (by omega) (by omega)
  refine W_loop S.ns (fun k f g' ms => (Sub All g2 g' ∧ g'.next = g2.next + k ∧ g'.floor = g2.floor) ∧ ms = [] ∧ f 1 = .pointer (some ⟨h.next, 0, none⟩) ∧ f 6 = .int .i64 (k : Int) ∧ ∀ i, i < k → (0 ≤ S.sv i ∧ S.sv i ≤ (S.nv : Int) - 1) ∧ (S.vb (S.sv i).toNat ≤ S.sh i ∧ S.sh i ≤ S.last) ∧ 0 ≤ S.sk i ∧ S.sk i ≤ 2) (by simp; omega) ?_ ?_ ?_
  · simp only [rn0, rn1, rn2, reduceIte, Nat.reduceEqDiff, Nat.reduceAdd, Nat.reduceMul, Nat.reduceSub, Nat.reduceLeDiff, Nat.reduceLT, f1, Nat.not_lt_zero, false_implies, implies_true, Nat.add_zero]
    trivial
  · rintro k f g' ms hk ⟨⟨g1, g2', g3⟩, rfl, f1, f6, hlt⟩
    have hk' : (k : Int) < (S.ns : Int) := by omega
    have hw : wrapF .i64 ((k : Int) + 1) = ((k + 1 : Nat) : Int) := by rw [wrap_in (by omega) (by omega)]; rfl
    have hyg := hy.mono g1
    have rg := r1.mono g1
    simp only [rn0, rn1, rn2, reduceIte, Nat.reduceEqDiff, Nat.reduceAdd, Nat.reduceMul, Nat.reduceSub, Nat.reduceLeDiff, Nat.reduceLT, f1, f6, rg.ld, stg, Nat.zero_add, Cells.len hyg.s, hk', Cells.idx hyg.s hk, samps_ld hyg.s hk]
    refine step_new (vs := [.int .i64 (S.sv k), .int .i64 (S.sh k), .int .i64 (S.sk k)]) (by omega) (by omega) rfl (by simp only [rn0, rn1, rn2, reduceIte, Nat.reduceEqDiff, Nat.reduceAdd, Nat.reduceMul, Nat.reduceSub, Nat.reduceLeDiff, Nat.reduceLT]; rfl) rfl rfl rfl fun g4 hx4 => ?_
    have n4 := hx4.next
    have f4' := hx4.floor
    have rg4 := rg.mono hx4.sub
    have hy4 := hyg.mono hx4.sub
    have hin : (Sub All g2 g4 ∧ g4.next = g2.next + (k + 1) ∧ g4.floor = g2.floor) = True := eq_true ⟨g1.trans hx4.sub, by omega, by omega⟩
    have j1 := in_c (n := n) (h := g4) (by omega) (S.sv k) 0 ((S.nv : Int) - 1)
    have j3 := in_c (n := n) (h := g4) (by omega) (S.sk k) 0 2
    simp only [rn0, rn1, rn2, reduceIte, Nat.reduceEqDiff, Nat.reduceAdd, Nat.reduceMul, Nat.reduceSub, Nat.reduceLeDiff, Nat.reduceLT]
    refine W_draw All ?_
    by_cases q1 : 0 ≤ S.sv k ∧ S.sv k ≤ (S.nv : Int) - 1
    case neg =>
      have := bad fun hb => q1 (hb.smell k hk).1
      simp only [rn0, rn1, rn2, reduceIte, Nat.reduceEqDiff, Nat.reduceAdd, Nat.reduceMul, Nat.reduceSub, Nat.reduceLeDiff, Nat.reduceLT, f1, f6, rg4.ld, hx4.ld, stg, Nat.zero_add, List.getElem?_cons_zero, List.getElem?_cons_succ, d_guard, dg_tt, dg_tf, dg_ft, dg_ff, Cells.len hy4.v, hwv, j1, q1, this]
    have hsv : ((S.sv k).toNat : Int) = S.sv k := by omega
    have hvv : (S.sv k).toNat < S.nv := by omega
    have hix := Cells.idx hy4.v hvv
    have hbl := begin_ld hy4 hvv
    rw [hsv] at hix
    have j2 := in_c (n := n) (h := g4) (by omega) (S.sh k) (S.vb (S.sv k).toNat) S.last
    by_cases q2 : S.vb (S.sv k).toNat ≤ S.sh k ∧ S.sh k ≤ S.last
    case neg =>
      have := bad fun hb => q2 (hb.smell k hk).2.1
      simp only [rn0, rn1, rn2, reduceIte, Nat.reduceEqDiff, Nat.reduceAdd, Nat.reduceMul, Nat.reduceSub, Nat.reduceLeDiff, Nat.reduceLT, f1, f6, rg4.ld, hx4.ld, stg, Nat.zero_add, List.getElem?_cons_zero, List.getElem?_cons_succ, d_guard, dg_tt, dg_tf, dg_ft, dg_ff, Cells.len hy4.v, hwv, j1, q1, and_self, hix, Cells.fld hy4.v hvv, hbl, j2, q2, this]
    by_cases q3 : 0 ≤ S.sk k ∧ S.sk k ≤ 2
    case neg =>
      have := bad fun hb => q3 (hb.smell k hk).2.2
      simp only [rn0, rn1, rn2, reduceIte, Nat.reduceEqDiff, Nat.reduceAdd, Nat.reduceMul, Nat.reduceSub, Nat.reduceLeDiff, Nat.reduceLT, f1, f6, rg4.ld, hx4.ld, stg, Nat.zero_add, List.getElem?_cons_zero, List.getElem?_cons_succ, d_guard, dg_tt, dg_tf, dg_ft, dg_ff, Cells.len hy4.v, hwv, j1, q1, and_self, hix, Cells.fld hy4.v hvv, hbl, j2, q2, j3, q3, this]
    simp only [rn0, rn1, rn2, reduceIte, Nat.reduceEqDiff, Nat.reduceAdd, Nat.reduceMul, Nat.reduceSub, Nat.reduceLeDiff, Nat.reduceLT, f1, f6, rg4.ld, hx4.ld, stg, Nat.zero_add, List.getElem?_cons_zero, List.getElem?_cons_succ, d_guard, dg_tt, dg_tf, dg_ft, dg_ff, Cells.len hy4.v, hwv, j1, q1, and_self, hix, Cells.fld hy4.v hvv, hbl, j2, q2, j3, q3, hw, hin]
    intro j hj
    by_cases e : j = k
    · subst e; exact ⟨q1, q2, q3⟩
    · exact hlt j (by omega)
  rintro f g3 ms ⟨⟨l1, l2, l3⟩, rfl, f1, f6, hS⟩
  have hy := hy.mono l1
  have r1 := r1.mono l1
  have hA : ArgsOk S := ⟨hH, hW, hV, hS⟩
  have em := many_c (n := n) (h := g3) (by omega) (by omega) hy hA ⟨hl.1, hl.2.1⟩
  have w1 := r1.whole (n := 7) rfl
  have hF : faultS S = if 2000 < manyS S then 3 else 0 := by unfold faultS; rw [if_neg (by simpa using hL), if_neg (by simpa using hA)]
  by_cases hm : 2000 < manyS S
  · rw [if_pos hm] at hF
    simp only [rn0, rn1, rn2, reduceIte, Nat.reduceEqDiff, Nat.reduceAdd, Nat.reduceMul, Nat.reduceSub, Nat.reduceLeDiff, Nat.reduceLT, f1, f6, r1.ld, stg, Nat.zero_add, Cells.len hy.s, Int.lt_irrefl, w1, em, hm, hF]
  · rw [if_neg hm] at hF
    simp only [rn0, rn1, rn2, reduceIte, Nat.reduceEqDiff, Nat.reduceAdd, Nat.reduceMul, Nat.reduceSub, Nat.reduceLeDiff, Nat.reduceLT, f1, f6, r1.ld, stg, Nat.zero_add, Cells.len hy.s, Int.lt_irrefl, w1, em, hm, hF]

def s114 : SCode := (.seq (.ops [⟨(some 2), none, .box (T 0)⟩, ⟨(some 4), none, .mov (.const (.bool false))⟩]) (.seq (.ops [⟨(some 5), none, .fieldAddr 0 (T 2)⟩, ⟨(some 6), none, .load1 (T 5)⟩, ⟨(some 7), none, .int2 .leq (.const (.int .i64 (0))) (T 6)⟩, ⟨(some 8), none, .mov (T 7)⟩, ⟨(some 9), (some (8, true)), .fieldAddr 0 (T 2)⟩, ⟨(some 10), (some (8, true)), .load1 (T 9)⟩, ⟨(some 11), (some (8, true)), .fieldAddr 1 (T 2)⟩, ⟨(some 12), (some (8, true)), .load1 (T 11)⟩, ⟨(some 13), (some (8, true)), .int2 .leq (T 10) (T 12)⟩, ⟨(some 14), none, .pick (T 8) (T 13) (.const (.bool false))⟩, ⟨(some 15), none, .mov (T 14)⟩, ⟨(some 16), (some (15, true)), .fieldAddr 1 (T 2)⟩, ⟨(some 17), (some (15, true)), .load1 (T 16)⟩, ⟨(some 18), (some (15, true)), .mov (T 1)⟩, ⟨(some 19), (some (15, true)), .int2 .leq (T 17) (T 18)⟩, ⟨(some 20), none, .pick (T 15) (T 19) (.const (.bool false))⟩, ⟨(some 4), none, .mov (T 20)⟩]) .ret))
theorem fok114 : FnOk Try.prog 114 21 s114 [.tmp 4] := ⟨Try.f114, _, Try.func114, rfl, Try.ntmps114, by kernel_rfl, by kernel_rfl⟩
theorem isUpTo_c (hn : 1 ≤ n) (hr : h.next < far) (lo hi m : Int) : call n (.func (.func 114) #[] #[]) [.agg ⟨[.int .i64 lo, .int .i64 hi]⟩, .int .i64 m] h = some (.bool (decide (0 ≤ lo ∧ lo ≤ hi ∧ hi ≤ m)), h) := by
  obtain ⟨n, rfl⟩ : ∃ p, n = p + 1 := ⟨n - 1, by omega⟩
  refine call_plain0 fok114 rfl rfl (by simp) rfl ?_
  simp only [s114, W_seq, W_ops]
  refine ops_box (cs := [.int .i64 lo, .int .i64 hi]) (by exact hr) rfl rfl fun h1 hb => ?_
  by_cases c1 : 0 ≤ lo <;> by_cases c2 : lo ≤ hi <;> by_cases c3 : hi ≤ m <;> simp only [rn0, rn1, rn2, reduceIte, Nat.reduceEqDiff, Nat.reduceAdd, Nat.reduceMul, Nat.reduceSub, Nat.reduceLeDiff, Nat.reduceLT, hb.ld, Nat.zero_add, List.getElem?_cons_zero, List.getElem?_cons_succ, c1, c2, c3, and_self, and_false, false_and]
def s113 : SCode := (.seq (.ops [⟨(some 1), none, .box (T 0)⟩, ⟨(some 2), none, .mov (.const (.bool false))⟩]) (.seq (.ops [⟨(some 3), none, .loadN 2 (T 1)⟩, ⟨(some 4), none, .call (.func 114) [(T 3), (.const (.int .i64 (9)))]⟩, ⟨(some 2), none, .mov (T 4)⟩]) .ret))
theorem fok113 : FnOk Try.prog 113 5 s113 [.tmp 2] := ⟨Try.f113, _, Try.func113, rfl, Try.ntmps113, by kernel_rfl, by kernel_rfl⟩
theorem isWarm_c (hn : 2 ≤ n) (hr : h.next + 1 < far) (lo hi : Int) : call n (.func (.func 113) #[] #[]) [.agg ⟨[.int .i64 lo, .int .i64 hi]⟩] h = some (.bool (decide (0 ≤ lo ∧ lo ≤ hi ∧ hi ≤ 9)), h) := by
  obtain ⟨n, rfl⟩ : ∃ p, n = p + 1 := ⟨n - 1, by omega⟩
  refine call_plain0 fok113 rfl rfl (by simp) rfl ?_
  have hr : h.shutAll.next + 1 < far := hr
  generalize h.shutAll = h at hr
  simp only [s113, W_seq, W_ops]
  refine ops_box (cs := [.int .i64 lo, .int .i64 hi]) (by omega) rfl rfl fun h1 hb => ?_
  have hr1 : h1.next < far := by rw [hb.next]; exact hr
  simp only [rn0, rn1, rn2, reduceIte, Nat.reduceEqDiff, Nat.reduceAdd, Nat.reduceMul, Nat.reduceSub, Nat.reduceLeDiff, Nat.reduceLT, hb.ldN 0 2 (by simp) (by simp), List.drop_zero, List.take_succ_cons, List.take_zero, isUpTo_c (n := n) (by omega) hr1]
def s119 : SCode := (.seq (.ops [⟨(some 2), none, .box (T 0)⟩, ⟨(some 4), none, .mov (.const (.bool false))⟩]) (.seq (.ops [⟨(some 5), none, .mov (T 1)⟩, ⟨(some 6), none, .int2 .leq (.const (.int .i64 (0))) (T 5)⟩, ⟨(some 7), none, .mov (T 6)⟩, ⟨(some 8), (some (7, true)), .mov (T 1)⟩, ⟨(some 9), (some (7, true)), .fieldAddr 0 (T 2)⟩, ⟨(some 10), (some (7, true)), .fieldAddr 5 (T 9)⟩, ⟨(some 11), (some (7, true)), .load1 (T 10)⟩, ⟨(some 12), (some (7, true)), .len (T 11)⟩, ⟨(some 13), (some (7, true)), .int2 .lss (T 8) (T 12)⟩, ⟨(some 14), none, .pick (T 7) (T 13) (.const (.bool false))⟩, ⟨(some 4), none, .mov (T 14)⟩]) .ret))
theorem fok119 : FnOk Try.prog 119 15 s119 [.tmp 4] := ⟨Try.f119, _, Try.func119, rfl, Try.ntmps119, by kernel_rfl, by kernel_rfl⟩
theorem hasVat_c (hn : 1 ≤ n) (hr : h.next < far) {wv vv sv tv : Value} {S : MS} (hy : SteepR h wv vv sv S) (ht : oneCell tv = true) (at_ : Int) :
    call n (.func (.func 119) #[] #[]) [.agg ⟨wkL S wv vv sv tv⟩, .int .i64 at_] h = some (.bool (decide (0 ≤ at_ ∧ at_ ≤ (S.nv : Int) - 1)), h) := by
  obtain ⟨n, rfl⟩ : ∃ p, n = p + 1 := ⟨n - 1, by omega⟩
  refine call_plain0 fok119 rfl rfl (by simp) rfl ?_
  have hy := hy.shut
  have hr : h.shutAll.next < far := hr
  generalize h.shutAll = h at hy hr
  simp only [s119, W_seq, W_ops]
  refine ops_box (cs := wkL S wv vv sv tv) hr rfl (wk_one hy ht) fun h1 hx => ?_
  have hy := hy.mono hx.sub
  have e : (at_ < (S.nv : Int)) = (at_ ≤ (S.nv : Int) - 1) := by simp only [eq_iff_iff]; omega
  by_cases c1 : 0 ≤ at_ <;> by_cases c2 : at_ ≤ (S.nv : Int) - 1 <;> simp only [rn0, rn1, rn2, reduceIte, Nat.reduceEqDiff, Nat.reduceAdd, Nat.reduceMul, Nat.reduceSub, Nat.reduceLeDiff, Nat.reduceLT, hx.ld, wkg, Nat.zero_add, Cells.len hy.v, e, c1, c2, and_self, and_false, false_and]
def s122 : SCode := (.seq (.ops [⟨(some 3), none, .box (T 0)⟩, ⟨(some 6), none, .mov (.const (.bool false))⟩]) (.seq (.ops [⟨(some 7), none, .fieldAddr 0 (T 3)⟩, ⟨(some 8), none, .fieldAddr 5 (T 7)⟩, ⟨(some 9), none, .load1 (T 8)⟩, ⟨(some 10), none, .mov (T 1)⟩, ⟨(some 11), none, .idxSl 4 (T 9) (T 10)⟩, ⟨(some 12), none, .fieldAddr 0 (T 11)⟩, ⟨(some 13), none, .load1 (T 12)⟩, ⟨(some 14), none, .mov (T 2)⟩, ⟨(some 15), none, .int2 .leq (T 13) (T 14)⟩, ⟨(some 16), none, .mov (T 15)⟩, ⟨(some 17), (some (16, true)), .mov (T 2)⟩, ⟨(some 18), (some (16, true)), .fieldAddr 0 (T 3)⟩, ⟨(some 19), (some (16, true)), .fieldAddr 0 (T 18)⟩, ⟨(some 20), (some (16, true)), .load1 (T 19)⟩, ⟨(some 21), (some (16, true)), .int2 .leq (T 17) (T 20)⟩, ⟨(some 22), none, .pick (T 16) (T 21) (.const (.bool false))⟩, ⟨(some 6), none, .mov (T 22)⟩]) .ret))
theorem fok122 : FnOk Try.prog 122 23 s122 [.tmp 6] := ⟨Try.f122, _, Try.func122, rfl, Try.ntmps122, by kernel_rfl, by kernel_rfl⟩
theorem hasHour_c (hn : 1 ≤ n) (hr : h.next < far) {wv vv sv tv : Value} {S : MS} (hy : SteepR h wv vv sv S) (ht : oneCell tv = true) {v : Nat} (hv : v < S.nv) (hh : Int) :
    call n (.func (.func 122) #[] #[]) [.agg ⟨wkL S wv vv sv tv⟩, .int .i64 (v : Int), .int .i64 hh] h = some (.bool (decide (S.vb v ≤ hh ∧ hh ≤ S.last)), h) := by
  obtain ⟨n, rfl⟩ : ∃ p, n = p + 1 := ⟨n - 1, by omega⟩
  refine call_plain0 fok122 rfl rfl (by simp) rfl ?_
  have hy := hy.shut
  have hr : h.shutAll.next < far := hr
  generalize h.shutAll = h at hy hr
  simp only [s122, W_seq, W_ops]
  refine ops_box (cs := wkL S wv vv sv tv) hr rfl (wk_one hy ht) fun h1 hx => ?_
  have hy := hy.mono hx.sub
  by_cases c1 : S.vb v ≤ hh <;> by_cases c2 : hh ≤ S.last <;> simp only [rn0, rn1, rn2, reduceIte, Nat.reduceEqDiff, Nat.reduceAdd, Nat.reduceMul, Nat.reduceSub, Nat.reduceLeDiff, Nat.reduceLT, hx.ld, wkg, Nat.zero_add, Cells.idx hy.v hv, Cells.fld hy.v hv, begin_ld hy hv, c1, c2, and_self, and_false, false_and]
def s107 : SCode := (.seq (.ops [⟨(some 2), none, .box (T 0)⟩, ⟨(some 4), none, .mov (.const (.int .i64 (0)))⟩]) (.seq (.draw [⟨.free, ⟨(some 5), none, .fieldAddr 0 (T 2)⟩⟩, ⟨.free, ⟨(some 6), none, .fieldAddr 0 (T 5)⟩⟩, ⟨.rd1, ⟨(some 7), none, .load1 (T 6)⟩⟩, ⟨.free, ⟨(some 8), none, .fieldAddr 0 (T 2)⟩⟩, ⟨.free, ⟨(some 9), none, .fieldAddr 5 (T 8)⟩⟩, ⟨.rd1, ⟨(some 10), none, .load1 (T 9)⟩⟩, ⟨.free, ⟨(some 11), none, .mov (T 1)⟩⟩, ⟨.free, ⟨(some 12), none, .idxSl 4 (T 10) (T 11)⟩⟩, ⟨.free, ⟨(some 13), none, .fieldAddr 0 (T 12)⟩⟩, ⟨.rd1, ⟨(some 14), none, .load1 (T 13)⟩⟩, ⟨.free, ⟨(some 15), none, .int2 .sub (T 7) (T 14)⟩⟩, ⟨.free, ⟨(some 16), none, .int2 .add (T 15) (.const (.int .i64 (1)))⟩⟩, ⟨.free, ⟨(some 4), none, .mov (T 16)⟩⟩]) .ret))
theorem fok107 : FnOk Try.prog 107 17 s107 [.tmp 4] := ⟨Try.f107, _, Try.func107, rfl, Try.ntmps107, by kernel_rfl, by kernel_rfl⟩
theorem hoursOf_c (hn : 1 ≤ n) (hr : h.next < far) {wv vv sv tv : Value} {S : MS} (hy : SteepR h wv vv sv S) (ht : oneCell tv = true) (hG : Good S) {v : Nat} (hv : v < S.nv) :
    call n (.func (.func 107) #[] #[]) [.agg ⟨wkL S wv vv sv tv⟩, .int .i64 (v : Int)] h = some (.int .i64 (S.last - S.vb v + 1), h) := by
  obtain ⟨n, rfl⟩ : ∃ p, n = p + 1 := ⟨n - 1, by omega⟩
  refine call_plain0 fok107 rfl rfl (by simp) rfl ?_
  have hy := hy.shut
  have hr : h.shutAll.next < far := hr
  generalize h.shutAll = h at hy hr
  obtain ⟨⟨q1, q2⟩, _⟩ := hG.args.vat v hv
  obtain ⟨z1, z2, _⟩ := hG.sizes
  have w1 : wrapF .i64 (S.last - S.vb v) = S.last - S.vb v := wrap_in (by omega) (by omega)
  have w2 : wrapF .i64 (S.last - S.vb v + 1) = S.last - S.vb v + 1 := wrap_in (by omega) (by omega)
  simp only [s107, W_seq, W_ops]
  refine ops_box (cs := wkL S wv vv sv tv) hr rfl (wk_one hy ht) fun h1 hx => ?_
  have hy := hy.mono hx.sub
  simp only [rn0, rn1, rn2, reduceIte, Nat.reduceEqDiff, Nat.reduceAdd, Nat.reduceMul, Nat.reduceSub, Nat.reduceLeDiff, Nat.reduceLT]
  refine W_draw All ?_
  simp only [rn0, rn1, rn2, reduceIte, Nat.reduceEqDiff, Nat.reduceAdd, Nat.reduceMul, Nat.reduceSub, Nat.reduceLeDiff, Nat.reduceLT, hx.ld, wkg, Nat.zero_add, Cells.idx hy.v hv, Cells.fld hy.v hv, begin_ld hy hv, w1, w2]
def s116 : SCode := (.seq (.ops [⟨(some 2), none, .box (T 0)⟩, ⟨(some 3), none, .box (T 1)⟩, ⟨(some 4), none, .mov (.const (.bool false))⟩]) (.seq (.ops [⟨(some 5), none, .fieldAddr 0 (T 3)⟩, ⟨(some 6), none, .load1 (T 5)⟩, ⟨(some 7), none, .int2 .leq (.const (.int .i64 (0))) (T 6)⟩, ⟨(some 8), none, .mov (T 7)⟩, ⟨(some 9), (some (8, true)), .fieldAddr 0 (T 3)⟩, ⟨(some 10), (some (8, true)), .load1 (T 9)⟩, ⟨(some 11), (some (8, true)), .fieldAddr 0 (T 2)⟩, ⟨(some 12), (some (8, true)), .fieldAddr 0 (T 11)⟩, ⟨(some 13), (some (8, true)), .load1 (T 12)⟩, ⟨(some 14), (some (8, true)), .int2 .leq (T 10) (T 13)⟩, ⟨(some 15), none, .pick (T 8) (T 14) (.const (.bool false))⟩, ⟨(some 16), none, .mov (T 15)⟩, ⟨(some 17), (some (16, true)), .fieldAddr 1 (T 3)⟩, ⟨(some 18), (some (16, true)), .loadN 2 (T 17)⟩, ⟨(some 19), (some (16, true)), .call (.func 114) [(T 18), (.const (.int .i64 (99)))]⟩, ⟨(some 20), none, .pick (T 16) (T 19) (.const (.bool false))⟩, ⟨(some 21), none, .mov (T 20)⟩, ⟨(some 22), (some (21, true)), .fieldAddr 3 (T 3)⟩, ⟨(some 23), (some (21, true)), .load1 (T 22)⟩, ⟨(some 24), (some (21, true)), .int2 .leq (.const (.int .i64 (0))) (T 23)⟩, ⟨(some 25), none, .pick (T 21) (T 24) (.const (.bool false))⟩, ⟨(some 26), none, .mov (T 25)⟩, ⟨(some 27), (some (26, true)), .fieldAddr 3 (T 3)⟩, ⟨(some 28), (some (26, true)), .load1 (T 27)⟩, ⟨(some 29), (some (26, true)), .int2 .leq (T 28) (.const (.int .i64 (99)))⟩, ⟨(some 30), none, .pick (T 26) (T 29) (.const (.bool false))⟩, ⟨(some 4), none, .mov (T 30)⟩]) .ret))
theorem fok116 : FnOk Try.prog 116 31 s116 [.tmp 4] := ⟨Try.f116, _, Try.func116, rfl, Try.ntmps116, by kernel_rfl, by kernel_rfl⟩
theorem isVat_c (hn : 2 ≤ n) (hr : h.next + 3 < far) {wv vv sv tv : Value} {S : MS} (hy : SteepR h wv vv sv S) (ht : oneCell tv = true) (b lo hi nd : Int) :
    ∃ r, (r = true ↔ (0 ≤ b ∧ b ≤ S.last) ∧ (0 ≤ lo ∧ lo ≤ hi ∧ hi ≤ 99) ∧ 0 ≤ nd ∧ nd ≤ 99) ∧ call n (.func (.func 116) ⟨[.agg ⟨wkL S wv vv sv tv⟩]⟩ #[]) [.agg ⟨[.int .i64 b, .int .i64 lo, .int .i64 hi, .int .i64 nd]⟩] h = some (.bool r, h) := by
  classical
  refine ⟨decide ((0 ≤ b ∧ b ≤ S.last) ∧ (0 ≤ lo ∧ lo ≤ hi ∧ hi ≤ 99) ∧ 0 ≤ nd ∧ nd ≤ 99), by simp, ?_⟩
  obtain ⟨n, rfl⟩ : ∃ p, n = p + 1 := ⟨n - 1, by omega⟩
  refine call_plain (xs := [.agg ⟨wkL S wv vv sv tv⟩]) (ys := []) fok116 rfl rfl (by simp) rfl ?_
  have hy := hy.shut
  have hr : h.shutAll.next + 3 < far := hr
  generalize h.shutAll = h at hy hr
  simp only [s116, List.cons_append, List.nil_append, List.append_nil, W_seq, W_ops]
  refine ops_box (cs := wkL S wv vv sv tv) (by omega) rfl (wk_one hy ht) fun g1 hx => ?_
  refine ops_box (cs := [.int .i64 b, .int .i64 lo, .int .i64 hi, .int .i64 nd]) (by rw [hx.next]; omega) rfl rfl fun g2 hx2 => ?_
  have n1 := hx.next
  have n2 := hx2.next
  have hrow := hx.row.mono hx2.sub
  have eu := isUpTo_c (n := n) (h := g2) (by omega) (by omega) lo hi 99
  by_cases c1 : 0 ≤ b
  case neg => simp only [rn0, rn1, rn2, reduceIte, Nat.reduceEqDiff, Nat.reduceAdd, Nat.reduceMul, Nat.reduceSub, Nat.reduceLeDiff, Nat.reduceLT, hrow.ld, wkg, hx2.ld, Nat.zero_add, List.getElem?_cons_zero, List.getElem?_cons_succ, c1, false_and]
  by_cases c2 : b ≤ S.last
  case neg => simp only [rn0, rn1, rn2, reduceIte, Nat.reduceEqDiff, Nat.reduceAdd, Nat.reduceMul, Nat.reduceSub, Nat.reduceLeDiff, Nat.reduceLT, hrow.ld, wkg, hx2.ld, Nat.zero_add, List.getElem?_cons_zero, List.getElem?_cons_succ, c1, c2, and_false, false_and]
  by_cases c3 : 0 ≤ lo ∧ lo ≤ hi ∧ hi ≤ 99
  case neg => simp only [rn0, rn1, rn2, reduceIte, Nat.reduceEqDiff, Nat.reduceAdd, Nat.reduceMul, Nat.reduceSub, Nat.reduceLeDiff, Nat.reduceLT, hrow.ld, wkg, hx2.ld, hx2.ldN 1 2 (by simp) (by simp), List.drop_succ_cons, List.drop_zero, List.take_succ_cons, List.take_zero, Nat.zero_add, List.getElem?_cons_zero, List.getElem?_cons_succ, c1, c2, eu, c3, and_false, false_and]
  by_cases c4 : 0 ≤ nd <;> by_cases c5 : nd ≤ 99 <;> simp only [rn0, rn1, rn2, reduceIte, Nat.reduceEqDiff, Nat.reduceAdd, Nat.reduceMul, Nat.reduceSub, Nat.reduceLeDiff, Nat.reduceLT, hrow.ld, wkg, hx2.ld, hx2.ldN 1 2 (by simp) (by simp), List.drop_succ_cons, List.drop_zero, List.take_succ_cons, List.take_zero, Nat.zero_add, List.getElem?_cons_zero, List.getElem?_cons_succ, c1, c2, eu, c3, c4, c5, and_self, and_false, false_and]
def s118 : SCode := (.seq (.ops [⟨(some 2), none, .box (T 0)⟩, ⟨(some 3), none, .box (T 1)⟩, ⟨(some 4), none, .mov (.const (.bool false))⟩]) (.seq (.ops [⟨(some 5), none, .loadN 8 (T 2)⟩, ⟨(some 6), none, .fieldAddr 0 (T 3)⟩, ⟨(some 7), none, .load1 (T 6)⟩, ⟨(some 8), none, .call (.func 119) [(T 5), (T 7)]⟩, ⟨(some 9), none, .mov (T 8)⟩, ⟨(some 10), (some (9, true)), .loadN 8 (T 2)⟩, ⟨(some 11), (some (9, true)), .fieldAddr 0 (T 3)⟩, ⟨(some 12), (some (9, true)), .load1 (T 11)⟩, ⟨(some 13), (some (9, true)), .fieldAddr 1 (T 3)⟩, ⟨(some 14), (some (9, true)), .load1 (T 13)⟩, ⟨(some 15), (some (9, true)), .call (.func 122) [(T 10), (T 12), (T 14)]⟩, ⟨(some 16), none, .pick (T 9) (T 15) (.const (.bool false))⟩, ⟨(some 17), none, .mov (T 16)⟩, ⟨(some 18), (some (17, true)), .fieldAddr 2 (T 3)⟩, ⟨(some 19), (some (17, true)), .load1 (T 18)⟩, ⟨(some 20), (some (17, true)), .int2 .leq (.const (.int .i64 (0))) (T 19)⟩, ⟨(some 21), none, .pick (T 17) (T 20) (.const (.bool false))⟩, ⟨(some 22), none, .mov (T 21)⟩, ⟨(some 23), (some (22, true)), .fieldAddr 2 (T 3)⟩, ⟨(some 24), (some (22, true)), .load1 (T 23)⟩, ⟨(some 25), (some (22, true)), .int2 .leq (T 24) (.const (.int .i64 (2)))⟩, ⟨(some 26), none, .pick (T 22) (T 25) (.const (.bool false))⟩, ⟨(some 4), none, .mov (T 26)⟩]) .ret))
theorem fok118 : FnOk Try.prog 118 27 s118 [.tmp 4] := ⟨Try.f118, _, Try.func118, rfl, Try.ntmps118, by kernel_rfl, by kernel_rfl⟩
theorem isSmell_c (hn : 2 ≤ n) (hr : h.next + 3 < far) {wv vv sv tv : Value} {S : MS} (hy : SteepR h wv vv sv S) (ht : oneCell tv = true) (v hh k : Int) :
    ∃ r, (r = true ↔ (0 ≤ v ∧ v ≤ (S.nv : Int) - 1) ∧ (S.vb v.toNat ≤ hh ∧ hh ≤ S.last) ∧ 0 ≤ k ∧ k ≤ 2) ∧ call n (.func (.func 118) ⟨[.agg ⟨wkL S wv vv sv tv⟩]⟩ #[]) [.agg ⟨[.int .i64 v, .int .i64 hh, .int .i64 k]⟩] h = some (.bool r, h) := by
  classical
  refine ⟨decide ((0 ≤ v ∧ v ≤ (S.nv : Int) - 1) ∧ (S.vb v.toNat ≤ hh ∧ hh ≤ S.last) ∧ 0 ≤ k ∧ k ≤ 2), by simp, ?_⟩
  obtain ⟨n, rfl⟩ : ∃ p, n = p + 1 := ⟨n - 1, by omega⟩
  refine call_plain (xs := [.agg ⟨wkL S wv vv sv tv⟩]) (ys := []) fok118 rfl rfl (by simp) rfl ?_
  have hy := hy.shut
  have hr : h.shutAll.next + 3 < far := hr
  generalize h.shutAll = h at hy hr
  simp only [s118, List.cons_append, List.nil_append, List.append_nil, W_seq, W_ops]
  refine ops_box (cs := wkL S wv vv sv tv) (by omega) rfl (wk_one hy ht) fun g1 hx => ?_
  refine ops_box (cs := [.int .i64 v, .int .i64 hh, .int .i64 k]) (by rw [hx.next]; omega) rfl rfl fun g2 hx2 => ?_
  have n1 := hx.next
  have n2 := hx2.next
  have w1 := (hx.row.mono hx2.sub).whole (n := 8) rfl
  have hy2 := (hy.mono hx.sub).mono hx2.sub
  have e1 := hasVat_c (n := n) (h := g2) (by omega) (by omega) hy2 ht v
  by_cases c1 : 0 ≤ v ∧ v ≤ (S.nv : Int) - 1
  case neg => simp only [rn0, rn1, rn2, reduceIte, Nat.reduceEqDiff, Nat.reduceAdd, Nat.reduceMul, Nat.reduceSub, Nat.reduceLeDiff, Nat.reduceLT, w1, hx2.ld, Nat.zero_add, List.getElem?_cons_zero, List.getElem?_cons_succ, e1, c1, false_and]
  have hvn : ((v.toNat : Nat) : Int) = v := by omega
  have e2 := hasHour_c (n := n) (h := g2) (by omega) (by omega) hy2 ht (v := v.toNat) (by omega) hh
  rw [hvn] at e2
  by_cases c2 : S.vb v.toNat ≤ hh ∧ hh ≤ S.last
  case neg => simp only [rn0, rn1, rn2, reduceIte, Nat.reduceEqDiff, Nat.reduceAdd, Nat.reduceMul, Nat.reduceSub, Nat.reduceLeDiff, Nat.reduceLT, w1, hx2.ld, Nat.zero_add, List.getElem?_cons_zero, List.getElem?_cons_succ, e1, c1, e2, c2, and_false, false_and]
  by_cases c4 : 0 ≤ k <;> by_cases c5 : k ≤ 2 <;> simp only [rn0, rn1, rn2, reduceIte, Nat.reduceEqDiff, Nat.reduceAdd, Nat.reduceMul, Nat.reduceSub, Nat.reduceLeDiff, Nat.reduceLT, w1, hx2.ld, Nat.zero_add, List.getElem?_cons_zero, List.getElem?_cons_succ, e1, c1, e2, c2, c4, c5, and_self, and_false, false_and]
def Cond (n : Nat) (h : AHeap) (k : Nat) (ok : Value) (m : Nat) (elem : Nat → Value) (p : Nat → Prop) : Prop :=
  ∀ g, Sub All h g → g.next ≤ h.next + k → ∀ i, i < m → ∃ b, (b = true ↔ p i) ∧ call n ok [elem i] g = some (.bool b, g)
def s112 : SCode := (.seq (.ops [⟨(some 4), none, .mov (.const (.bool false))⟩]) (.seq (.seq (.ops [⟨(some 7), none, .mov (T 0)⟩, ⟨(some 8), none, .len (T 7)⟩, ⟨(some 9), none, .mov (.const (.int .i64 (0)))⟩]) (.block 0 (.loop (.seq (.ops [⟨(some 10), none, .int2 .lss (T 9) (T 8)⟩]) (.seq (.cond (T 10) .skip (.exit 0)) (.seq (.block 1 (.seq (.ops [⟨(some 11), none, .idxSl 2 (T 7) (T 9)⟩, ⟨(some 12), none, .loadN 2 (T 11)⟩, ⟨(some 6), none, .alloc [(.int .i64 (0)), (.int .i64 (0))]⟩, ⟨none, none, .store 2 (T 6) (T 12)⟩]) (.seq (.ops [⟨(some 13), none, .mov (T 1)⟩, ⟨(some 14), none, .loadN 2 (T 6)⟩, ⟨(some 15), none, .call (T 13) [(T 14)]⟩, ⟨(some 16), none, .not (T 15)⟩]) (.cond (T 16) (.seq (.ops [⟨(some 4), none, .mov (.const (.bool false))⟩]) .ret) .skip)))) (.ops [⟨(some 17), none, .int2 .add (T 9) (.const (.int .i64 (1)))⟩, ⟨(some 9), none, .mov (T 17)⟩]))))))) (.seq (.ops [⟨(some 4), none, .mov (.const (.bool true))⟩]) .ret)))
theorem fok112 : FnOk Try.prog 112 18 s112 [.tmp 4] := ⟨Try.f112, _, Try.func112, rfl, Try.ntmps112, by kernel_rfl, by kernel_rfl⟩
open Classical in
theorem everyRange_c (hn : 100 ≤ n) (hr : h.next + 60 < far) {v ok : Value} {m : Nat} {lo hi : Nat → Int} {p : Nat → Prop} (hv : Ranges h v m lo hi) (hm : m ≤ 30) (hok : Cond (n - 1) h.shutAll 40 ok m (fun i => .agg ⟨[.int .i64 (lo i), .int .i64 (hi i)]⟩) p) :
    call n (.func (.func 112) #[] #[]) [v, ok] h = some (.bool (decide (∀ i, i < m → p i)), h) := by
  obtain ⟨n, rfl⟩ : ∃ p, n = p + 1 := ⟨n - 1, by omega⟩
  refine call_plain0 fok112 rfl rfl (by simp) rfl ?_
  have hv := Cells.shut hv
  have hr : h.shutAll.next + 60 < far := hr
  have hfl : h.shutAll.floor ≤ h.shutAll.next := Nat.le_refl _
  rw [Nat.add_sub_cancel] at hok
  generalize h.shutAll = h at hv hok hr hfl
  simp only [rn0, rn1, rn2, reduceIte, Nat.reduceEqDiff, Nat.reduceAdd, Nat.reduceMul, Nat.reduceSub, Nat.reduceLeDiff, Nat.reduceLT, s112, Cells.len hv]
  refine W_loop m (fun k f g m' => (Sub All h g ∧ g.next = h.next + k ∧ g.floor = h.floor) ∧ m' = [] ∧ f 1 = ok ∧ f 7 = v ∧ f 8 = .int .i64 (m : Int) ∧ f 9 = .int .i64 (k : Int) ∧ ∀ i, i < k → p i) (by simp; omega) ?_ ?_ ?_
  · simp only [rn0, rn1, rn2, reduceIte, Nat.reduceEqDiff, Nat.reduceAdd, Nat.reduceMul, Nat.reduceSub, Nat.reduceLeDiff, Nat.reduceLT, Nat.not_lt_zero, false_implies, implies_true, Nat.add_zero]
    trivial
  · rintro k f g m' hk ⟨⟨g1, g2, g3⟩, rfl, f1, f7, f8, f9, hlt⟩
    have hk' : (k : Int) < (m : Int) := by omega
    have hw : wrapF .i64 ((k : Int) + 1) = ((k + 1 : Nat) : Int) := by rw [wrap_in (by omega) (by omega)]; rfl
    have hvg := Cells.mono hv g1
    have hldk : loadAgg 2 g (ptrO v 2 k 0) = some (.agg ⟨[.int .i64 (lo k), .int .i64 (hi k)]⟩) := ranges_ld hvg hk
    simp only [rn0, rn1, rn2, reduceIte, Nat.reduceEqDiff, Nat.reduceAdd, Nat.reduceMul, Nat.reduceSub, Nat.reduceLeDiff, Nat.reduceLT, f1, f7, f8, f9, hk', Cells.idx hvg hk, hldk]
    refine step_new (vs := [.int .i64 (lo k), .int .i64 (hi k)]) (by omega) (by omega) rfl (by simp only [rn0, rn1, rn2, reduceIte, Nat.reduceEqDiff, Nat.reduceAdd, Nat.reduceMul, Nat.reduceSub, Nat.reduceLeDiff, Nat.reduceLT]; rfl) rfl rfl rfl fun g' hg' => ?_
    have hin : (Sub All h g' ∧ g'.next = h.next + (k + 1) ∧ g'.floor = h.floor) = True := eq_true ⟨g1.trans hg'.sub, by rw [hg'.next, g2]; omega, by rw [hg'.floor, g3]⟩
    obtain ⟨b, hb, e⟩ := hok g' (g1.trans hg'.sub) (by rw [hg'.next, g2]; omega) k hk
    have wh := hg'.row.whole (n := 2) rfl
    cases b with
    | true =>
      have hp : p k := hb.1 rfl
      simp only [rn0, rn1, rn2, reduceIte, Nat.reduceEqDiff, Nat.reduceAdd, Nat.reduceMul, Nat.reduceSub, Nat.reduceLeDiff, Nat.reduceLT, f1, f7, f8, f9, wh, e, hw, hin]
      intro j hj
      by_cases ej : j = k
      · subst ej; exact hp
      · exact hlt j (by omega)
    | false =>
      have hp : ¬ ∀ i, i < m → p i := fun h => by have := hb.2 (h k hk); cases this
      simp only [rn0, rn1, rn2, reduceIte, Nat.reduceEqDiff, Nat.reduceAdd, Nat.reduceMul, Nat.reduceSub, Nat.reduceLeDiff, Nat.reduceLT, f1, f7, f8, f9, wh, e, hw, hp]
  · rintro f g m' ⟨⟨g1, g2, g3⟩, rfl, f1, f7, f8, f9, hlt⟩
    simp only [rn0, rn1, rn2, reduceIte, Nat.reduceEqDiff, Nat.reduceAdd, Nat.reduceMul, Nat.reduceSub, Nat.reduceLeDiff, Nat.reduceLT, f1, f7, f8, f9, Int.lt_irrefl, eq_true hlt]
def s117 : SCode := (.seq (.ops [⟨(some 4), none, .mov (.const (.bool false))⟩]) (.seq (.seq (.ops [⟨(some 7), none, .mov (T 0)⟩, ⟨(some 8), none, .len (T 7)⟩, ⟨(some 9), none, .mov (.const (.int .i64 (0)))⟩]) (.block 0 (.loop (.seq (.ops [⟨(some 10), none, .int2 .lss (T 9) (T 8)⟩]) (.seq (.cond (T 10) .skip (.exit 0)) (.seq (.block 1 (.seq (.ops [⟨(some 11), none, .idxSl 3 (T 7) (T 9)⟩, ⟨(some 12), none, .loadN 3 (T 11)⟩, ⟨(some 6), none, .alloc [(.int .i64 (0)), (.int .i64 (0)), (.int .i64 (0))]⟩, ⟨none, none, .store 3 (T 6) (T 12)⟩]) (.seq (.ops [⟨(some 13), none, .mov (T 1)⟩, ⟨(some 14), none, .loadN 3 (T 6)⟩, ⟨(some 15), none, .call (T 13) [(T 14)]⟩, ⟨(some 16), none, .not (T 15)⟩]) (.cond (T 16) (.seq (.ops [⟨(some 4), none, .mov (.const (.bool false))⟩]) .ret) .skip)))) (.ops [⟨(some 17), none, .int2 .add (T 9) (.const (.int .i64 (1)))⟩, ⟨(some 9), none, .mov (T 17)⟩]))))))) (.seq (.ops [⟨(some 4), none, .mov (.const (.bool true))⟩]) .ret)))
theorem fok117 : FnOk Try.prog 117 18 s117 [.tmp 4] := ⟨Try.f117, _, Try.func117, rfl, Try.ntmps117, by kernel_rfl, by kernel_rfl⟩
open Classical in
theorem everySmell_c (hn : 100 ≤ n) (hr : h.next + 60 < far) {v ok : Value} {m : Nat} {a lo hi : Nat → Int} {p : Nat → Prop} (hv : Samps h v m a lo hi) (hm : m ≤ 30) (hok : Cond (n - 1) h.shutAll 40 ok m (fun i => .agg ⟨[.int .i64 (a i), .int .i64 (lo i), .int .i64 (hi i)]⟩) p) :
    call n (.func (.func 117) #[] #[]) [v, ok] h = some (.bool (decide (∀ i, i < m → p i)), h) := by
  obtain ⟨n, rfl⟩ : ∃ p, n = p + 1 := ⟨n - 1, by omega⟩
  refine call_plain0 fok117 rfl rfl (by simp) rfl ?_
  have hv := Cells.shut hv
  have hr : h.shutAll.next + 60 < far := hr
  have hfl : h.shutAll.floor ≤ h.shutAll.next := Nat.le_refl _
  rw [Nat.add_sub_cancel] at hok
  generalize h.shutAll = h at hv hok hr hfl
  simp only [rn0, rn1, rn2, reduceIte, Nat.reduceEqDiff, Nat.reduceAdd, Nat.reduceMul, Nat.reduceSub, Nat.reduceLeDiff, Nat.reduceLT, s117, Cells.len hv]
  refine W_loop m (fun k f g m' => (Sub All h g ∧ g.next = h.next + k ∧ g.floor = h.floor) ∧ m' = [] ∧ f 1 = ok ∧ f 7 = v ∧ f 8 = .int .i64 (m : Int) ∧ f 9 = .int .i64 (k : Int) ∧ ∀ i, i < k → p i) (by simp; omega) ?_ ?_ ?_
  · simp only [rn0, rn1, rn2, reduceIte, Nat.reduceEqDiff, Nat.reduceAdd, Nat.reduceMul, Nat.reduceSub, Nat.reduceLeDiff, Nat.reduceLT, Nat.not_lt_zero, false_implies, implies_true, Nat.add_zero]
    trivial
  · rintro k f g m' hk ⟨⟨g1, g2, g3⟩, rfl, f1, f7, f8, f9, hlt⟩
    have hk' : (k : Int) < (m : Int) := by omega
    have hw : wrapF .i64 ((k : Int) + 1) = ((k + 1 : Nat) : Int) := by rw [wrap_in (by omega) (by omega)]; rfl
    have hvg := Cells.mono hv g1
    have hldk : loadAgg 3 g (ptrO v 3 k 0) = some (.agg ⟨[.int .i64 (a k), .int .i64 (lo k), .int .i64 (hi k)]⟩) := samps_ld hvg hk
    simp only [rn0, rn1, rn2, reduceIte, Nat.reduceEqDiff, Nat.reduceAdd, Nat.reduceMul, Nat.reduceSub, Nat.reduceLeDiff, Nat.reduceLT, f1, f7, f8, f9, hk', Cells.idx hvg hk, hldk]
    refine step_new (vs := [.int .i64 (a k), .int .i64 (lo k), .int .i64 (hi k)]) (by omega) (by omega) rfl (by simp only [rn0, rn1, rn2, reduceIte, Nat.reduceEqDiff, Nat.reduceAdd, Nat.reduceMul, Nat.reduceSub, Nat.reduceLeDiff, Nat.reduceLT]; rfl) rfl rfl rfl fun g' hg' => ?_
    have hin : (Sub All h g' ∧ g'.next = h.next + (k + 1) ∧ g'.floor = h.floor) = True := eq_true ⟨g1.trans hg'.sub, by rw [hg'.next, g2]; omega, by rw [hg'.floor, g3]⟩
    obtain ⟨b, hb, e⟩ := hok g' (g1.trans hg'.sub) (by rw [hg'.next, g2]; omega) k hk
    have wh := hg'.row.whole (n := 3) rfl
    cases b with
    | true =>
      have hp : p k := hb.1 rfl
      simp only [rn0, rn1, rn2, reduceIte, Nat.reduceEqDiff, Nat.reduceAdd, Nat.reduceMul, Nat.reduceSub, Nat.reduceLeDiff, Nat.reduceLT, f1, f7, f8, f9, wh, e, hw, hin]
      intro j hj
      by_cases ej : j = k
      · subst ej; exact hp
      · exact hlt j (by omega)
    | false =>
      have hp : ¬ ∀ i, i < m → p i := fun h => by have := hb.2 (h k hk); cases this
      simp only [rn0, rn1, rn2, reduceIte, Nat.reduceEqDiff, Nat.reduceAdd, Nat.reduceMul, Nat.reduceSub, Nat.reduceLeDiff, Nat.reduceLT, f1, f7, f8, f9, wh, e, hw, hp]
  · rintro f g m' ⟨⟨g1, g2, g3⟩, rfl, f1, f7, f8, f9, hlt⟩
    simp only [rn0, rn1, rn2, reduceIte, Nat.reduceEqDiff, Nat.reduceAdd, Nat.reduceMul, Nat.reduceSub, Nat.reduceLeDiff, Nat.reduceLT, f1, f7, f8, f9, Int.lt_irrefl, eq_true hlt]
def s115 : SCode := (.seq (.ops [⟨(some 4), none, .mov (.const (.bool false))⟩]) (.seq (.seq (.ops [⟨(some 7), none, .mov (T 0)⟩, ⟨(some 8), none, .len (T 7)⟩, ⟨(some 9), none, .mov (.const (.int .i64 (0)))⟩]) (.block 0 (.loop (.seq (.ops [⟨(some 10), none, .int2 .lss (T 9) (T 8)⟩]) (.seq (.cond (T 10) .skip (.exit 0)) (.seq (.block 1 (.seq (.ops [⟨(some 11), none, .idxSl 4 (T 7) (T 9)⟩, ⟨(some 12), none, .loadN 4 (T 11)⟩, ⟨(some 6), none, .alloc [(.int .i64 (0)), (.int .i64 (0)), (.int .i64 (0)), (.int .i64 (0))]⟩, ⟨none, none, .store 4 (T 6) (T 12)⟩]) (.seq (.ops [⟨(some 13), none, .mov (T 1)⟩, ⟨(some 14), none, .loadN 4 (T 6)⟩, ⟨(some 15), none, .call (T 13) [(T 14)]⟩, ⟨(some 16), none, .not (T 15)⟩]) (.cond (T 16) (.seq (.ops [⟨(some 4), none, .mov (.const (.bool false))⟩]) .ret) .skip)))) (.ops [⟨(some 17), none, .int2 .add (T 9) (.const (.int .i64 (1)))⟩, ⟨(some 9), none, .mov (T 17)⟩]))))))) (.seq (.ops [⟨(some 4), none, .mov (.const (.bool true))⟩]) .ret)))
theorem fok115 : FnOk Try.prog 115 18 s115 [.tmp 4] := ⟨Try.f115, _, Try.func115, rfl, Try.ntmps115, by kernel_rfl, by kernel_rfl⟩
open Classical in
theorem everyVat_c (hn : 100 ≤ n) (hr : h.next + 60 < far) {v ok : Value} {m : Nat} {S : MS} {p : Nat → Prop} (hv : Cells h v 4 m (vatC S)) (hm : m ≤ 30) (hok : Cond (n - 1) h.shutAll 40 ok m (fun i => .agg ⟨[.int .i64 (S.vb i), .int .i64 (S.vlo i), .int .i64 (S.vhi i), .int .i64 (S.vn i)]⟩) p) :
    call n (.func (.func 115) #[] #[]) [v, ok] h = some (.bool (decide (∀ i, i < m → p i)), h) := by
  obtain ⟨n, rfl⟩ : ∃ p, n = p + 1 := ⟨n - 1, by omega⟩
  refine call_plain0 fok115 rfl rfl (by simp) rfl ?_
  have hv := Cells.shut hv
  have hr : h.shutAll.next + 60 < far := hr
  have hfl : h.shutAll.floor ≤ h.shutAll.next := Nat.le_refl _
  rw [Nat.add_sub_cancel] at hok
  generalize h.shutAll = h at hv hok hr hfl
  simp only [rn0, rn1, rn2, reduceIte, Nat.reduceEqDiff, Nat.reduceAdd, Nat.reduceMul, Nat.reduceSub, Nat.reduceLeDiff, Nat.reduceLT, s115, Cells.len hv]
  refine W_loop m (fun k f g m' => (Sub All h g ∧ g.next = h.next + k ∧ g.floor = h.floor) ∧ m' = [] ∧ f 1 = ok ∧ f 7 = v ∧ f 8 = .int .i64 (m : Int) ∧ f 9 = .int .i64 (k : Int) ∧ ∀ i, i < k → p i) (by simp; omega) ?_ ?_ ?_
  · simp only [rn0, rn1, rn2, reduceIte, Nat.reduceEqDiff, Nat.reduceAdd, Nat.reduceMul, Nat.reduceSub, Nat.reduceLeDiff, Nat.reduceLT, Nat.not_lt_zero, false_implies, implies_true, Nat.add_zero]
    trivial
  · rintro k f g m' hk ⟨⟨g1, g2, g3⟩, rfl, f1, f7, f8, f9, hlt⟩
    have hk' : (k : Int) < (m : Int) := by omega
    have hw : wrapF .i64 ((k : Int) + 1) = ((k + 1 : Nat) : Int) := by rw [wrap_in (by omega) (by omega)]; rfl
    have hvg := Cells.mono hv g1
    have hldk : loadAgg 4 g (ptrO v 4 k 0) = some (.agg ⟨[.int .i64 (S.vb k), .int .i64 (S.vlo k), .int .i64 (S.vhi k), .int .i64 (S.vn k)]⟩) := by rw [Cells.ldN hvg hk (by omega) (by omega)]; simp [List.range_succ, vatC]
    simp only [rn0, rn1, rn2, reduceIte, Nat.reduceEqDiff, Nat.reduceAdd, Nat.reduceMul, Nat.reduceSub, Nat.reduceLeDiff, Nat.reduceLT, f1, f7, f8, f9, hk', Cells.idx hvg hk, hldk]
    refine step_new (vs := [.int .i64 (S.vb k), .int .i64 (S.vlo k), .int .i64 (S.vhi k), .int .i64 (S.vn k)]) (by omega) (by omega) rfl (by simp only [rn0, rn1, rn2, reduceIte, Nat.reduceEqDiff, Nat.reduceAdd, Nat.reduceMul, Nat.reduceSub, Nat.reduceLeDiff, Nat.reduceLT]; rfl) rfl rfl rfl fun g' hg' => ?_
    have hin : (Sub All h g' ∧ g'.next = h.next + (k + 1) ∧ g'.floor = h.floor) = True := eq_true ⟨g1.trans hg'.sub, by rw [hg'.next, g2]; omega, by rw [hg'.floor, g3]⟩
    obtain ⟨b, hb, e⟩ := hok g' (g1.trans hg'.sub) (by rw [hg'.next, g2]; omega) k hk
    have wh := hg'.row.whole (n := 4) rfl
    cases b with
    | true =>
      have hp : p k := hb.1 rfl
      simp only [rn0, rn1, rn2, reduceIte, Nat.reduceEqDiff, Nat.reduceAdd, Nat.reduceMul, Nat.reduceSub, Nat.reduceLeDiff, Nat.reduceLT, f1, f7, f8, f9, wh, e, hw, hin]
      intro j hj
      by_cases ej : j = k
      · subst ej; exact hp
      · exact hlt j (by omega)
    | false =>
      have hp : ¬ ∀ i, i < m → p i := fun h => by have := hb.2 (h k hk); cases this
      simp only [rn0, rn1, rn2, reduceIte, Nat.reduceEqDiff, Nat.reduceAdd, Nat.reduceMul, Nat.reduceSub, Nat.reduceLeDiff, Nat.reduceLT, f1, f7, f8, f9, wh, e, hw, hp]
  · rintro f g m' ⟨⟨g1, g2, g3⟩, rfl, f1, f7, f8, f9, hlt⟩
    simp only [rn0, rn1, rn2, reduceIte, Nat.reduceEqDiff, Nat.reduceAdd, Nat.reduceMul, Nat.reduceSub, Nat.reduceLeDiff, Nat.reduceLT, f1, f7, f8, f9, Int.lt_irrefl, eq_true hlt]
theorem args_iff {S : MS} : ArgsOk S ↔ HeadOk S ∧ WarmOk S ∧ VatOk S ∧ SmellOk S := ⟨fun h => ⟨h.head, h.warm, h.vat, h.smell⟩, fun ⟨a, b, c, d⟩ => ⟨a, b, c, d⟩⟩
noncomputable instance (S : MS) : Decidable (ArgsOk S) := Classical.propDecidable _
def s83 : SCode := (.seq (.ops [⟨(some 1), none, .box (T 0)⟩, ⟨(some 2), none, .mov (.const (.bool false))⟩]) (.seq (.ops [⟨(some 3), none, .fieldAddr 0 (T 1)⟩, ⟨(some 4), none, .fieldAddr 0 (T 3)⟩, ⟨(some 5), none, .load1 (T 4)⟩, ⟨(some 6), none, .int2 .leq (.const (.int .i64 (0))) (T 5)⟩, ⟨(some 7), none, .mov (T 6)⟩, ⟨(some 8), (some (7, true)), .fieldAddr 0 (T 1)⟩, ⟨(some 9), (some (7, true)), .fieldAddr 2 (T 8)⟩, ⟨(some 10), (some (7, true)), .load1 (T 9)⟩, ⟨(some 11), (some (7, true)), .len (T 10)⟩, ⟨(some 12), (some (7, true)), .fieldAddr 0 (T 1)⟩, ⟨(some 13), (some (7, true)), .fieldAddr 0 (T 12)⟩, ⟨(some 14), (some (7, true)), .load1 (T 13)⟩, ⟨(some 15), (some (7, true)), .int2 .add (T 14) (.const (.int .i64 (1)))⟩, ⟨(some 16), (some (7, true)), .int2 .eql (T 11) (T 15)⟩, ⟨(some 17), none, .pick (T 7) (T 16) (.const (.bool false))⟩, ⟨(some 18), none, .mov (T 17)⟩, ⟨(some 19), (some (18, true)), .fieldAddr 0 (T 1)⟩, ⟨(some 20), (some (18, true)), .fieldAddr 1 (T 19)⟩, ⟨(some 21), (some (18, true)), .load1 (T 20)⟩, ⟨(some 22), (some (18, true)), .int2 .leq (.const (.int .i64 (1))) (T 21)⟩, ⟨(some 23), none, .pick (T 18) (T 22) (.const (.bool false))⟩, ⟨(some 24), none, .mov (T 23)⟩, ⟨(some 25), (some (24, true)), .fieldAddr 0 (T 1)⟩, ⟨(some 26), (some (24, true)), .fieldAddr 1 (T 25)⟩, ⟨(some 27), (some (24, true)), .load1 (T 26)⟩, ⟨(some 28), (some (24, true)), .int2 .leq (T 27) (.const (.int .i64 (9)))⟩, ⟨(some 29), none, .pick (T 24) (T 28) (.const (.bool false))⟩, ⟨(some 30), none, .mov (T 29)⟩, ⟨(some 31), (some (30, true)), .fieldAddr 0 (T 1)⟩, ⟨(some 32), (some (30, true)), .fieldAddr 2 (T 31)⟩, ⟨(some 33), (some (30, true)), .load1 (T 32)⟩, ⟨(some 34), (some (30, true)), .call (.func 112) [(T 33), (.func 113)]⟩, ⟨(some 35), none, .pick (T 30) (T 34) (.const (.bool false))⟩, ⟨(some 36), none, .mov (T 35)⟩, ⟨(some 37), (some (36, true)), .fieldAddr 0 (T 1)⟩, ⟨(some 38), (some (36, true)), .fieldAddr 3 (T 37)⟩, ⟨(some 39), (some (36, true)), .loadN 2 (T 38)⟩, ⟨(some 40), (some (36, true)), .call (.func 114) [(T 39), (.const (.int .i64 (99)))]⟩, ⟨(some 41), none, .pick (T 36) (T 40) (.const (.bool false))⟩, ⟨(some 42), none, .mov (T 41)⟩, ⟨(some 43), (some (42, true)), .fieldAddr 0 (T 1)⟩, ⟨(some 44), (some (42, true)), .fieldAddr 5 (T 43)⟩, ⟨(some 45), (some (42, true)), .load1 (T 44)⟩, ⟨(some 46), (some (42, true)), .loadN 8 (T 1)⟩, ⟨(some 47), (some (42, true)), .mkfunc 116 [(T 46)] []⟩, ⟨(some 48), (some (42, true)), .call (.func 115) [(T 45), (T 47)]⟩, ⟨(some 49), none, .pick (T 42) (T 48) (.const (.bool false))⟩, ⟨(some 50), none, .mov (T 49)⟩, ⟨(some 51), (some (50, true)), .fieldAddr 0 (T 1)⟩, ⟨(some 52), (some (50, true)), .fieldAddr 6 (T 51)⟩, ⟨(some 53), (some (50, true)), .load1 (T 52)⟩, ⟨(some 54), (some (50, true)), .loadN 8 (T 1)⟩, ⟨(some 55), (some (50, true)), .mkfunc 118 [(T 54)] []⟩, ⟨(some 56), (some (50, true)), .call (.func 117) [(T 53), (T 55)]⟩, ⟨(some 57), none, .pick (T 50) (T 56) (.const (.bool false))⟩, ⟨(some 2), none, .mov (T 57)⟩]) .ret))
theorem fok83 : FnOk Try.prog 83 58 s83 [.tmp 2] := ⟨Try.f83, _, Try.func83, rfl, Try.ntmps83, by kernel_rfl, by kernel_rfl⟩
theorem isValid_c (hn : 110 ≤ n) (hr : h.next + 100 < far) {wv vv sv tv : Value} {S : MS} (hy : SteepR h wv vv sv S) (ht : oneCell tv = true) (hl : S.nw ≤ 30 ∧ S.nv ≤ 30 ∧ S.ns ≤ 30) (hla : S.last ≤ 5) :
    call n (.func (.func 83) #[] #[]) [.agg ⟨wkL S wv vv sv tv⟩] h = some (.bool (decide (ArgsOk S)), h) := by
  obtain ⟨n, rfl⟩ : ∃ p, n = p + 1 := ⟨n - 1, by omega⟩
  refine call_plain0 fok83 rfl rfl (by simp) rfl ?_
  have hy := hy.shut
  have hr : h.shutAll.next + 100 < far := hr
  generalize h.shutAll = h at hy hr
  simp only [s83, W_seq, W_ops]
  refine ops_box (cs := wkL S wv vv sv tv) (by omega) rfl (wk_one hy ht) fun g1 hx => ?_
  have n1 := hx.next
  have r1 := hx.row
  have hy := hy.mono hx.sub
  have w1 := r1.whole (n := 8) rfl
  obtain ⟨l1, l2, l3⟩ := hl
  have eF := everyRange_c (n := n) (h := g1) (ok := .func (.func 113) #[] #[]) (p := fun i => 0 ≤ S.wlo i ∧ S.wlo i ≤ S.whi i ∧ S.whi i ≤ 9) (by omega) (by omega) hy.w l1 fun g _ (hg : g.next ≤ g1.next + 40) i hi => ⟨decide (0 ≤ S.wlo i ∧ S.wlo i ≤ S.whi i ∧ S.whi i ≤ 9), by simp, isWarm_c (by omega) (by omega) _ _⟩
  have eV := everyVat_c (n := n) (h := g1) (S := S) (ok := .func (.func 116) ⟨[.agg ⟨wkL S wv vv sv tv⟩]⟩ ⟨[]⟩) (p := fun i => (0 ≤ S.vb i ∧ S.vb i ≤ S.last) ∧ (0 ≤ S.vlo i ∧ S.vlo i ≤ S.vhi i ∧ S.vhi i ≤ 99) ∧ 0 ≤ S.vn i ∧ S.vn i ≤ 99) (by omega) (by omega) hy.v l2 fun g hs (hg : g.next ≤ g1.next + 40) i hi => isVat_c (by omega) (by omega) (hy.shut.mono hs) ht _ _ _ _
  have eS := everySmell_c (n := n) (h := g1) (ok := .func (.func 118) ⟨[.agg ⟨wkL S wv vv sv tv⟩]⟩ ⟨[]⟩) (p := fun i => (0 ≤ S.sv i ∧ S.sv i ≤ (S.nv : Int) - 1) ∧ (S.vb (S.sv i).toNat ≤ S.sh i ∧ S.sh i ≤ S.last) ∧ 0 ≤ S.sk i ∧ S.sk i ≤ 2) (by omega) (by omega) hy.s l3 fun g hs (hg : g.next ≤ g1.next + 40) i hi => isSmell_c (by omega) (by omega) (hy.shut.mono hs) ht _ _ _
  have eU := isUpTo_c (n := n) (h := g1) (by omega) (by omega) S.splo S.sphi 99
  have hA := args_iff (S := S)
  have no : ∀ {p : Prop}, (ArgsOk S → p) → ¬ p → decide (ArgsOk S) = false := fun h1 h2 => decide_eq_false fun e => h2 (h1 e)
  by_cases c1 : 0 ≤ S.last
  case neg =>
    have := no (fun e => e.head.1) c1
    simp only [rn0, rn1, rn2, reduceIte, Nat.reduceEqDiff, Nat.reduceAdd, Nat.reduceMul, Nat.reduceSub, Nat.reduceLeDiff, Nat.reduceLT, r1.ld, wkg, Nat.zero_add, c1, this]
  have hwl : wrapF .i64 (S.last + 1) = S.last + 1 := wrap_in (by omega) (by omega)
  by_cases c2 : (S.nw : Int) = S.last + 1
  case neg =>
    have := no (fun e => e.head.2.2.1) c2
    simp only [rn0, rn1, rn2, reduceIte, Nat.reduceEqDiff, Nat.reduceAdd, Nat.reduceMul, Nat.reduceSub, Nat.reduceLeDiff, Nat.reduceLT, r1.ld, wkg, Nat.zero_add, c1, Cells.len hy.w, hwl, c2, this]
  have d2 : decide ((S.nw : Int) = S.last + 1) = true := decide_eq_true c2
  by_cases c3 : 1 ≤ S.per
  case neg =>
    have := no (fun e => e.head.2.1.1) c3
    simp only [rn0, rn1, rn2, reduceIte, Nat.reduceEqDiff, Nat.reduceAdd, Nat.reduceMul, Nat.reduceSub, Nat.reduceLeDiff, Nat.reduceLT, r1.ld, wkg, Nat.zero_add, c1, Cells.len hy.w, hwl, d2, c3, this]
  by_cases c4 : S.per ≤ 9
  case neg =>
    have := no (fun e => e.head.2.1.2) c4
    simp only [rn0, rn1, rn2, reduceIte, Nat.reduceEqDiff, Nat.reduceAdd, Nat.reduceMul, Nat.reduceSub, Nat.reduceLeDiff, Nat.reduceLT, r1.ld, wkg, Nat.zero_add, c1, Cells.len hy.w, hwl, d2, c3, c4, this]
  by_cases c5 : WarmOk S
  case neg =>
    have := no (fun e => e.warm) c5
    have d5 : (∀ i, i < S.nw → 0 ≤ S.wlo i ∧ S.wlo i ≤ S.whi i ∧ S.whi i ≤ 9) = False := eq_false c5
    simp only [rn0, rn1, rn2, reduceIte, Nat.reduceEqDiff, Nat.reduceAdd, Nat.reduceMul, Nat.reduceSub, Nat.reduceLeDiff, Nat.reduceLT, r1.ld, wkg, Nat.zero_add, c1, Cells.len hy.w, hwl, d2, c3, c4, eF, d5, this]
  have d5 : (∀ i, i < S.nw → 0 ≤ S.wlo i ∧ S.wlo i ≤ S.whi i ∧ S.whi i ≤ 9) = True := eq_true c5
  by_cases c6 : 0 ≤ S.splo ∧ S.splo ≤ S.sphi ∧ S.sphi ≤ 99
  case neg =>
    have := no (fun e => e.head.2.2.2) c6
    simp only [rn0, rn1, rn2, reduceIte, Nat.reduceEqDiff, Nat.reduceAdd, Nat.reduceMul, Nat.reduceSub, Nat.reduceLeDiff, Nat.reduceLT, r1.ld, wkg, Nat.zero_add, c1, Cells.len hy.w, hwl, d2, c3, c4, eF, d5, wk_rng r1, eU, c6, this]
  by_cases c7 : VatOk S
  case neg =>
    have := no (fun e => e.vat) c7
    have d7 : (∀ i, i < S.nv → (0 ≤ S.vb i ∧ S.vb i ≤ S.last) ∧ (0 ≤ S.vlo i ∧ S.vlo i ≤ S.vhi i ∧ S.vhi i ≤ 99) ∧ 0 ≤ S.vn i ∧ S.vn i ≤ 99) = False := eq_false c7
    simp only [rn0, rn1, rn2, reduceIte, Nat.reduceEqDiff, Nat.reduceAdd, Nat.reduceMul, Nat.reduceSub, Nat.reduceLeDiff, Nat.reduceLT, r1.ld, wkg, Nat.zero_add, c1, Cells.len hy.w, hwl, d2, c3, c4, eF, d5, wk_rng r1, eU, c6, and_self, w1, eV, d7, this]
  have d7 : (∀ i, i < S.nv → (0 ≤ S.vb i ∧ S.vb i ≤ S.last) ∧ (0 ≤ S.vlo i ∧ S.vlo i ≤ S.vhi i ∧ S.vhi i ≤ 99) ∧ 0 ≤ S.vn i ∧ S.vn i ≤ 99) = True := eq_true c7
  by_cases c8 : SmellOk S
  · have : decide (ArgsOk S) = true := decide_eq_true (hA.2 ⟨⟨c1, ⟨c3, c4⟩, c2, c6⟩, c5, c7, c8⟩)
    have d8 : (∀ i, i < S.ns → (0 ≤ S.sv i ∧ S.sv i ≤ (S.nv : Int) - 1) ∧ (S.vb (S.sv i).toNat ≤ S.sh i ∧ S.sh i ≤ S.last) ∧ 0 ≤ S.sk i ∧ S.sk i ≤ 2) = True := eq_true c8
    simp only [rn0, rn1, rn2, reduceIte, Nat.reduceEqDiff, Nat.reduceAdd, Nat.reduceMul, Nat.reduceSub, Nat.reduceLeDiff, Nat.reduceLT, r1.ld, wkg, Nat.zero_add, c1, Cells.len hy.w, hwl, d2, c3, c4, eF, d5, wk_rng r1, eU, c6, and_self, w1, eV, d7, eS, d8, this]
  · have := no (fun e => e.smell) c8
    have d8 : (∀ i, i < S.ns → (0 ≤ S.sv i ∧ S.sv i ≤ (S.nv : Int) - 1) ∧ (S.vb (S.sv i).toNat ≤ S.sh i ∧ S.sh i ≤ S.last) ∧ 0 ≤ S.sk i ∧ S.sk i ≤ 2) = False := eq_false c8
    simp only [rn0, rn1, rn2, reduceIte, Nat.reduceEqDiff, Nat.reduceAdd, Nat.reduceMul, Nat.reduceSub, Nat.reduceLeDiff, Nat.reduceLT, r1.ld, wkg, Nat.zero_add, c1, Cells.len hy.w, hwl, d2, c3, c4, eF, d5, wk_rng r1, eU, c6, and_self, w1, eV, d7, eS, d8, this]

def cellU (S : MS) (u : Nat → Int) (j : Nat) : Int := if j < 6 then (if j < S.nw then u j else 0) else if j = 6 then u S.nw else if j - 7 < S.nv then u (S.nw + 1 + (j - 7)) else 0
def tarr (S : MS) (u : Nat → Int) : List Value := (List.range 11).map fun j => .int .i64 (cellU S u j)
def adr (S : MS) (i : Nat) : Nat := if i < S.nw then i else if i = S.nw then 6 else 7 + (i - S.nw - 1)
theorem tarr_one {S : MS} {u : Nat → Int} : allB oneCell (tarr S u) = true := by rw [allB_iff]; intro v hv; obtain ⟨i, _, rfl⟩ := List.mem_map.1 hv; rfl
theorem tarr_len {S : MS} {u : Nat → Int} : (tarr S u).length = 11 := by simp [tarr]
theorem tarr_get {S : MS} {u : Nat → Int} {j : Nat} (hj : j < 11) : (tarr S u)[j]? = some (.int .i64 (cellU S u j)) := by rw [tarr, List.getElem?_map, List.getElem?_range hj]; rfl
theorem adr_lt {S : MS} {i : Nat} (h1 : S.nw ≤ 6) (h2 : S.nv ≤ 4) (hi : i < numU S) : adr S i < 11 := by
  have h0 : numU S = S.nw + 1 + S.nv := rfl
  unfold adr
  by_cases c1 : i < S.nw
  · rw [if_pos c1]; omega
  · rw [if_neg c1]
    by_cases c2 : i = S.nw
    · rw [if_pos c2]; omega
    · rw [if_neg c2]; omega
theorem cell_adr {S : MS} {u : Nat → Int} {i : Nat} (h1 : S.nw ≤ 6) (hi : i < numU S) : cellU S u (adr S i) = u i := by
  have h0 : numU S = S.nw + 1 + S.nv := rfl
  unfold adr
  by_cases c1 : i < S.nw
  · have c2 : i < 6 := by omega
    simp only [if_pos c1, cellU, if_pos c2]
  · by_cases c2 : i = S.nw
    · simp [cellU, c2]
    · have e1 : ¬ 7 + (i - S.nw - 1) < 6 := by omega
      have e2 : ¬ 7 + (i - S.nw - 1) = 6 := by omega
      have e3 : 7 + (i - S.nw - 1) - 7 < S.nv := by omega
      have e4 : S.nw + 1 + (7 + (i - S.nw - 1) - 7) = i := by omega
      simp only [if_neg c1, if_neg c2, cellU, if_neg e1, if_neg e2, if_pos e3, e4]
def setU (u : Nat → Int) (i : Nat) (x : Int) (j : Nat) : Int := if j = i then x else u j
theorem tarr_set {S : MS} {u : Nat → Int} {i : Nat} {x : Int} (h1 : S.nw ≤ 6) (h2 : S.nv ≤ 4) (hi : i < numU S) : splice (tarr S u) (adr S i) [.int .i64 x] = tarr S (setU u i x) := by
  have h0 : numU S = S.nw + 1 + S.nv := rfl
  have ha := adr_lt h1 h2 hi
  refine map_splice (by simp; omega) (fun j hj hc => ?_) (fun j hj => ?_)
  · simp only [List.length_cons, List.length_nil] at hc
    congr 1
    have hne : j ≠ adr S i := by omega
    unfold adr at hne
    simp only [cellU]
    by_cases q1 : j < 6
    · rw [if_pos q1, if_pos q1]
      by_cases q2 : j < S.nw
      · rw [if_pos q2, if_pos q2]
        have : j ≠ i := fun e => hne (by subst e; rw [if_pos q2])
        rw [setU, if_neg this]
      · rw [if_neg q2, if_neg q2]
    · rw [if_neg q1, if_neg q1]
      by_cases q2 : j = 6
      · rw [if_pos q2, if_pos q2]
        have : S.nw ≠ i := fun e => hne (by subst e; rw [if_neg (by omega), if_pos rfl]; exact q2)
        rw [setU, if_neg this]
      · rw [if_neg q2, if_neg q2]
        by_cases q3 : j - 7 < S.nv
        · rw [if_pos q3, if_pos q3]
          have : S.nw + 1 + (j - 7) ≠ i := fun e => hne (by subst e; rw [if_neg (by omega), if_neg (by omega)]; omega)
          rw [setU, if_neg this]
        · rw [if_neg q3, if_neg q3]
  · simp only [List.length_cons, List.length_nil] at hj
    have : j = 0 := by omega
    subst this
    rw [Nat.add_zero, cell_adr h1 hi, setU, if_pos rfl]; rfl
def unkC (S : MS) (pb k j : Nat) : Value := if j = 0 then .pointer (some ⟨pb, adr S k, none⟩) else .int .i64 (if j = 1 then uLo S k else uHi S k)
theorem sl_unk {p : Option Addr} {a b : Int} : buildSl 3 1 [.pointer none, .int .i64 0, .int .i64 0] [0] h [.agg ⟨[.pointer p, .int .i64 a, .int .i64 b]⟩] = newSlice h [.pointer p, .int .i64 a, .int .i64 b] 1 1 0 := id rfl
theorem build_unk {p : Option Addr} {a b : Int} : buildA (fun x => (#[(0, 1), (1, 2)] : Array (Nat × Nat))[x]?) ⟨[.pointer none, .int .i64 0, .int .i64 0]⟩ [0, 1] h [.pointer p, .agg ⟨[.int .i64 a, .int .i64 b]⟩] = some (.agg ⟨[.pointer p, .int .i64 a, .int .i64 b]⟩, h) := id rfl
theorem unk_one {p : Option Addr} {a b : Int} : allB oneCell [.pointer p, .int .i64 a, .int .i64 b] = true := rfl
def GrowU (S : MS) (pb B : Nat) (h : AHeap) (v : Value) (k : Nat) : Prop := GrowC B h v 3 k (unkC S pb)
theorem GrowU.push {S : MS} {pb B k : Nat} {v : Value} {g1 : AHeap} (hg : GrowU S pb B h v k) (hB : h.floor ≤ B) (hf : h.next + 2 < far) (hBn : B ≤ h.next) (hk : k ≤ 30)
    (hx : New h g1 [.pointer (some ⟨pb, adr S k, none⟩), .int .i64 (uLo S k), .int .i64 (uHi S k)] 0) :
    ∃ v' g2, appendA 3 24 g1 v (.slice (some ⟨h.next, 0, none⟩) 1 1) = some (v', g2) ∧ GrowU S pb B g2 v' (k + 1) ∧ g2.next = h.next + 2 ∧ g2.floor = h.floor ∧ ∀ i, i < B → g2.get i = h.get i := by
  have hnx := hx.next
  have hfl := hx.floor
  have g1' : GrowC B g1 v 3 k (unkC S pb) := hg.sub hx.sub
  obtain ⟨v', g2, e, ev, gv, hk2⟩ := g1'.append (bytes := 24) (cap := 1) (by omega) (by omega) (by omega) hx.get rfl rfl (fun j hj => by
    obtain rfl | rfl | rfl : j = 0 ∨ j = 1 ∨ j = 2 := by omega
    all_goals rfl) (by simp [maxBytes]; omega) (by simp [maxBytes]; omega)
  refine ⟨v', g2, e, gv, by have := hk2.next; omega, by have := hk2.floor; omega, fun i hi => ?_⟩
  rw [hk2.old i (by omega) fun b m c e => by have := (g1'.block e).1; omega, hx.old i (by omega)]
theorem new_set {g a b : AHeap} {cs vs : List Value} {gr : Nat} (hx : New g a cs gr) (hs : Set1 a b g.next (splice cs 0 vs) gr) (hl : cs.length = vs.length) : New g b vs gr :=
  ⟨by rw [hs.get, splice_all hl], fun i hi => by rw [hs.old i (by omega), hx.old i hi], by rw [hs.next, hx.next], by rw [hs.floor, hx.floor]⟩
def s103 : SCode := (.seq (.ops [⟨(some 2), none, .box (T 0)⟩, ⟨(some 4), none, .mov (.const (.slice none 0 0))⟩]) (.seq (.ops [⟨(some 5), none, .mov (.const (.slice none 0 0))⟩]) (.seq (.seq (.ops [⟨(some 10), none, .fieldAddr 0 (T 2)⟩, ⟨(some 11), none, .fieldAddr 2 (T 10)⟩, ⟨(some 12), none, .load1 (T 11)⟩, ⟨(some 13), none, .len (T 12)⟩, ⟨(some 14), none, .mov (.const (.int .i64 (0)))⟩]) (.block 0 (.loop (.seq (.ops [⟨(some 15), none, .int2 .lss (T 14) (T 13)⟩]) (.seq (.cond (T 15) .skip (.exit 0)) (.seq (.block 1 (.seq (.ops [⟨(some 16), none, .mov (T 14)⟩, ⟨(some 17), none, .idxSl 2 (T 12) (T 14)⟩, ⟨(some 18), none, .loadN 2 (T 17)⟩, ⟨(some 7), none, .alloc [(.int .i64 (0)), (.int .i64 (0))]⟩, ⟨(some 6), none, .mov (T 16)⟩, ⟨none, none, .store 2 (T 7) (T 18)⟩]) (.draw [⟨.free, ⟨(some 19), none, .mov (T 5)⟩⟩, ⟨.free, ⟨(some 20), none, .mov (T 1)⟩⟩, ⟨.free, ⟨(some 21), none, .mov (T 6)⟩⟩, ⟨.free, ⟨(some 22), none, .there (T 20)⟩⟩, ⟨.free, ⟨(some 23), none, .fieldAddr 0 (T 22)⟩⟩, ⟨.free, ⟨(some 24), none, .idxArr 6 1 (T 23) (T 21)⟩⟩, ⟨.rd1, ⟨(some 25), none, .loadN 2 (T 7)⟩⟩, ⟨.free, ⟨(some 26), none, .build #[(0, 1), (1, 2)] [(.pointer none), (.int .i64 (0)), (.int .i64 (0))] [0, 1] [(T 24), (T 25)]⟩⟩, ⟨.any, ⟨(some 27), none, .bslice 3 1 [(.pointer none), (.int .i64 (0)), (.int .i64 (0))] [0] [(T 26)]⟩⟩, ⟨.any, ⟨(some 28), none, .append 3 24 (T 19) (T 27)⟩⟩, ⟨.free, ⟨(some 5), none, .mov (T 28)⟩⟩]))) (.ops [⟨(some 29), none, .int2 .add (T 14) (.const (.int .i64 (1)))⟩, ⟨(some 14), none, .mov (T 29)⟩]))))))) (.seq (.draw [⟨.free, ⟨(some 30), none, .mov (T 5)⟩⟩, ⟨.free, ⟨(some 31), none, .mov (T 1)⟩⟩, ⟨.free, ⟨(some 32), none, .there (T 31)⟩⟩, ⟨.free, ⟨(some 33), none, .fieldAddr 6 (T 32)⟩⟩, ⟨.free, ⟨(some 34), none, .fieldAddr 0 (T 2)⟩⟩, ⟨.free, ⟨(some 35), none, .fieldAddr 3 (T 34)⟩⟩, ⟨.rd1, ⟨(some 36), none, .loadN 2 (T 35)⟩⟩, ⟨.free, ⟨(some 37), none, .build #[(0, 1), (1, 2)] [(.pointer none), (.int .i64 (0)), (.int .i64 (0))] [0, 1] [(T 33), (T 36)]⟩⟩, ⟨.any, ⟨(some 38), none, .bslice 3 1 [(.pointer none), (.int .i64 (0)), (.int .i64 (0))] [0] [(T 37)]⟩⟩, ⟨.any, ⟨(some 39), none, .append 3 24 (T 30) (T 38)⟩⟩, ⟨.free, ⟨(some 5), none, .mov (T 39)⟩⟩]) (.seq (.seq (.ops [⟨(some 40), none, .fieldAddr 0 (T 2)⟩, ⟨(some 41), none, .fieldAddr 5 (T 40)⟩, ⟨(some 42), none, .load1 (T 41)⟩, ⟨(some 43), none, .len (T 42)⟩, ⟨(some 44), none, .mov (.const (.int .i64 (0)))⟩]) (.block 2 (.loop (.seq (.ops [⟨(some 45), none, .int2 .lss (T 44) (T 43)⟩]) (.seq (.cond (T 45) .skip (.exit 2)) (.seq (.block 3 (.seq (.ops [⟨(some 46), none, .mov (T 44)⟩, ⟨(some 47), none, .idxSl 4 (T 42) (T 44)⟩, ⟨(some 48), none, .loadN 4 (T 47)⟩, ⟨(some 9), none, .alloc [(.int .i64 (0)), (.int .i64 (0)), (.int .i64 (0)), (.int .i64 (0))]⟩, ⟨(some 8), none, .mov (T 46)⟩, ⟨none, none, .store 4 (T 9) (T 48)⟩]) (.draw [⟨.free, ⟨(some 49), none, .mov (T 5)⟩⟩, ⟨.free, ⟨(some 50), none, .mov (T 1)⟩⟩, ⟨.free, ⟨(some 51), none, .mov (T 8)⟩⟩, ⟨.free, ⟨(some 52), none, .there (T 50)⟩⟩, ⟨.free, ⟨(some 53), none, .fieldAddr 7 (T 52)⟩⟩, ⟨.free, ⟨(some 54), none, .idxArr 4 1 (T 53) (T 51)⟩⟩, ⟨.free, ⟨(some 55), none, .fieldAddr 1 (T 9)⟩⟩, ⟨.rd1, ⟨(some 56), none, .loadN 2 (T 55)⟩⟩, ⟨.free, ⟨(some 57), none, .build #[(0, 1), (1, 2)] [(.pointer none), (.int .i64 (0)), (.int .i64 (0))] [0, 1] [(T 54), (T 56)]⟩⟩, ⟨.any, ⟨(some 58), none, .bslice 3 1 [(.pointer none), (.int .i64 (0)), (.int .i64 (0))] [0] [(T 57)]⟩⟩, ⟨.any, ⟨(some 59), none, .append 3 24 (T 49) (T 58)⟩⟩, ⟨.free, ⟨(some 5), none, .mov (T 59)⟩⟩]))) (.ops [⟨(some 60), none, .int2 .add (T 44) (.const (.int .i64 (1)))⟩, ⟨(some 44), none, .mov (T 60)⟩]))))))) (.seq (.ops [⟨(some 61), none, .mov (T 5)⟩, ⟨(some 4), none, .mov (T 61)⟩]) .ret))))))
theorem fok103 : FnOk Try.prog 103 62 s103 [.tmp 4] := ⟨Try.f103, _, Try.func103, rfl, Try.ntmps103, by kernel_rfl, by kernel_rfl⟩
theorem unknowns_c (hn : 110 ≤ n) (hr : h.next + 200 < far) (hfl : h.floor ≤ h.next) {wv vv sv tv : Value} {S : MS} (hy : SteepR h wv vv sv S) (ht : oneCell tv = true) (h6 : S.nw ≤ 6) (h4 : S.nv ≤ 4) {pb : Nat} :
    ∃ v h', call n (.func (.func 103) #[] #[]) [.agg ⟨wkL S wv vv sv tv⟩, .pointer (some ⟨pb, 0, none⟩)] h = some (v, h') ∧ Cells h' v 3 (numU S) (unkC S pb) ∧ oneCell v = true ∧ (∀ i, i < h.next → h'.get i = h.get i) ∧ h.next ≤ h'.next ∧ h'.next ≤ h.next + 40 ∧ h'.floor = h.floor := by
  obtain ⟨n, rfl⟩ : ∃ p, n = p + 1 := ⟨n - 1, by omega⟩
  refine call_any0 fok103 rfl rfl (by simp) ?_
  simp only [s103, W_seq, W_ops]
  refine ops_box (cs := wkL S wv vv sv tv) (by omega) rfl (wk_one hy ht) fun g1 hx1 => ?_
  have n1 := hx1.next
  have f1' := hx1.floor
  have r1 := hx1.row
  have hy1 := hy.mono hx1.sub
  have old1 := hx1.old
  simp only [rn0, rn1, rn2, reduceIte, Nat.reduceEqDiff, Nat.reduceAdd, Nat.reduceMul, Nat.reduceSub, Nat.reduceLeDiff, Nat.reduceLT, r1.ld, wkg, Nat.zero_add, Cells.len hy1.w]
  refine W_loop S.nw (fun k f g ms => (∃ v, (∀ i, i < g1.next → g.get i = g1.get i) ∧ g.floor = g1.floor ∧ g1.next ≤ g.next ∧ g.next ≤ g1.next + 3 * k ∧ GrowU S pb g1.next g v k ∧ f 5 = v) ∧ ms = [] ∧ f 1 = .pointer (some ⟨pb, 0, none⟩) ∧ f 2 = .pointer (some ⟨h.next, 0, none⟩) ∧ f 12 = wv ∧ f 13 = .int .i64 (S.nw : Int) ∧ f 14 = .int .i64 (k : Int)) (by simp; omega) ?_ ?_ ?_
  · simp only [rn0, rn1, rn2, reduceIte, Nat.reduceEqDiff, Nat.reduceAdd, Nat.reduceMul, Nat.reduceSub, Nat.reduceLeDiff, Nat.reduceLT]
    exact ⟨⟨_, fun i _ => trivial, by omega, .nil, rfl⟩, rfl⟩
  · rintro k f g ms hk ⟨⟨v, hs, hfg, hup, hnx, gv, f5⟩, rfl, f1, f2, f12, f13, f14⟩
    have hk' : (k : Int) < (S.nw : Int) := by omega
    have hw : wrapF .i64 ((k : Int) + 1) = ((k + 1 : Nat) : Int) := by rw [wrap_in (by omega) (by omega)]; rfl
    have hyg := hy1.mono (AHeap.subOf hs)
    have ha : adr S k = k := by unfold adr; rw [if_pos hk]
    have hlo : uLo S k = S.wlo k := by unfold uLo; rw [if_pos hk]
    have hhi : uHi S k = S.whi k := by unfold uHi; rw [if_pos hk]
    simp only [rn0, rn1, rn2, reduceIte, Nat.reduceEqDiff, Nat.reduceAdd, Nat.reduceMul, Nat.reduceSub, Nat.reduceLeDiff, Nat.reduceLT, f1, f2, f5, f12, f13, f14, hk', Cells.idx hyg.w hk, ranges_ld hyg.w hk]
    refine step_row (cs := [.int .i64 0, .int .i64 0]) (by omega) rfl rfl fun g2a hx2a => ?_
    have n2a := hx2a.next
    have f2a := hx2a.floor
    simp only [rn0, rn1, rn2, reduceIte, Nat.reduceEqDiff, Nat.reduceAdd, Nat.reduceMul, Nat.reduceSub, Nat.reduceLeDiff, Nat.reduceLT]
    refine step_store (b := g.next) (off := 0) (vs := [.int .i64 (S.wlo k), .int .i64 (S.whi k)]) rfl hx2a.get (by omega) (by omega) rfl rfl rfl (by simp) fun g2 hs2 => ?_
    have hx2 := new_set hx2a hs2 rfl
    have n2 := hx2.next
    have f2' := hx2.floor
    have w2 := hx2.row.whole (n := 2) rfl
    simp only [rn0, rn1, rn2, reduceIte, Nat.reduceEqDiff, Nat.reduceAdd, Nat.reduceMul, Nat.reduceSub, Nat.reduceLeDiff, Nat.reduceLT]
    refine W_draw All ?_
    simp only [rn0, rn1, rn2, reduceIte, Nat.reduceEqDiff, Nat.reduceAdd, Nat.reduceMul, Nat.reduceSub, Nat.reduceLeDiff, Nat.reduceLT, f1, f2, f5, f12, f13, f14, there_p, fieldAt_p, idxArr_p (l := 6) (k := k) (by omega), Nat.zero_add, w2, build_unk, sl_unk]
    refine up_slice (by omega) unk_one (fun _ _ => trivial) fun g3 hx3 => ?_
    have n3 := hx3.next
    have hx3' : New g2 g3 [.pointer (some ⟨pb, adr S k, none⟩), .int .i64 (uLo S k), .int .i64 (uHi S k)] 0 := by rw [ha, hlo, hhi]; exact hx3
    obtain ⟨v', g4, e4, gv4, n4, f4', old4⟩ := GrowU.push (h := g2) (gv.sub hx2.sub) (by omega) (by omega) (by omega) (by omega) hx3'
    simp only [rn0, rn1, rn2, reduceIte, Nat.reduceEqDiff, Nat.reduceAdd, Nat.reduceMul, Nat.reduceSub, Nat.reduceLeDiff, Nat.reduceLT, f1, f2, f12, f13, f14, e4, hw]
    exact ⟨by omega, v', fun i hi => by rw [old4 i hi, hx2.old i (by omega), hs i hi], by omega, by omega, by omega, gv4, rfl⟩
  rintro f g ms ⟨⟨v, hs, hfg, hup, hnx, gv, f5⟩, rfl, f1, f2, f12, f13, f14⟩
  have rg := r1.mono (AHeap.subOf hs)
  have ha : adr S S.nw = 6 := by unfold adr; rw [if_neg (Nat.lt_irrefl _), if_pos rfl]
  have hlo : uLo S S.nw = S.splo := by unfold uLo; rw [if_neg (Nat.lt_irrefl _), if_pos rfl]
  have hhi : uHi S S.nw = S.sphi := by unfold uHi; rw [if_neg (Nat.lt_irrefl _), if_pos rfl]
  simp only [rn0, rn1, rn2, reduceIte, Nat.reduceEqDiff, Nat.reduceAdd, Nat.reduceMul, Nat.reduceSub, Nat.reduceLeDiff, Nat.reduceLT, f1, f2, f5, f12, f13, f14, Int.lt_irrefl]
  refine W_draw All ?_
  simp only [rn0, rn1, rn2, reduceIte, Nat.reduceEqDiff, Nat.reduceAdd, Nat.reduceMul, Nat.reduceSub, Nat.reduceLeDiff, Nat.reduceLT, f1, f2, f5, there_p, fieldAt_p, Nat.zero_add, wk_rng rg, build_unk, sl_unk]
  refine up_slice (by omega) unk_one (fun _ _ => trivial) fun g3 hx3 => ?_
  have n3 := hx3.next
  have hx3' : New g g3 [.pointer (some ⟨pb, adr S S.nw, none⟩), .int .i64 (uLo S S.nw), .int .i64 (uHi S S.nw)] 0 := by rw [ha, hlo, hhi]; exact hx3
  obtain ⟨v', g4, e4, gv4, n4, f4', old4⟩ := GrowU.push (h := g) gv (by omega) (by omega) (by omega) (by omega) hx3'
  have hs4 : ∀ i, i < g1.next → g4.get i = g1.get i := fun i hi => by rw [old4 i hi, hs i hi]
  have rg4 := r1.mono (AHeap.subOf hs4)
  have hy4 := hy1.mono (AHeap.subOf hs4)
  simp only [rn0, rn1, rn2, reduceIte, Nat.reduceEqDiff, Nat.reduceAdd, Nat.reduceMul, Nat.reduceSub, Nat.reduceLeDiff, Nat.reduceLT, f1, f2, e4, rg4.ld, wkg, Nat.zero_add, Cells.len hy4.v]
  refine ⟨by omega, ?_⟩
  refine W_loop S.nv (fun k f g ms => (∃ v, (∀ i, i < g1.next → g.get i = g1.get i) ∧ g.floor = g1.floor ∧ g1.next ≤ g.next ∧ g.next ≤ g1.next + 20 + 3 * k ∧ GrowU S pb g1.next g v (S.nw + 1 + k) ∧ f 5 = v) ∧ ms = [] ∧ f 1 = .pointer (some ⟨pb, 0, none⟩) ∧ f 2 = .pointer (some ⟨h.next, 0, none⟩) ∧ f 42 = vv ∧ f 43 = .int .i64 (S.nv : Int) ∧ f 44 = .int .i64 (k : Int)) (by simp; omega) ?_ ?_ ?_
  · simp only [rn0, rn1, rn2, reduceIte, Nat.reduceEqDiff, Nat.reduceAdd, Nat.reduceMul, Nat.reduceSub, Nat.reduceLeDiff, Nat.reduceLT, f1, f2]
    exact ⟨⟨v', hs4, by omega, by omega, by omega, gv4, rfl⟩, rfl⟩
  · rintro k f g ms hk ⟨⟨v, hs, hfg, hup, hnx, gv, f5⟩, rfl, f1, f2, f42, f43, f44⟩
    have hk' : (k : Int) < (S.nv : Int) := by omega
    have hw : wrapF .i64 ((k : Int) + 1) = ((k + 1 : Nat) : Int) := by rw [wrap_in (by omega) (by omega)]; rfl
    have hyg := hy1.mono (AHeap.subOf hs)
    have q1 : ¬ S.nw + 1 + k < S.nw := by omega
    have q2 : ¬ S.nw + 1 + k = S.nw := by omega
    have q3 : S.nw + 1 + k - S.nw - 1 = k := by omega
    have ha : adr S (S.nw + 1 + k) = 7 + k := by unfold adr; rw [if_neg q1, if_neg q2, q3]
    have hlo : uLo S (S.nw + 1 + k) = S.vlo k := by unfold uLo; rw [if_neg q1, if_neg q2, q3]
    have hhi : uHi S (S.nw + 1 + k) = S.vhi k := by unfold uHi; rw [if_neg q1, if_neg q2, q3]
    simp only [rn0, rn1, rn2, reduceIte, Nat.reduceEqDiff, Nat.reduceAdd, Nat.reduceMul, Nat.reduceSub, Nat.reduceLeDiff, Nat.reduceLT, f1, f2, f5, f42, f43, f44, hk', Cells.idx hyg.v hk, vat_ld hyg hk]
    refine step_row (cs := [.int .i64 0, .int .i64 0, .int .i64 0, .int .i64 0]) (by omega) rfl rfl fun g2a hx2a => ?_
    have n2a := hx2a.next
    have f2a := hx2a.floor
    simp only [rn0, rn1, rn2, reduceIte, Nat.reduceEqDiff, Nat.reduceAdd, Nat.reduceMul, Nat.reduceSub, Nat.reduceLeDiff, Nat.reduceLT]
    refine step_store (b := g.next) (off := 0) (vs := [.int .i64 (S.vb k), .int .i64 (S.vlo k), .int .i64 (S.vhi k), .int .i64 (S.vn k)]) rfl hx2a.get (by omega) (by omega) rfl rfl rfl (by simp) fun g2 hs2 => ?_
    have hx2 := new_set hx2a hs2 rfl
    have n2 := hx2.next
    have f2' := hx2.floor
    simp only [rn0, rn1, rn2, reduceIte, Nat.reduceEqDiff, Nat.reduceAdd, Nat.reduceMul, Nat.reduceSub, Nat.reduceLeDiff, Nat.reduceLT]
    refine W_draw All ?_
    simp only [rn0, rn1, rn2, reduceIte, Nat.reduceEqDiff, Nat.reduceAdd, Nat.reduceMul, Nat.reduceSub, Nat.reduceLeDiff, Nat.reduceLT, f1, f2, f5, f42, f43, f44, there_p, fieldAt_p, idxArr_p (l := 4) (k := k) (by omega), Nat.zero_add, hx2.ldN 1 2 (by simp) (by simp), List.drop_succ_cons, List.drop_zero, List.take_succ_cons, List.take_zero, build_unk, sl_unk]
    refine up_slice (by omega) unk_one (fun _ _ => trivial) fun g3 hx3 => ?_
    have n3 := hx3.next
    have hx3' : New g2 g3 [.pointer (some ⟨pb, adr S (S.nw + 1 + k), none⟩), .int .i64 (uLo S (S.nw + 1 + k)), .int .i64 (uHi S (S.nw + 1 + k))] 0 := by rw [ha, hlo, hhi]; exact hx3
    obtain ⟨v', g4, e4, gv4, n4, f4', old4⟩ := GrowU.push (h := g2) (gv.sub hx2.sub) (by omega) (by omega) (by omega) (by omega) hx3'
    simp only [rn0, rn1, rn2, reduceIte, Nat.reduceEqDiff, Nat.reduceAdd, Nat.reduceMul, Nat.reduceSub, Nat.reduceLeDiff, Nat.reduceLT, f1, f2, f42, f43, f44, e4, hw]
    exact ⟨by omega, v', fun i hi => by rw [old4 i hi, hx2.old i (by omega), hs i hi], by omega, by omega, by omega, gv4, rfl⟩
  · rintro f g ms ⟨⟨v, hs, hfg, hup, hnx, gv, f5⟩, rfl, f1, f2, f42, f43, f44⟩
    simp only [rn0, rn1, rn2, reduceIte, Nat.reduceEqDiff, Nat.reduceAdd, Nat.reduceMul, Nat.reduceSub, Nat.reduceLeDiff, Nat.reduceLT, f1, f2, f5, f42, f43, f44, Int.lt_irrefl]
    exact ⟨gv.cells, gv.one, fun i hi => by rw [hs i (by omega), old1 i hi], by omega, by omega, by omega⟩

def z11 : List Value := [.int .i64 0, .int .i64 0, .int .i64 0, .int .i64 0, .int .i64 0, .int .i64 0, .int .i64 0, .int .i64 0, .int .i64 0, .int .i64 0, .int .i64 0]
theorem build_z11 {pl : Nat → Option (Nat × Nat)} : buildA pl ⟨[.int .i64 0, .int .i64 0, .int .i64 0, .int .i64 0, .int .i64 0, .int .i64 0, .int .i64 0, .int .i64 0, .int .i64 0, .int .i64 0, .int .i64 0]⟩ [] h [] = some (.agg ⟨z11⟩, h) := id rfl
theorem build_wk' {a b w c d v s : Value} : buildA (fun x => (#[(0, 7), (7, 1)] : Array (Nat × Nat))[x]?) ⟨[.int .i64 0, .int .i64 0, .slice none 0 0, .int .i64 0, .int .i64 0, .slice none 0 0, .slice none 0 0, .slice none 0 0]⟩ [0] h [.agg ⟨[a, b, w, c, d, v, s]⟩] = some (.agg ⟨[a, b, w, c, d, v, s, .slice none 0 0]⟩, h) := by
  unfold buildA
  have e : Instr.fill (fun x => (#[(0, 7), (7, 1)] : Array (Nat × Nat))[x]?) #[.int .i64 0, .int .i64 0, .slice none 0 0, .int .i64 0, .int .i64 0, .slice none 0 0, .slice none 0 0, .slice none 0 0] ([0].zip [.agg ⟨[a, b, w, c, d, v, s]⟩]) = some #[a, b, w, c, d, v, s, .slice none 0 0] := by
    simp [Instr.fill, Value.cells]
  rw [e]
theorem build_wk {S : MS} {a b c : Value} : buildA (fun x => (#[(0, 7), (7, 1)] : Array (Nat × Nat))[x]?) ⟨[.int .i64 0, .int .i64 0, .slice none 0 0, .int .i64 0, .int .i64 0, .slice none 0 0, .slice none 0 0, .slice none 0 0]⟩ [0] h [.agg ⟨stL S a b c⟩] = some (.agg ⟨wkL S a b c nilS⟩, h) := build_wk'
theorem size_bound {S : MS} (hL : LimOk S) (hA : ArgsOk S) {i : Nat} (hi : i ≤ numU S) : 1 ≤ sizeN (uLo S) (uHi S) i ∧ sizeN (uLo S) (uHi S) i ≤ 10000000000000000 := by
  have h0 : numU S = S.nw + 1 + S.nv := rfl
  obtain ⟨b1, _, b4, b5, b6, b7⟩ := hA.head
  obtain ⟨l1, l2, l3⟩ := hL
  have h6 : S.nw ≤ 6 := by omega
  have hu : ∀ k, k < numU S → uLo S k ≤ uHi S k ∧ uHi S k - uLo S k + 1 ≤ 100 := fun k hk => by
    simp only [uLo, uHi]
    by_cases c1 : k < S.nw
    · rw [if_pos c1, if_pos c1]; have := hA.warm k c1; omega
    · rw [if_neg c1, if_neg c1]
      by_cases c2 : k = S.nw
      · rw [if_pos c2, if_pos c2]; omega
      · rw [if_neg c2, if_neg c2]; have := (hA.vat (k - S.nw - 1) (by omega)).2.1; omega
  have hw : ∀ k, k < S.nw → uLo S k ≤ uHi S k ∧ uHi S k - uLo S k + 1 ≤ 10 := fun k hk => by
    simp only [uLo, uHi, if_pos hk]; have := hA.warm k hk; omega
  refine ⟨sizeN_pos i fun k hk => (hu k (by omega)).1, ?_⟩
  have p10 : ∀ m : Fin 7, (10 : Int) ^ (m : Nat) ≤ 1000000 := by decide
  have p100 : ∀ m : Fin 6, (100 : Int) ^ (m : Nat) ≤ 10000000000 := by decide
  by_cases c : i ≤ S.nw
  · have h1 := sizeN_le (B := 10) (by omega) i fun k hk => hw k (by omega)
    have h2 := p10 ⟨i, by omega⟩
    have h2 : (10 : Int) ^ i ≤ 1000000 := h2
    omega
  · obtain ⟨m, rfl⟩ : ∃ m, i = S.nw + m := ⟨i - S.nw, by omega⟩
    rw [sizeN_split]
    have h1 := sizeN_le (B := 10) (by omega) S.nw fun k hk => hw k (by omega)
    have h2 : (10 : Int) ^ S.nw ≤ 1000000 := p10 ⟨S.nw, by omega⟩
    have h3 := sizeN_le (lo := fun k => uLo S (S.nw + k)) (hi := fun k => uHi S (S.nw + k)) (B := 100) (by omega) m fun k hk => hu (S.nw + k) (by omega)
    have h4 : (100 : Int) ^ m ≤ 10000000000 := p100 ⟨m, by omega⟩
    have h5 := sizeN_pos (lo := fun k => uLo S (S.nw + k)) (hi := fun k => uHi S (S.nw + k)) m fun k hk => (hu (S.nw + k) (by omega)).1
    have h6 : sizeN (uLo S) (uHi S) S.nw * sizeN (fun k => uLo S (S.nw + k)) (fun k => uHi S (S.nw + k)) m ≤ 1000000 * 10000000000 := Int.mul_le_mul (by omega) (by omega) (by omega) (by omega)
    omega
theorem unk_ld {v : Value} {S : MS} {pb m k : Nat} (hv : Cells h v 3 m (unkC S pb)) (hk : k < m) : loadAgg 3 h (ptrO v 3 k 0) = some (.agg ⟨[.pointer (some ⟨pb, adr S k, none⟩), .int .i64 (uLo S k), .int .i64 (uHi S k)]⟩) := by
  rw [Cells.ldN hv hk (by omega) (by omega)]; simp [List.range_succ, unkC]
def s84 : SCode := (.seq (.ops [⟨(some 1), none, .box (T 0)⟩, ⟨(some 2), none, .mov (.const (.int .i64 (0)))⟩]) (.seq (.ops [⟨(some 3), none, .mov (.const (.int .i64 (1)))⟩]) (.seq (.seq (.ops [⟨(some 6), none, .loadN 8 (T 1)⟩, ⟨(some 7), none, .build #[(0, 6), (6, 1), (7, 4)] [(.int .i64 (0)), (.int .i64 (0)), (.int .i64 (0)), (.int .i64 (0)), (.int .i64 (0)), (.int .i64 (0)), (.int .i64 (0)), (.int .i64 (0)), (.int .i64 (0)), (.int .i64 (0)), (.int .i64 (0))] [] []⟩, ⟨(some 8), none, .box (T 7)⟩, ⟨(some 9), none, .call (.func 103) [(T 6), (T 8)]⟩, ⟨(some 10), none, .len (T 9)⟩, ⟨(some 11), none, .mov (.const (.int .i64 (0)))⟩]) (.block 0 (.loop (.seq (.ops [⟨(some 12), none, .int2 .lss (T 11) (T 10)⟩]) (.seq (.cond (T 12) .skip (.exit 0)) (.seq (.block 1 (.seq (.ops [⟨(some 13), none, .idxSl 3 (T 9) (T 11)⟩, ⟨(some 14), none, .loadN 3 (T 13)⟩, ⟨(some 5), none, .alloc [(.pointer none), (.int .i64 (0)), (.int .i64 (0))]⟩, ⟨none, none, .store 3 (T 5) (T 14)⟩]) (.ops [⟨(some 15), none, .mov (T 3)⟩, ⟨(some 16), none, .fieldAddr 1 (T 5)⟩, ⟨(some 17), none, .fieldAddr 1 (T 16)⟩, ⟨(some 18), none, .load1 (T 17)⟩, ⟨(some 19), none, .fieldAddr 1 (T 5)⟩, ⟨(some 20), none, .fieldAddr 0 (T 19)⟩, ⟨(some 21), none, .load1 (T 20)⟩, ⟨(some 22), none, .int2 .sub (T 18) (T 21)⟩, ⟨(some 23), none, .int2 .add (T 22) (.const (.int .i64 (1)))⟩, ⟨(some 24), none, .int2 .mul (T 15) (T 23)⟩, ⟨(some 3), none, .mov (T 24)⟩]))) (.ops [⟨(some 25), none, .int2 .add (T 11) (.const (.int .i64 (1)))⟩, ⟨(some 11), none, .mov (T 25)⟩]))))))) (.seq (.ops [⟨(some 26), none, .mov (T 3)⟩, ⟨(some 2), none, .mov (T 26)⟩]) .ret))))
theorem fok84 : FnOk Try.prog 84 27 s84 [.tmp 2] := ⟨Try.f84, _, Try.func84, rfl, Try.ntmps84, by kernel_rfl, by kernel_rfl⟩
theorem sizeW_c (hn : 120 ≤ n) (hr : h.next + 300 < far) {wv vv sv tv : Value} {S : MS} (hy : SteepR h wv vv sv S) (ht : oneCell tv = true) (hL : LimOk S) (hA : ArgsOk S) :
    call n (.func (.func 84) #[] #[]) [.agg ⟨wkL S wv vv sv tv⟩] h = some (.int .i64 (sizeN (uLo S) (uHi S) (numU S)), h) := by
  obtain ⟨n, rfl⟩ : ∃ p, n = p + 1 := ⟨n - 1, by omega⟩
  refine call_plain0 fok84 rfl rfl (by simp) rfl ?_
  have hy := hy.shut
  have hr : h.shutAll.next + 300 < far := hr
  have hfl : h.shutAll.floor ≤ h.shutAll.next := Nat.le_refl _
  generalize h.shutAll = h at hy hr hfl
  have h0 : numU S = S.nw + 1 + S.nv := rfl
  obtain ⟨b1, _, b4, b5, b6, b7⟩ := hA.head
  obtain ⟨l1, l2, l3⟩ := id hL
  simp only [s84, W_seq, W_ops]
  refine ops_box (cs := wkL S wv vv sv tv) (by omega) rfl (wk_one hy ht) fun g1 hx1 => ?_
  have n1 := hx1.next
  have f1' := hx1.floor
  have w1 := hx1.row.whole (n := 8) rfl
  simp only [rn0, rn1, rn2, reduceIte, Nat.reduceEqDiff, Nat.reduceAdd, Nat.reduceMul, Nat.reduceSub, Nat.reduceLeDiff, Nat.reduceLT, w1, build_z11]
  refine step_row (cs := z11) (by omega) rfl rfl fun g2 hx2 => ?_
  have n2 := hx2.next
  have f2' := hx2.floor
  have hy2 := (hy.mono hx1.sub).mono hx2.sub
  obtain ⟨v, g3, e3, hv, hv1, old3, u3, nn3, f3'⟩ := unknowns_c (n := n) (h := g2) (by omega) (by omega) (by omega) hy2 ht (by omega) l2 (pb := g1.next)
  simp only [rn0, rn1, rn2, reduceIte, Nat.reduceEqDiff, Nat.reduceAdd, Nat.reduceMul, Nat.reduceSub, Nat.reduceLeDiff, Nat.reduceLT, e3, Cells.len hv]
  refine W_loop (numU S) (fun k f g ms => (Sub All g3 g ∧ g.next = g3.next + k ∧ g.floor = g3.floor) ∧ ms = [] ∧ f 3 = .int .i64 (sizeN (uLo S) (uHi S) k) ∧ f 9 = v ∧ f 10 = .int .i64 (numU S : Int) ∧ f 11 = .int .i64 (k : Int)) (by simp; omega) ?_ ?_ ?_
  · simp only [rn0, rn1, rn2, reduceIte, Nat.reduceEqDiff, Nat.reduceAdd, Nat.reduceMul, Nat.reduceSub, Nat.reduceLeDiff, Nat.reduceLT, Nat.add_zero]
    exact ⟨rfl, rfl⟩
  · rintro k f g ms hk ⟨⟨k1, k2, k3⟩, rfl, f3, f9, f10, f11⟩
    have hk' : (k : Int) < (numU S : Int) := by omega
    have hw : wrapF .i64 ((k : Int) + 1) = ((k + 1 : Nat) : Int) := by rw [wrap_in (by omega) (by omega)]; rfl
    have hvg := Cells.mono hv k1
    obtain ⟨q1, q2⟩ := size_bound hL hA (i := k) (by omega)
    obtain ⟨q3, q4⟩ := size_bound hL hA (i := k + 1) (by omega)
    have hu : 0 ≤ uLo S k ∧ uLo S k ≤ uHi S k ∧ uHi S k ≤ 99 := by
      simp only [uLo, uHi]
      by_cases c1 : k < S.nw
      · rw [if_pos c1, if_pos c1]; have := hA.warm k c1; omega
      · rw [if_neg c1, if_neg c1]
        by_cases c2 : k = S.nw
        · rw [if_pos c2, if_pos c2]; omega
        · rw [if_neg c2, if_neg c2]; have := (hA.vat (k - S.nw - 1) (by omega)).2.1; omega
    have hws : wrapF .i64 (uHi S k - uLo S k) = uHi S k - uLo S k := wrap_in (by omega) (by omega)
    have hws2 : wrapF .i64 (uHi S k - uLo S k + 1) = uHi S k - uLo S k + 1 := wrap_in (by omega) (by omega)
    have hwm : wrapF .i64 (sizeN (uLo S) (uHi S) k * (uHi S k - uLo S k + 1)) = sizeN (uLo S) (uHi S) (k + 1) := wrap_in (by simp only [sizeN] at q3; omega) (by simp only [sizeN] at q4; omega)
    simp only [rn0, rn1, rn2, reduceIte, Nat.reduceEqDiff, Nat.reduceAdd, Nat.reduceMul, Nat.reduceSub, Nat.reduceLeDiff, Nat.reduceLT, f3, f9, f10, f11, hk', Cells.idx hvg hk, unk_ld hvg hk]
    refine step_new (vs := [.pointer (some ⟨g1.next, adr S k, none⟩), .int .i64 (uLo S k), .int .i64 (uHi S k)]) (by omega) (by omega) rfl (by simp only [rn0, rn1, rn2, reduceIte, Nat.reduceEqDiff, Nat.reduceAdd, Nat.reduceMul, Nat.reduceSub, Nat.reduceLeDiff, Nat.reduceLT]; rfl) rfl rfl rfl fun g4 hx4 => ?_
    have n4 := hx4.next
    have f4' := hx4.floor
    have hin : (Sub All g3 g4 ∧ g4.next = g3.next + (k + 1) ∧ g4.floor = g3.floor) = True := eq_true ⟨k1.trans hx4.sub, by omega, by omega⟩
    simp only [rn0, rn1, rn2, reduceIte, Nat.reduceEqDiff, Nat.reduceAdd, Nat.reduceMul, Nat.reduceSub, Nat.reduceLeDiff, Nat.reduceLT, f3, f9, f10, f11, hx4.ld, Nat.zero_add, Nat.reduceAdd, List.getElem?_cons_zero, List.getElem?_cons_succ, hws, hws2, hwm, hw, hin]
  · rintro f g ms ⟨⟨k1, k2, k3⟩, rfl, f3, f9, f10, f11⟩
    simp only [rn0, rn1, rn2, reduceIte, Nat.reduceEqDiff, Nat.reduceAdd, Nat.reduceMul, Nat.reduceSub, Nat.reduceLeDiff, Nat.reduceLT, f3, f9, f10, f11, Int.lt_irrefl]
noncomputable instance (S : MS) : Decidable (LimOk S) := Classical.propDecidable _
def s30 : SCode := (.seq (.ops [⟨(some 1), none, .box (T 0)⟩, ⟨(some 2), none, .mov (.const (.int .i64 (0)))⟩]) (.seq (.ops [⟨(some 4), none, .loadN 7 (T 1)⟩, ⟨(some 5), none, .build #[(0, 7), (7, 1)] [(.int .i64 (0)), (.int .i64 (0)), (.slice none 0 0), (.int .i64 (0)), (.int .i64 (0)), (.slice none 0 0), (.slice none 0 0), (.slice none 0 0)] [0] [(T 4)]⟩, ⟨(some 3), none, .alloc [(.int .i64 (0)), (.int .i64 (0)), (.slice none 0 0), (.int .i64 (0)), (.int .i64 (0)), (.slice none 0 0), (.slice none 0 0), (.slice none 0 0)]⟩, ⟨none, none, .store 8 (T 3) (T 5)⟩]) (.seq (.block 0 (.seq (.ops [⟨(some 7), none, .fieldAddr 0 (T 1)⟩, ⟨(some 8), none, .load1 (T 7)⟩, ⟨(some 9), none, .int2 .gtr (T 8) (.const (.int .i64 (5)))⟩, ⟨(some 10), none, .mov (T 9)⟩, ⟨(some 11), (some (10, false)), .fieldAddr 5 (T 1)⟩, ⟨(some 12), (some (10, false)), .load1 (T 11)⟩, ⟨(some 13), (some (10, false)), .len (T 12)⟩, ⟨(some 14), (some (10, false)), .int2 .gtr (T 13) (.const (.int .i64 (4)))⟩, ⟨(some 15), none, .pick (T 10) (.const (.bool true)) (T 14)⟩, ⟨(some 16), none, .mov (T 15)⟩, ⟨(some 17), (some (16, false)), .fieldAddr 6 (T 1)⟩, ⟨(some 18), (some (16, false)), .load1 (T 17)⟩, ⟨(some 19), (some (16, false)), .len (T 18)⟩, ⟨(some 20), (some (16, false)), .int2 .gtr (T 19) (.const (.int .i64 (5)))⟩, ⟨(some 21), none, .pick (T 16) (.const (.bool true)) (T 20)⟩, ⟨(some 6), none, .mov (T 21)⟩]) (.cond (T 6) (.seq (.ops [⟨(some 2), none, .mov (.const (.int .i64 (3)))⟩]) .ret) (.seq (.ops [⟨(some 23), none, .loadN 8 (T 3)⟩, ⟨(some 24), none, .call (.func 83) [(T 23)]⟩, ⟨(some 25), none, .not (T 24)⟩, ⟨(some 22), none, .mov (T 25)⟩]) (.cond (T 22) (.seq (.ops [⟨(some 2), none, .mov (.const (.int .i64 (1)))⟩]) .ret) (.seq (.ops [⟨(some 27), none, .loadN 8 (T 3)⟩, ⟨(some 28), none, .call (.func 84) [(T 27)]⟩, ⟨(some 29), none, .int2 .gtr (T 28) (.const (.int .i64 (2000)))⟩, ⟨(some 26), none, .mov (T 29)⟩]) (.cond (T 26) (.seq (.ops [⟨(some 2), none, .mov (.const (.int .i64 (3)))⟩]) .ret) .skip))))))) (.seq (.ops [⟨(some 2), none, .mov (.const (.int .i64 (0)))⟩]) .ret))))
theorem fok30 : FnOk Try.prog 30 30 s30 [.tmp 2] := ⟨Try.f30, _, Try.func30, rfl, Try.ntmps30, by kernel_rfl, by kernel_rfl⟩
theorem check_c (hn : 130 ≤ n) (hr : h.next + 400 < far) {wv vv sv : Value} {S : MS} (hy : SteepR h wv vv sv S) (hl : S.nw ≤ 30 ∧ S.nv ≤ 30 ∧ S.ns ≤ 30) :
    call n (.func (.func 30) #[] #[]) [.agg ⟨stL S wv vv sv⟩] h = some (.int .i64 (faultS S), h) := by
  obtain ⟨n, rfl⟩ : ∃ p, n = p + 1 := ⟨n - 1, by omega⟩
  refine call_plain0 fok30 rfl rfl (by simp) rfl ?_
  have hy := hy.shut
  have hr : h.shutAll.next + 400 < far := hr
  have hfl : h.shutAll.floor ≤ h.shutAll.next := Nat.le_refl _
  generalize h.shutAll = h at hy hr hfl
  simp only [s30, W_seq, W_ops]
  refine ops_box (cs := stL S wv vv sv) (by omega) rfl hy.one fun g1 hx1 => ?_
  have n1 := hx1.next
  have f1' := hx1.floor
  have ho8 := wk_one hy (tv := nilS) rfl
  simp only [rn0, rn1, rn2, reduceIte, Nat.reduceEqDiff, Nat.reduceAdd, Nat.reduceMul, Nat.reduceSub, Nat.reduceLeDiff, Nat.reduceLT, hx1.row.whole (n := 7) rfl, build_wk]
  refine step_new (vs := wkL S wv vv sv nilS) (by omega) (by omega) rfl (by simp only [rn0, rn1, rn2, reduceIte, Nat.reduceEqDiff, Nat.reduceAdd, Nat.reduceMul, Nat.reduceSub, Nat.reduceLeDiff, Nat.reduceLT]; rfl) ho8 rfl rfl fun g2 hx2 => ?_
  have n2 := hx2.next
  have f2' := hx2.floor
  have r1 := hx1.row.mono hx2.sub
  have w2 := hx2.row.whole (n := 8) rfl
  have hy := (hy.mono hx1.sub).mono hx2.sub
  have e3 : ¬ LimOk S → faultS S = 3 := fun e => by unfold faultS; rw [if_pos e]
  by_cases c1 : 5 < S.last
  · have := e3 fun e => by have := e.1; omega
    simp only [rn0, rn1, rn2, reduceIte, Nat.reduceEqDiff, Nat.reduceAdd, Nat.reduceMul, Nat.reduceSub, Nat.reduceLeDiff, Nat.reduceLT, r1.ld, stg, Nat.zero_add, c1, this]
  by_cases c2 : (4 : Int) < (S.nv : Int)
  · have := e3 fun e => by have := e.2.1; omega
    simp only [rn0, rn1, rn2, reduceIte, Nat.reduceEqDiff, Nat.reduceAdd, Nat.reduceMul, Nat.reduceSub, Nat.reduceLeDiff, Nat.reduceLT, r1.ld, stg, Nat.zero_add, c1, Cells.len hy.v, c2, this]
  by_cases c3 : (5 : Int) < (S.ns : Int)
  · have := e3 fun e => by have := e.2.2; omega
    simp only [rn0, rn1, rn2, reduceIte, Nat.reduceEqDiff, Nat.reduceAdd, Nat.reduceMul, Nat.reduceSub, Nat.reduceLeDiff, Nat.reduceLT, r1.ld, stg, Nat.zero_add, c1, Cells.len hy.v, c2, Cells.len hy.s, c3, this]
  have hL : LimOk S := ⟨by omega, by omega, by omega⟩
  have ev := isValid_c (n := n) (h := g2) (by omega) (by omega) hy (tv := nilS) rfl hl hL.1
  by_cases hA : ArgsOk S
  case neg =>
    have : faultS S = 1 := by unfold faultS; rw [if_neg (by simpa using hL), if_pos hA]
    simp only [rn0, rn1, rn2, reduceIte, Nat.reduceEqDiff, Nat.reduceAdd, Nat.reduceMul, Nat.reduceSub, Nat.reduceLeDiff, Nat.reduceLT, r1.ld, stg, Nat.zero_add, c1, Cells.len hy.v, c2, Cells.len hy.s, c3, w2, ev, hA, this]
  have ez := sizeW_c (n := n) (h := g2) (by omega) (by omega) hy (tv := nilS) rfl hL hA
  have hms := many_size hA
  by_cases hm : 2000 < sizeN (uLo S) (uHi S) (numU S)
  · have : faultS S = 3 := by unfold faultS; rw [if_neg (by simpa using hL), if_neg (by simpa using hA), if_pos (by omega)]
    simp only [rn0, rn1, rn2, reduceIte, Nat.reduceEqDiff, Nat.reduceAdd, Nat.reduceMul, Nat.reduceSub, Nat.reduceLeDiff, Nat.reduceLT, r1.ld, stg, Nat.zero_add, c1, Cells.len hy.v, c2, Cells.len hy.s, c3, w2, ev, hA, ez, hm, this]
  · have : faultS S = 0 := by unfold faultS; rw [if_neg (by simpa using hL), if_neg (by simpa using hA), if_neg (by omega)]
    simp only [rn0, rn1, rn2, reduceIte, Nat.reduceEqDiff, Nat.reduceAdd, Nat.reduceMul, Nat.reduceSub, Nat.reduceLeDiff, Nat.reduceLT, r1.ld, stg, Nat.zero_add, c1, Cells.len hy.v, c2, Cells.len hy.s, c3, w2, ev, hA, ez, hm, this]
def s104 : SCode := (.seq (.ops [⟨(some 1), none, .box (T 0)⟩, ⟨(some 2), none, .mov (.const (.bool false))⟩]) (.seq (.draw [⟨.free, ⟨(some 3), none, .fieldAddr 1 (T 1)⟩⟩, ⟨.free, ⟨(some 4), none, .fieldAddr 0 (T 3)⟩⟩, ⟨.rd1, ⟨(some 5), none, .load1 (T 4)⟩⟩, ⟨.free, ⟨(some 6), none, .fieldAddr 0 (T 1)⟩⟩, ⟨.rd1, ⟨(some 7), none, .load1 (T 6)⟩⟩, ⟨.free, ⟨(some 8), none, .there (T 7)⟩⟩, ⟨.rd1, ⟨(some 9), none, .load1 (T 8)⟩⟩, ⟨.free, ⟨(some 10), none, .int2 .leq (T 5) (T 9)⟩⟩, ⟨.free, ⟨(some 11), none, .mov (T 10)⟩⟩, ⟨.free, ⟨(some 12), (some (11, true)), .fieldAddr 0 (T 1)⟩⟩, ⟨.rd1, ⟨(some 13), (some (11, true)), .load1 (T 12)⟩⟩, ⟨.free, ⟨(some 14), (some (11, true)), .there (T 13)⟩⟩, ⟨.rd1, ⟨(some 15), (some (11, true)), .load1 (T 14)⟩⟩, ⟨.free, ⟨(some 16), (some (11, true)), .fieldAddr 1 (T 1)⟩⟩, ⟨.free, ⟨(some 17), (some (11, true)), .fieldAddr 1 (T 16)⟩⟩, ⟨.rd1, ⟨(some 18), (some (11, true)), .load1 (T 17)⟩⟩, ⟨.free, ⟨(some 19), (some (11, true)), .int2 .leq (T 15) (T 18)⟩⟩, ⟨.free, ⟨(some 20), none, .pick (T 11) (T 19) (.const (.bool false))⟩⟩, ⟨.free, ⟨(some 2), none, .mov (T 20)⟩⟩]) .ret))
theorem fok104 : FnOk Try.prog 104 21 s104 [.tmp 2] := ⟨Try.f104, _, Try.func104, rfl, Try.ntmps104, by kernel_rfl, by kernel_rfl⟩
theorem isIn_c (hn : 1 ≤ n) (hr : h.next < far) {a : Addr} {x : Int} (hx : loadCell h (.pointer (some a)) = some (.int .i64 x)) (hsp : a.spot = none) (lo hi : Int) :
    call n (.func (.func 104) #[] #[]) [.agg ⟨[.pointer (some a), .int .i64 lo, .int .i64 hi]⟩] h = some (.bool (decide (lo ≤ x ∧ x ≤ hi)), h) := by
  obtain ⟨n, rfl⟩ : ∃ p, n = p + 1 := ⟨n - 1, by omega⟩
  refine call_plain0 fok104 rfl rfl (by simp) rfl ?_
  have hx : loadCell h.shutAll (.pointer (some a)) = some (.int .i64 x) := hx
  have hr : h.shutAll.next < far := hr
  generalize h.shutAll = h at hx hr
  simp only [s104, W_seq, W_ops]
  refine ops_box (cs := [.pointer (some a), .int .i64 lo, .int .i64 hi]) hr rfl rfl fun g1 hx1 => ?_
  have hxg : loadCell g1 (.pointer (some a)) = some (.int .i64 x) := by
    obtain ⟨b, o, s⟩ := a
    have hs : s = none := hsp
    subst hs
    simp only [loadCell] at hx ⊢
    cases hg : h.get b with
    | none => rw [hg] at hx; cases hx
    | some r =>
      rw [hx1.old b (AHeap.lt_of_get hg)]
      exact hx
  simp only [rn0, rn1, rn2, reduceIte, Nat.reduceEqDiff, Nat.reduceAdd, Nat.reduceMul, Nat.reduceSub, Nat.reduceLeDiff, Nat.reduceLT]
  refine W_draw All ?_
  by_cases c1 : lo ≤ x <;> by_cases c2 : x ≤ hi <;> simp only [rn0, rn1, rn2, reduceIte, Nat.reduceEqDiff, Nat.reduceAdd, Nat.reduceMul, Nat.reduceSub, Nat.reduceLeDiff, Nat.reduceLT, hx1.ld, Nat.zero_add, List.getElem?_cons_zero, List.getElem?_cons_succ, d_guard, dg_tt, dg_tf, dg_ft, dg_ff, there_p, hxg, c1, c2, and_self, and_false, false_and]
def s102 : SCode := (.seq (.ops [⟨(some 4), none, .mov (.const (.bool false))⟩]) (.seq (.seq (.ops [⟨(some 7), none, .mov (T 0)⟩, ⟨(some 8), none, .len (T 7)⟩, ⟨(some 9), none, .mov (.const (.int .i64 (0)))⟩]) (.block 0 (.loop (.seq (.ops [⟨(some 10), none, .int2 .lss (T 9) (T 8)⟩]) (.seq (.cond (T 10) .skip (.exit 0)) (.seq (.block 1 (.seq (.ops [⟨(some 11), none, .idxSl 3 (T 7) (T 9)⟩, ⟨(some 12), none, .loadN 3 (T 11)⟩, ⟨(some 6), none, .alloc [(.pointer none), (.int .i64 (0)), (.int .i64 (0))]⟩, ⟨none, none, .store 3 (T 6) (T 12)⟩]) (.seq (.ops [⟨(some 13), none, .mov (T 1)⟩, ⟨(some 14), none, .loadN 3 (T 6)⟩, ⟨(some 15), none, .call (T 13) [(T 14)]⟩, ⟨(some 16), none, .not (T 15)⟩]) (.cond (T 16) (.seq (.ops [⟨(some 4), none, .mov (.const (.bool false))⟩]) .ret) .skip)))) (.ops [⟨(some 17), none, .int2 .add (T 9) (.const (.int .i64 (1)))⟩, ⟨(some 9), none, .mov (T 17)⟩]))))))) (.seq (.ops [⟨(some 4), none, .mov (.const (.bool true))⟩]) .ret)))
theorem fok102 : FnOk Try.prog 102 18 s102 [.tmp 4] := ⟨Try.f102, _, Try.func102, rfl, Try.ntmps102, by kernel_rfl, by kernel_rfl⟩
open Classical in
theorem everyUnk_c (hn : 100 ≤ n) (hr : h.next + 60 < far) {v ok : Value} {m : Nat} {S : MS} {pb : Nat} {p : Nat → Prop} (hv : Cells h v 3 m (unkC S pb)) (hm : m ≤ 30) (hok : Cond (n - 1) h.shutAll 40 ok m (fun k => .agg ⟨[.pointer (some ⟨pb, adr S k, none⟩), .int .i64 (uLo S k), .int .i64 (uHi S k)]⟩) p) :
    call n (.func (.func 102) #[] #[]) [v, ok] h = some (.bool (decide (∀ i, i < m → p i)), h) := by
  obtain ⟨n, rfl⟩ : ∃ p, n = p + 1 := ⟨n - 1, by omega⟩
  refine call_plain0 fok102 rfl rfl (by simp) rfl ?_
  have hv := Cells.shut hv
  have hr : h.shutAll.next + 60 < far := hr
  have hfl : h.shutAll.floor ≤ h.shutAll.next := Nat.le_refl _
  rw [Nat.add_sub_cancel] at hok
  generalize h.shutAll = h at hv hok hr hfl
  simp only [rn0, rn1, rn2, reduceIte, Nat.reduceEqDiff, Nat.reduceAdd, Nat.reduceMul, Nat.reduceSub, Nat.reduceLeDiff, Nat.reduceLT, s102, Cells.len hv]
  refine W_loop m (fun k f g m' => (Sub All h g ∧ g.next = h.next + k ∧ g.floor = h.floor) ∧ m' = [] ∧ f 1 = ok ∧ f 7 = v ∧ f 8 = .int .i64 (m : Int) ∧ f 9 = .int .i64 (k : Int) ∧ ∀ i, i < k → p i) (by simp; omega) ?_ ?_ ?_
  · simp only [rn0, rn1, rn2, reduceIte, Nat.reduceEqDiff, Nat.reduceAdd, Nat.reduceMul, Nat.reduceSub, Nat.reduceLeDiff, Nat.reduceLT, Nat.not_lt_zero, false_implies, implies_true, Nat.add_zero]
    trivial
  · rintro k f g m' hk ⟨⟨g1, g2, g3⟩, rfl, f1, f7, f8, f9, hlt⟩
    have hk' : (k : Int) < (m : Int) := by omega
    have hw : wrapF .i64 ((k : Int) + 1) = ((k + 1 : Nat) : Int) := by rw [wrap_in (by omega) (by omega)]; rfl
    have hvg := Cells.mono hv g1
    simp only [rn0, rn1, rn2, reduceIte, Nat.reduceEqDiff, Nat.reduceAdd, Nat.reduceMul, Nat.reduceSub, Nat.reduceLeDiff, Nat.reduceLT, f1, f7, f8, f9, hk', Cells.idx hvg hk, unk_ld hvg hk]
    refine step_new (vs := [.pointer (some ⟨pb, adr S k, none⟩), .int .i64 (uLo S k), .int .i64 (uHi S k)]) (by omega) (by omega) rfl (by simp only [rn0, rn1, rn2, reduceIte, Nat.reduceEqDiff, Nat.reduceAdd, Nat.reduceMul, Nat.reduceSub, Nat.reduceLeDiff, Nat.reduceLT]; rfl) rfl rfl rfl fun g' hg' => ?_
    have hin : (Sub All h g' ∧ g'.next = h.next + (k + 1) ∧ g'.floor = h.floor) = True := eq_true ⟨g1.trans hg'.sub, by rw [hg'.next, g2]; omega, by rw [hg'.floor, g3]⟩
    obtain ⟨b, hb, e⟩ := hok g' (g1.trans hg'.sub) (by rw [hg'.next, g2]; omega) k hk
    have wh := hg'.row.whole (n := 3) rfl
    cases b with
    | true =>
      have hp : p k := hb.1 rfl
      simp only [rn0, rn1, rn2, reduceIte, Nat.reduceEqDiff, Nat.reduceAdd, Nat.reduceMul, Nat.reduceSub, Nat.reduceLeDiff, Nat.reduceLT, f1, f7, f8, f9, wh, e, hw, hin]
      intro j hj
      by_cases ej : j = k
      · subst ej; exact hp
      · exact hlt j (by omega)
    | false =>
      have hp : ¬ ∀ i, i < m → p i := fun h => by have := hb.2 (h k hk); cases this
      simp only [rn0, rn1, rn2, reduceIte, Nat.reduceEqDiff, Nat.reduceAdd, Nat.reduceMul, Nat.reduceSub, Nat.reduceLeDiff, Nat.reduceLT, f1, f7, f8, f9, wh, e, hw, hp]
  · rintro f g m' ⟨⟨g1, g2, g3⟩, rfl, f1, f7, f8, f9, hlt⟩
    simp only [rn0, rn1, rn2, reduceIte, Nat.reduceEqDiff, Nat.reduceAdd, Nat.reduceMul, Nat.reduceSub, Nat.reduceLeDiff, Nat.reduceLT, f1, f7, f8, f9, Int.lt_irrefl, eq_true hlt]

section
variable {P : Program} {cf : CallF} {N : Nat} {f : Fr} {x y : Operand}
theorem x_copy {s : Nat} : sem P cf N f h (.copy s x y) = copyA s h (val f x) (val f y) := id rfl
end
theorem copy_run {b off gr N cap m : Nat} {cs : List Value} {y : Value} {a : Nat → Int} (hg : h.get b = some (.row cs true gr)) (hfl : h.floor ≤ b) (hf : h.next ≤ far) (hy : Ints h y m a) (hm : m ≤ N) (hlen : off + m ≤ cs.length) :
    ∃ h1, copyA 1 h (.slice (some ⟨b, off, none⟩) N cap) y = some (.int .i64 (m : Int), h1) ∧ Set1 h h1 b (splice cs off ((List.range m).map fun i => .int .i64 (a i))) gr := by
  obtain ⟨x, k, rfl, hc⟩ := Ints.cells hy
  have hone : allB oneCell ((List.range m).map fun i => Value.int .i64 (a i)) = true := by rw [allB_iff]; intro v hv; obtain ⟨i, _, rfl⟩ := List.mem_map.1 hv; rfl
  obtain ⟨h1, e, hs⟩ := storeRow_run (off := off) (vs := (List.range m).map fun i => Value.int .i64 (a i)) hg hfl hf hone (by simp; omega)
  refine ⟨h1, ?_, hs⟩
  have e1 : Nat.ble m N = true := ble_iff.2 hm
  unfold copyA
  simp only [e1, cond_true, hc, e]
  rfl
theorem sliceArr_all {N b o : Nat} (hN : 0 < N) (hN1 : N ≤ 100) : sliceArr N 1 h (.pointer (some ⟨b, o, none⟩)) none none = some (.slice (some ⟨b, o, none⟩) N N, h) := by
  have e1 : boundA 0 none = some 0 := rfl
  have e2 : boundA N none = some N := rfl
  have e3 : Nat.ble 0 N = true := ble_iff.2 (Nat.zero_le _)
  have e4 : Nat.ble N N = true := ble_iff.2 (Nat.le_refl _)
  have e5 : Nat.beq N 0 = false := by
    cases hb : Nat.beq N 0 with
    | false => rfl
    | true => have := beq_iff.1 hb; omega
  unfold sliceArr
  simp only [e1, e2, e3, e4, e5, Bool.and_self, cond_true, cond_false, addrPlus, Nat.zero_mul, Nat.add_zero, Nat.sub_zero]
theorem sliceArr_part {N b o l hh : Nat} (h1 : l ≤ hh) (h2 : hh ≤ N) (h3 : l < N) : sliceArr N 1 h (.pointer (some ⟨b, o, none⟩)) (some (.int .i64 (l : Int))) (some (.int .i64 (hh : Int))) = some (.slice (some ⟨b, o + l, none⟩) (hh - l) (N - l), h) := by
  have e1 : boundA 0 (some (.int .i64 (l : Int))) = some l := rfl
  have e2 : boundA N (some (.int .i64 (hh : Int))) = some hh := rfl
  have e3 : Nat.ble l hh = true := ble_iff.2 h1
  have e4 : Nat.ble hh N = true := ble_iff.2 h2
  have e5 : Nat.beq N l = false := by
    cases hb : Nat.beq N l with
    | false => rfl
    | true => have := beq_iff.1 hb; omega
  unfold sliceArr
  simp only [e1, e2, e3, e4, e5, Bool.and_self, cond_true, cond_false, addrPlus, Nat.mul_one]
def rowF (F : Nat → Int) : List Value := (List.range 11).map fun j => .int .i64 (F j)
theorem rowF_len {F : Nat → Int} : (rowF F).length = 11 := by simp [rowF]
theorem rowF_copy {F : Nat → Int} {off m : Nat} {a : Nat → Int} (h : off + m ≤ 11) : splice (rowF F) off ((List.range m).map fun i => .int .i64 (a i)) = rowF fun j => if off ≤ j ∧ j < off + m then a (j - off) else F j := by
  refine map_splice (by simp; omega) (fun i hi hc => ?_) (fun j hj => ?_)
  · simp only [List.length_map, List.length_range] at hc
    have q : ¬ (off ≤ i ∧ i < off + m) := by omega
    simp only [q, if_false]
  · simp only [List.length_map, List.length_range] at hj
    have q : off ≤ off + j ∧ off + j < off + m := by omega
    rw [List.getElem?_map, List.getElem?_range hj]
    simp only [q, and_self, if_true, Option.map_some, Nat.add_sub_cancel_left]
theorem rowF_set {F : Nat → Int} {o : Nat} {x : Int} (h : o < 11) : splice (rowF F) o [.int .i64 x] = rowF fun j => if j = o then x else F j := by
  refine map_splice (by simp; omega) (fun i hi hc => ?_) (fun j hj => ?_)
  · simp only [List.length_cons, List.length_nil] at hc
    have q : ¬ i = o := by omega
    simp only [q, if_false]
  · simp only [List.length_cons, List.length_nil] at hj
    have : j = 0 := by omega
    subst this
    simp
theorem tarr_rowF {S : MS} {a1 a2 : Nat → Int} {sp : Int} (h6 : S.nw ≤ 6) (h4 : S.nv ≤ 4) :
    (rowF fun j => if 7 ≤ j ∧ j < 7 + S.nv then a2 (j - 7) else if j = 6 then sp else if 0 ≤ j ∧ j < 0 + S.nw then a1 (j - 0) else 0) = tarr S (asU S a1 sp a2) := by
  apply List.map_congr_left
  intro j hj
  have hj := List.mem_range.1 hj
  congr 1
  simp only [cellU]
  by_cases c1 : j < 6
  · have q1 : ¬ (7 ≤ j ∧ j < 7 + S.nv) := by omega
    have q2 : ¬ j = 6 := by omega
    simp only [q1, q2, c1, if_true, if_false]
    by_cases c2 : j < S.nw
    · have q3 : 0 ≤ j ∧ j < 0 + S.nw := by omega
      simp only [q3, c2, and_self, if_true, asU_w c2, Nat.sub_zero]
    · have q3 : ¬ (0 ≤ j ∧ j < 0 + S.nw) := by omega
      simp only [q3, c2, if_false]
  · by_cases c2 : j = 6
    · have q1 : ¬ (7 ≤ j ∧ j < 7 + S.nv) := by omega
      simp only [q1, c1, c2, if_true, if_false, asU_s]
      simp
    · by_cases c3 : j - 7 < S.nv
      · have q1 : 7 ≤ j ∧ j < 7 + S.nv := by omega
        simp only [q1, c1, c2, c3, and_self, if_true, if_false, asU_f c3]
      · have q1 : ¬ (7 ≤ j ∧ j < 7 + S.nv) := by omega
        have q3 : ¬ (0 ≤ j ∧ j < 0 + S.nw) := by omega
        simp only [q1, q3, c1, c2, c3, if_false]
theorem res_11_1 {a t : Nat} {f : Fr} : resV f h [.cellN a 11, .tmp t] = match loadAgg 11 h (f a) with
  | some v => some (.tuple ⟨[v, f t]⟩)
  | none => none := res_two
def s75 : SCode := (.seq (.ops [⟨(some 2), none, .box (T 0)⟩, ⟨(some 3), none, .box (T 1)⟩, ⟨(some 4), none, .alloc [(.int .i64 (0)), (.int .i64 (0)), (.int .i64 (0)), (.int .i64 (0)), (.int .i64 (0)), (.int .i64 (0)), (.int .i64 (0)), (.int .i64 (0)), (.int .i64 (0)), (.int .i64 (0)), (.int .i64 (0))]⟩, ⟨(some 5), none, .mov (.const (.bool false))⟩]) (.seq (.seq (.ops [⟨(some 6), none, .fieldAddr 0 (T 3)⟩, ⟨(some 7), none, .load1 (T 6)⟩, ⟨(some 8), none, .len (T 7)⟩, ⟨(some 9), none, .fieldAddr 0 (T 2)⟩, ⟨(some 10), none, .fieldAddr 2 (T 9)⟩, ⟨(some 11), none, .load1 (T 10)⟩, ⟨(some 12), none, .len (T 11)⟩, ⟨(some 13), none, .int2 .neq (T 8) (T 12)⟩, ⟨(some 14), none, .mov (T 13)⟩, ⟨(some 15), (some (14, false)), .fieldAddr 2 (T 3)⟩, ⟨(some 16), (some (14, false)), .load1 (T 15)⟩, ⟨(some 17), (some (14, false)), .len (T 16)⟩, ⟨(some 18), (some (14, false)), .fieldAddr 0 (T 2)⟩, ⟨(some 19), (some (14, false)), .fieldAddr 5 (T 18)⟩, ⟨(some 20), (some (14, false)), .load1 (T 19)⟩, ⟨(some 21), (some (14, false)), .len (T 20)⟩, ⟨(some 22), (some (14, false)), .int2 .neq (T 17) (T 21)⟩, ⟨(some 23), none, .pick (T 14) (.const (.bool true)) (T 22)⟩]) (.cond (T 23) (.seq (.ops [⟨(some 24), none, .build #[(0, 6), (6, 1), (7, 4)] [(.int .i64 (0)), (.int .i64 (0)), (.int .i64 (0)), (.int .i64 (0)), (.int .i64 (0)), (.int .i64 (0)), (.int .i64 (0)), (.int .i64 (0)), (.int .i64 (0)), (.int .i64 (0)), (.int .i64 (0))] [] []⟩, ⟨none, none, .store 11 (T 4) (T 24)⟩, ⟨(some 5), none, .mov (.const (.bool false))⟩]) .ret) .skip)) (.seq (.draw [⟨.free, ⟨(some 25), none, .fieldAddr 0 (T 4)⟩⟩, ⟨.rd1, ⟨(some 26), none, .sliceArr 6 1 (T 25) none none⟩⟩, ⟨.free, ⟨(some 27), none, .fieldAddr 0 (T 3)⟩⟩, ⟨.rd1, ⟨(some 28), none, .load1 (T 27)⟩⟩, ⟨.any, ⟨(some 29), none, .copy 1 (T 26) (T 28)⟩⟩]) (.seq (.ops [⟨(some 30), none, .fieldAddr 1 (T 3)⟩, ⟨(some 31), none, .load1 (T 30)⟩, ⟨(some 32), none, .fieldAddr 6 (T 4)⟩, ⟨none, none, .store 1 (T 32) (T 31)⟩]) (.seq (.draw [⟨.free, ⟨(some 33), none, .fieldAddr 7 (T 4)⟩⟩, ⟨.rd1, ⟨(some 34), none, .sliceArr 4 1 (T 33) none none⟩⟩, ⟨.free, ⟨(some 35), none, .fieldAddr 2 (T 3)⟩⟩, ⟨.rd1, ⟨(some 36), none, .load1 (T 35)⟩⟩, ⟨.any, ⟨(some 37), none, .copy 1 (T 34) (T 36)⟩⟩]) (.seq (.seq (.ops [⟨(some 38), none, .loadN 8 (T 2)⟩, ⟨(some 39), none, .call (.func 103) [(T 38), (T 4)]⟩, ⟨(some 40), none, .call (.func 102) [(T 39), (.func 104)]⟩, ⟨(some 41), none, .not (T 40)⟩]) (.cond (T 41) (.seq (.ops [⟨(some 42), none, .build #[(0, 6), (6, 1), (7, 4)] [(.int .i64 (0)), (.int .i64 (0)), (.int .i64 (0)), (.int .i64 (0)), (.int .i64 (0)), (.int .i64 (0)), (.int .i64 (0)), (.int .i64 (0)), (.int .i64 (0)), (.int .i64 (0)), (.int .i64 (0))] [] []⟩, ⟨none, none, .store 11 (T 4) (T 42)⟩, ⟨(some 5), none, .mov (.const (.bool false))⟩]) .ret) .skip)) (.seq (.ops [⟨(some 43), none, .loadN 11 (T 4)⟩, ⟨none, none, .store 11 (T 4) (T 43)⟩, ⟨(some 5), none, .mov (.const (.bool true))⟩]) .ret)))))))
theorem fok75 : FnOk Try.prog 75 44 s75 [.cellN 4 11, .tmp 5] := ⟨Try.f75, _, Try.func75, rfl, Try.ntmps75, by kernel_rfl, by kernel_rfl⟩
theorem toTruth_c (hn : 130 ≤ n) (hr : h.next + 300 < far) {wv vv sv tv tw tf : Value} {S : MS} {m1 m2 : Nat} {a1 a2 : Nat → Int} {sp : Int} (hy : SteepR h wv vv sv S) (ht : oneCell tv = true) (hG : Good S) (hT : TrR h tw tf m1 a1 m2 a2) (h30 : m1 ≤ 30 ∧ m2 ≤ 30) :
    call n (.func (.func 75) #[] #[]) [.agg ⟨wkL S wv vv sv tv⟩, .agg ⟨trL tw tf sp⟩] h = some (.tuple ⟨[.agg ⟨if Listed S m1 a1 sp m2 a2 then tarr S (asU S a1 sp a2) else z11⟩, .bool (decide (Listed S m1 a1 sp m2 a2))]⟩, h) := by
  suffices hs : ∀ (R : Value), (¬ Listed S m1 a1 sp m2 a2 → R = .tuple ⟨[.agg ⟨z11⟩, .bool false]⟩) → (Listed S m1 a1 sp m2 a2 → R = .tuple ⟨[.agg ⟨tarr S (asU S a1 sp a2)⟩, .bool true]⟩) → plainV R = true → call n (.func (.func 75) #[] #[]) [.agg ⟨wkL S wv vv sv tv⟩, .agg ⟨trL tw tf sp⟩] h = some (R, h) by
    by_cases hl : Listed S m1 a1 sp m2 a2
    · rw [if_pos hl, decide_eq_true hl]
      exact hs _ (fun e => absurd hl e) (fun _ => rfl) rfl
    · rw [if_neg hl, decide_eq_false hl]
      exact hs _ (fun _ => rfl) (fun e => absurd e hl) rfl
  intro R hR0 hR1 hpl
  obtain ⟨n, rfl⟩ : ∃ p, n = p + 1 := ⟨n - 1, by omega⟩
  refine call_plain0 fok75 rfl rfl (by simp) hpl ?_
  have hy := hy.shut
  have hT := hT.shut
  have hr : h.shutAll.next + 300 < far := hr
  have hfl : h.shutAll.floor ≤ h.shutAll.next := Nat.le_refl _
  generalize h.shutAll = h at hy hT hr hfl
  obtain ⟨_, _, _, z4, z5, _⟩ := hG.sizes
  simp only [s75, W_seq, W_ops]
  refine ops_box (cs := wkL S wv vv sv tv) (by omega) rfl (wk_one hy ht) fun g1 hx1 => ?_
  have n1 := hx1.next
  have f1' := hx1.floor
  refine ops_box (cs := trL tw tf sp) (by omega) rfl hT.one fun g2 hx2 => ?_
  have n2 := hx2.next
  have f2' := hx2.floor
  refine ops_alloc (cs := z11) (by omega) rfl fun g3 hx3 => ?_
  have n3 := hx3.next
  have f3' := hx3.floor
  have e2 : g2.next = h.next + 2 := by omega
  have s3 : Sub All h g3 := hx1.sub.trans (hx2.sub.trans hx3.sub)
  have r1 := (hx1.row.mono hx2.sub).mono hx3.sub
  have r2 := hx2.row.mono hx3.sub
  have hy3 := hy.mono s3
  have hT3 := hT.mono s3
  have hz : g3.get g2.next = some (.row (rowF fun _ => 0) true 0) := hx3.get
  by_cases c1 : (m1 : Int) = (S.nw : Int)
  case neg =>
    have hR := hR0 fun e => c1 (by rw [e.2.1])
    simp only [rn0, rn1, rn2, reduceIte, Nat.reduceEqDiff, Nat.reduceAdd, Nat.reduceMul, Nat.reduceSub, Nat.reduceLeDiff, Nat.reduceLT, r1.ld, r2.ld, wkg, trg, Nat.zero_add, Cells.len hT3.w, Cells.len hy3.w, c1, build_z11]
    refine step_store (b := g2.next) (off := 0) (vs := z11) rfl hz (by omega) (by omega) rfl rfl rfl (by rw [rowF_len]; simp [z11]) fun g4 hs4 => ?_
    rw [splice_all (by rw [rowF_len]; rfl)] at hs4
    simp only [rn0, rn1, rn2, reduceIte, Nat.reduceEqDiff, Nat.reduceAdd, Nat.reduceMul, Nat.reduceSub, Nat.reduceLeDiff, Nat.reduceLT, res_11_1, hs4.row.whole (n := 11) rfl, hR]
  have d1 : decide ((m1 : Int) = (S.nw : Int)) = true := decide_eq_true c1
  by_cases c2 : (m2 : Int) = (S.nv : Int)
  case neg =>
    have hR := hR0 fun e => c2 (by rw [e.2.2.1])
    simp only [rn0, rn1, rn2, reduceIte, Nat.reduceEqDiff, Nat.reduceAdd, Nat.reduceMul, Nat.reduceSub, Nat.reduceLeDiff, Nat.reduceLT, r1.ld, r2.ld, wkg, trg, Nat.zero_add, Cells.len hT3.w, Cells.len hy3.w, d1, Cells.len hT3.f, Cells.len hy3.v, c2, build_z11]
    refine step_store (b := g2.next) (off := 0) (vs := z11) rfl hz (by omega) (by omega) rfl rfl rfl (by rw [rowF_len]; simp [z11]) fun g4 hs4 => ?_
    rw [splice_all (by rw [rowF_len]; rfl)] at hs4
    simp only [rn0, rn1, rn2, reduceIte, Nat.reduceEqDiff, Nat.reduceAdd, Nat.reduceMul, Nat.reduceSub, Nat.reduceLeDiff, Nat.reduceLT, res_11_1, hs4.row.whole (n := 11) rfl, hR]
  have d2 : decide ((m2 : Int) = (S.nv : Int)) = true := decide_eq_true c2
  have hm1 : m1 = S.nw := by omega
  have hm2 : m2 = S.nv := by omega
  subst hm1 hm2
  obtain ⟨g4, e4, hs4⟩ := copy_run (off := 0) (N := 6) (cap := 6) hz (by omega) (by omega) hT3.w z4 (by rw [rowF_len]; omega)
  rw [rowF_copy (by omega)] at hs4
  have n4 := hs4.next
  have f4' := hs4.floor
  have k4 : Keep g2.next g3 g4 := hs4.keep
  have sep : ∀ {x : Value} {m : Nat} {a : Nat → Int}, Ints g2 x m a → ∀ ad k cap, x = .slice (some ad) k cap → m = 0 ∨ ad.block ≠ g2.next := fun {x m a} hi ad k cap e => by
    obtain ⟨a', cap', e', _, h0 | ⟨b, o, cs, w, gr, e2, e3, _⟩⟩ := hi
    · exact .inl h0
    · right
      rw [e] at e'; cases e'; cases e2
      have := AHeap.lt_of_get e3
      show b ≠ _
      omega
  have keepI : ∀ {g : AHeap} {x : Value} {m : Nat} {a : Nat → Int}, Ints g2 x m a → Keep g2.next g3 g → Ints g x m a := fun {g x m a} hi hk => by
    obtain ⟨a', cap', e', hsp, h0 | ⟨b, o, cs, w, gr, e2, e3, e4⟩⟩ := hi
    · exact ⟨a', cap', e', hsp, .inl h0⟩
    · have := AHeap.lt_of_get e3
      exact ⟨a', cap', e', hsp, .inr ⟨b, o, cs, w, gr, e2, hk.sub _ _ _ _ (by omega) (hx3.sub _ _ _ _ trivial e3), e4⟩⟩
  have hT2 := hT.mono (hx1.sub.trans hx2.sub)
  have r2' := r2.keep k4 (by omega)
  simp only [rn0, rn1, rn2, reduceIte, Nat.reduceEqDiff, Nat.reduceAdd, Nat.reduceMul, Nat.reduceSub, Nat.reduceLeDiff, Nat.reduceLT, r1.ld, r2.ld, wkg, trg, Nat.zero_add, Cells.len hT3.w, Cells.len hy3.w, d1, Cells.len hT3.f, Cells.len hy3.v, d2]
  refine W_draw All ?_
  simp only [rn0, rn1, rn2, reduceIte, Nat.reduceEqDiff, Nat.reduceAdd, Nat.reduceMul, Nat.reduceSub, Nat.reduceLeDiff, Nat.reduceLT, r2.ld, trg, Nat.zero_add, x_sliceArr, Option.map_none, sliceArr_all (N := 6) (b := g2.next) (o := 0) (by omega) (by omega), x_copy, e4, r2'.ld]
  refine ⟨by omega, ?_⟩
  refine step_store (b := g2.next) (off := 6) (vs := [.int .i64 sp]) rfl hs4.get (by omega) (by omega) rfl rfl rfl (by rw [rowF_len]; simp) fun g5 hs5 => ?_
  rw [rowF_set (by omega)] at hs5
  have n5 := hs5.next
  have f5' := hs5.floor
  have k5 : Keep g2.next g3 g5 := k4.trans hs5.keep
  have hf5 := keepI hT2.f k5
  have r25 := r2.keep k5 (by omega)
  have r15 := r1.keep k5 (by omega)
  obtain ⟨g6, e6, hs6⟩ := copy_run (off := 7) (N := 4) (cap := 4) hs5.get (by omega) (by omega) hf5 z5 (by rw [rowF_len]; omega)
  rw [rowF_copy (by omega), tarr_rowF z4 z5] at hs6
  have n6 := hs6.next
  have f6' := hs6.floor
  have k6 : Keep g2.next g3 g6 := k5.trans hs6.keep
  have r16 := r1.keep k6 (by omega)
  have hy6 : SteepR g6 wv vv sv S := hy.mono fun i cs w gr t hg => by
    have := AHeap.lt_of_get hg
    exact k6.sub _ _ _ _ (by omega) (s3 _ _ _ _ t hg)
  obtain ⟨v, g7, e7, hv, hv1, old7, u7, nn7, f7'⟩ := unknowns_c (n := n) (h := g6) (by omega) (by omega) (by omega) hy6 ht z4 z5 (pb := g2.next)
  have hrow : Row g7 g2.next (tarr S (asU S a1 sp a2)) := ⟨_, _, by rw [old7 _ (by omega)]; exact hs6.get⟩
  have hrow7 : g7.get g2.next = some (.row (tarr S (asU S a1 sp a2)) true 0) := by rw [old7 _ (by omega)]; exact hs6.get
  have h0 : numU S = S.nw + 1 + S.nv := rfl
  have eq := everyUnk_c (n := n) (h := g7) (S := S) (pb := g2.next) (ok := .func (.func 104) #[] #[]) (p := fun i => uLo S i ≤ asU S a1 sp a2 i ∧ asU S a1 sp a2 i ≤ uHi S i) (by omega) (by omega) hv (by omega) fun g hs (hg : g.next ≤ g7.next + 40) i hi => by
    refine ⟨decide (uLo S i ≤ asU S a1 sp a2 i ∧ asU S a1 sp a2 i ≤ uHi S i), by simp, isIn_c (by omega) (by omega) ?_ rfl _ _⟩
    have hrg : Row g g2.next (tarr S (asU S a1 sp a2)) := hs _ _ _ _ trivial hrow7 |> fun e => ⟨_, _, e⟩
    rw [hrg.ld, tarr_get (adr_lt z4 z5 hi), cell_adr z4 hi]
  have hiff : (∀ i, i < numU S → uLo S i ≤ asU S a1 sp a2 i ∧ asU S a1 sp a2 i ≤ uHi S i) ↔ Listed S S.nw a1 sp S.nv a2 := by
    constructor
    · intro hu
      refine ⟨?_, rfl, rfl, fun i hi => ?_, fun i hi => ?_⟩
      · have := hu S.nw (by omega)
        rw [asU_s] at this
        simpa [uLo, uHi] using this
      · have := hu i (by omega)
        rw [asU_w hi] at this
        simpa [uLo, uHi, hi] using this
      · have := hu (S.nw + 1 + i) (by omega)
        rw [asU_f hi] at this
        have c1 : ¬ S.nw + 1 + i < S.nw := by omega
        have c2 : ¬ S.nw + 1 + i = S.nw := by omega
        have c3 : S.nw + 1 + i - S.nw - 1 = i := by omega
        simpa only [uLo, uHi, c1, c2, c3, if_false] using this
    · intro hl; exact hl.inU
  simp only [rn0, rn1, rn2, reduceIte, Nat.reduceEqDiff, Nat.reduceAdd, Nat.reduceMul, Nat.reduceSub, Nat.reduceLeDiff, Nat.reduceLT, r25.ld, trg, Nat.zero_add, Nat.reduceAdd]
  refine W_draw All ?_
  simp only [rn0, rn1, rn2, reduceIte, Nat.reduceEqDiff, Nat.reduceAdd, Nat.reduceMul, Nat.reduceSub, Nat.reduceLeDiff, Nat.reduceLT, r25.ld, trg, Nat.zero_add, Nat.reduceAdd, x_sliceArr, Option.map_none, sliceArr_all (N := 4) (b := g2.next) (o := 7) (by omega) (by omega), x_copy, e6]
  refine ⟨by omega, ?_⟩
  by_cases hl : Listed S S.nw a1 sp S.nv a2
  · have hR := hR1 hl
    have hd := eq_true (hiff.2 hl)
    simp only [rn0, rn1, rn2, reduceIte, Nat.reduceEqDiff, Nat.reduceAdd, Nat.reduceMul, Nat.reduceSub, Nat.reduceLeDiff, Nat.reduceLT, r16.whole (n := 8) rfl, e7, eq, hd, hrow.whole tarr_len]
    refine step_store (b := g2.next) (off := 0) (vs := tarr S (asU S a1 sp a2)) rfl hrow7 (by omega) (by omega) rfl tarr_one tarr_len (by rw [tarr_len]; omega) fun g8 hs8 => ?_
    rw [splice_all rfl] at hs8
    simp only [rn0, rn1, rn2, reduceIte, Nat.reduceEqDiff, Nat.reduceAdd, Nat.reduceMul, Nat.reduceSub, Nat.reduceLeDiff, Nat.reduceLT, res_11_1, hs8.row.whole tarr_len, hR]
  · have hR := hR0 hl
    have hd := eq_false fun e => hl (hiff.1 e)
    simp only [rn0, rn1, rn2, reduceIte, Nat.reduceEqDiff, Nat.reduceAdd, Nat.reduceMul, Nat.reduceSub, Nat.reduceLeDiff, Nat.reduceLT, r16.whole (n := 8) rfl, e7, eq, hd, build_z11]
    refine step_store (b := g2.next) (off := 0) (vs := z11) rfl hrow7 (by omega) (by omega) rfl rfl rfl (by rw [tarr_len]; omega) fun g8 hs8 => ?_
    rw [splice_all (by rw [tarr_len]; rfl)] at hs8
    simp only [rn0, rn1, rn2, reduceIte, Nat.reduceEqDiff, Nat.reduceAdd, Nat.reduceMul, Nat.reduceSub, Nat.reduceLeDiff, Nat.reduceLT, res_11_1, hs8.row.whole (n := 11) rfl, hR]
end Go.Vm.St
