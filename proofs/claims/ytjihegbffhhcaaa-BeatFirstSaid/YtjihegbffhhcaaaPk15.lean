/- Texts of the proofs of this seat, put together: BtFirstL. -/
import Derived.Test.YtjihegbffhhcaaaPk14

namespace Go.Vm.Bt
open Go.Proofs Go.Vm.Vat Go.Vm.L2
set_option linter.unusedSimpArgs false
set_option linter.unusedVariables false
set_option maxRecDepth 10000
variable {n : Nat} {h : AHeap}
theorem errP_can {S : MB} {b : Nat} (hG : Good S) (hc : CanB S b) : errS (pickedS S b) = 0 := errS_zero.2 ⟨picked_good hG, picked_can.2 hc⟩
theorem errP_no {S : MB} {b : Nat} (hG : Good S) (hc : ¬ CanB S b) : errS (pickedS S b) = 11 := by
  have h1 : truthsS (pickedS S b) = [] := Classical.byContradiction fun h => hc (picked_can.1 h)
  unfold errS
  rw [fault_of (picked_good hG), if_neg (by decide), if_pos h1]
theorem first_can {S : MB} (hG : Good S) (h0 : firstF S = none) : truthsS S ≠ [] := by
  by_cases c : S.ns = 0
  · intro e
    obtain ⟨t, ht⟩ := List.exists_mem_of_ne_nil _ (allE_ne hG)
    have hm : t ∈ truthsS S := truths_mem.2 ⟨allE_mem.1 ht, fun k hk => by omega⟩
    rw [e] at hm; cases hm
  have hb := fstP_none.1 h0 (S.ns - 1) (by omega)
  intro e
  refine hb fun t ht => ?_
  apply Classical.byContradiction
  intro hno
  have hm : t ∈ truthsS S := truths_mem.2 ⟨allE_mem.1 ht, fun k hk => by
      apply Classical.byContradiction
      intro hw
      exact hno ⟨k, by omega, hk, hw⟩⟩
  rw [e] at hm
  cases hm
theorem can_low {S : MB} (hG : Good S) {N : Nat} (hN : N < S.ns) (h0 : ∀ i, i < N → ¬ blkS S i) : CanB S (2 ^ N - 1) := by
  cases N with
  | zero =>
    obtain ⟨c, hc⟩ := List.exists_mem_of_ne_nil _ (allE_ne hG)
    refine ⟨c, hc, fun x _ hb => ?_⟩
    have := low_bits.1 hb
    omega
  | succ m => exact (can_blk (by omega)).2 (h0 m (by omega))
def s21 : SCode := (.seq (.ops [⟨(some 1), none, .box (T 0)⟩, ⟨(some 2), none, .mov (.const (.bool false))⟩]) (.seq (.seq (.ops [⟨(some 11), none, .loadN 5 (T 1)⟩, ⟨(some 12), none, .call (.func 63) [(T 11)]⟩, ⟨(some 13), none, .not (T 12)⟩]) (.cond (T 13) (.seq (.ops [⟨(some 14), none, .call (.func 24) []⟩, ⟨(some 2), none, .mov (T 14)⟩]) .ret) .skip)) (.seq (.ops [⟨(some 16), none, .loadN 5 (T 1)⟩, ⟨(some 17), none, .call (.func 26) [(T 16)]⟩, ⟨(some 18), none, .call (.func 53) [(T 17)]⟩, ⟨(some 15), none, .mov (T 18)⟩, ⟨(some 19), none, .extract 0 (T 15)⟩, ⟨(some 20), none, .extract 1 (T 15)⟩, ⟨(some 3), none, .mov (T 19)⟩, ⟨(some 4), none, .mov (T 20)⟩]) (.seq (.seq (.ops [⟨(some 21), none, .mov (T 4)⟩, ⟨(some 22), none, .int2 .neq (T 21) (.const (.int .i64 (0)))⟩]) (.cond (T 22) (.seq (.ops [⟨(some 24), none, .loadN 5 (T 1)⟩, ⟨(some 25), none, .call (.func 26) [(T 24)]⟩, ⟨(some 26), none, .call (.func 36) [(T 25)]⟩, ⟨(some 23), none, .mov (T 26)⟩, ⟨(some 27), none, .extract 0 (T 23)⟩, ⟨(some 28), none, .extract 1 (T 23)⟩, ⟨(some 5), none, .mov (T 27)⟩, ⟨(some 6), none, .mov (T 28)⟩]) (.seq (.ops [⟨(some 29), none, .mov (T 4)⟩, ⟨(some 30), none, .int2 .eql (T 29) (.const (.int .i64 (7)))⟩, ⟨(some 31), none, .mov (T 30)⟩, ⟨(some 32), (some (31, true)), .mov (T 6)⟩, ⟨(some 33), (some (31, true)), .int2 .eql (T 32) (.const (.int .i64 (0)))⟩, ⟨(some 34), none, .pick (T 31) (T 33) (.const (.bool false))⟩, ⟨(some 35), none, .mov (T 34)⟩, ⟨(some 36), (some (35, true)), .call (.func 24) []⟩, ⟨(some 37), none, .pick (T 35) (T 36) (.const (.bool false))⟩, ⟨(some 2), none, .mov (T 37)⟩]) .ret)) .skip)) (.seq (.seq (.ops [⟨(some 38), none, .mov (T 3)⟩, ⟨(some 39), none, .fieldAddr 4 (T 1)⟩, ⟨(some 40), none, .load1 (T 39)⟩, ⟨(some 41), none, .len (T 40)⟩, ⟨(some 42), none, .int2 .sub (T 41) (.const (.int .i64 (1)))⟩, ⟨(some 43), none, .call (.func 39) [(T 38), (.const (.int .i64 (0))), (T 42)]⟩, ⟨(some 44), none, .not (T 43)⟩]) (.cond (T 44) (.seq (.ops [⟨(some 2), none, .mov (.const (.bool false))⟩]) .ret) .skip)) (.seq (.ops [⟨(some 46), none, .loadN 5 (T 1)⟩, ⟨(some 47), none, .mov (T 3)⟩, ⟨(some 48), none, .plain (.convert 3 117 (T 47)) 117⟩, ⟨(some 49), none, .plain (.binOp .shl 3 (.const (.int .i64 (1))) (T 48) 117) 3⟩, ⟨(some 50), none, .int2 .sub (T 49) (.const (.int .i64 (1)))⟩, ⟨(some 51), none, .call (.func 74) [(T 46), (T 50)]⟩, ⟨(some 52), none, .call (.func 26) [(T 51)]⟩, ⟨(some 53), none, .call (.func 36) [(T 52)]⟩, ⟨(some 45), none, .mov (T 53)⟩, ⟨(some 54), none, .extract 0 (T 45)⟩, ⟨(some 55), none, .extract 1 (T 45)⟩, ⟨(some 7), none, .mov (T 54)⟩, ⟨(some 8), none, .mov (T 55)⟩]) (.seq (.ops [⟨(some 57), none, .loadN 5 (T 1)⟩, ⟨(some 58), none, .mov (T 3)⟩, ⟨(some 59), none, .plain (.convert 3 117 (T 58)) 117⟩, ⟨(some 60), none, .plain (.binOp .shl 3 (.const (.int .i64 (2))) (T 59) 117) 3⟩, ⟨(some 61), none, .int2 .sub (T 60) (.const (.int .i64 (1)))⟩, ⟨(some 62), none, .call (.func 74) [(T 57), (T 61)]⟩, ⟨(some 63), none, .call (.func 26) [(T 62)]⟩, ⟨(some 64), none, .call (.func 36) [(T 63)]⟩, ⟨(some 56), none, .mov (T 64)⟩, ⟨(some 65), none, .extract 0 (T 56)⟩, ⟨(some 66), none, .extract 1 (T 56)⟩, ⟨(some 9), none, .mov (T 65)⟩, ⟨(some 10), none, .mov (T 66)⟩]) (.seq (.ops [⟨(some 67), none, .mov (T 8)⟩, ⟨(some 68), none, .int2 .eql (T 67) (.const (.int .i64 (0)))⟩, ⟨(some 69), none, .mov (T 68)⟩, ⟨(some 70), (some (69, true)), .mov (T 10)⟩, ⟨(some 71), (some (69, true)), .int2 .eql (T 70) (.const (.int .i64 (11)))⟩, ⟨(some 72), none, .pick (T 69) (T 71) (.const (.bool false))⟩, ⟨(some 73), none, .mov (T 72)⟩, ⟨(some 74), (some (73, true)), .call (.func 24) []⟩, ⟨(some 75), none, .pick (T 73) (T 74) (.const (.bool false))⟩, ⟨(some 2), none, .mov (T 75)⟩]) .ret))))))))
theorem fok21 : FnOk Try.prog 21 76 s21 [.tmp 2] := ⟨Try.f21, _, Try.func21, rfl, Try.ntmps21, by kernel_rfl, by kernel_rfl⟩
set_option maxHeartbeats 2000000 in
theorem firstL_c (hn : 1500 ≤ n) (hr : h.next + 400000 < far) (hfl : h.floor ≤ h.next) {vv sv : Value} {S : MB} (hy : BeatR h vv sv S) :
    ∃ v h', call n (.func (.func 21) #[] #[]) [.agg ⟨beL S vv sv⟩] h = some (v, h') ∧ v = .bool true := by
  obtain ⟨n, rfl⟩ : ∃ p, n = p + 1 := ⟨n - 1, by omega⟩
  refine call_any0 fok21 rfl rfl (by simp) ?_
  simp only [s21, W_seq, W_ops]
  refine ops_box (cs := beL S vv sv) (by omega) rfl hy.one fun g1 hx1 => ?_
  have n1 := hx1.next
  have f1 := hx1.floor
  have hy1 := hy.mono hx1.sub
  have r1 := hx1.row
  have er := ready_c (n := n) (h := g1) (by omega) (by omega) hy1
  have haw := awake_c (n := n) (h := g1) (by omega)
  by_cases hTf : Rdy S
  case neg => simp only [rn0, rn1, rn2, rn3, rn4, rn5, rn6, rn7, rn8, if_true, if_false, Nat.le_refl, true_and, and_true, decide_true, decide_false, Bool.not_true, Bool.not_false, reduceIte, Nat.reduceEqDiff, Nat.reduceAdd, Nat.reduceMul, Nat.reduceSub, Nat.reduceLeDiff, Nat.reduceLT, r1.whole (n := 5) rfl, er, hTf, g_un, haw]
  have hdt : decide (Rdy S) = true := decide_eq_true hTf
  obtain ⟨hth, hf⟩ := hTf
  have hG := good_of hf
  obtain ⟨z0, z1, z3, z5, _⟩ := hG.sizes
  obtain ⟨v2, s2, g2, e2, hy2, o2, u2, m2, f2⟩ := beatL_c (n := n) (h := g1) (by omega) (by omega) (by omega) hy1 hth
  have sub2 : Sub All g1 g2 := AHeap.subOf o2
  have ef := firstP_c (n := n) (h := g2) (by omega) (by omega) hy2 hth
  have r2 := r1.mono sub2
  have hyb := hy1.mono sub2
  have q1 : firstV S = optI (firstF S) 0 := if_pos hf
  have q2 : firstE S = if firstF S = none then 7 else 0 := if_pos hf
  rw [q1, q2] at ef
  cases hN : firstF S with
  | none =>
    obtain ⟨v3, s3, g3, e3, hy3, o3, u3, m3, f3⟩ := beatL_c (n := n) (h := g2) (by omega) (by omega) (by omega) hyb hth
    obtain ⟨r4, g4, e4, b4, oo4, o4, u4, m4, f4⟩ := boundsV_c (n := n) (h := g3) (by omega) (by omega) (by omega) hy3 hth
    have he : errS S = 0 := errS_zero.2 ⟨hG, first_can hG hN⟩
    rw [he] at e4
    rw [hN] at ef
    change call n _ _ g2 = some (.tuple ⟨[.int .i64 0, .int .i64 7]⟩, g2) at ef
    simp only [rn0, rn1, rn2, rn3, rn4, rn5, rn6, rn7, rn8, if_true, if_false, Nat.le_refl, true_and, and_true, decide_true, decide_false, Bool.not_true, Bool.not_false, reduceIte, Nat.reduceEqDiff, Nat.reduceAdd, Nat.reduceMul, Nat.reduceSub, Nat.reduceLeDiff, Nat.reduceLT, r1.whole (n := 5) rfl, er, hdt, e2, ef, ex0, ex1, Int.reduceEq, r2.whole (n := 5) rfl, e3, e4, g_un, awake_c (n := n) (h := g4) (by omega)]
  | some N =>
    obtain ⟨hNn, hblk, hfst⟩ := fstP_some hN
    rw [hN] at ef
    change call n _ _ g2 = some (.tuple ⟨[.int .i64 (N : Int), .int .i64 0]⟩, g2) at ef
    have hin := in_c (n := n) (h := g2) (by omega) (N : Int) 0 ((S.ns : Int) - 1)
    have hin' : decide (0 ≤ (N : Int) ∧ (N : Int) ≤ (S.ns : Int) - 1) = true := decide_eq_true (by omega)
    rw [hin'] at hin
    have hwn : wrapF .i64 ((S.ns : Int) - 1) = (S.ns : Int) - 1 := wrap_in (by omega) (by omega)
    have p1 : (2 ^ N : Nat) < 2 ^ 61 := Nat.pow_lt_pow_right (by omega) (by omega)
    have p2 : (2 ^ (N + 1) : Nat) < 2 ^ 62 := Nat.pow_lt_pow_right (by omega) (by omega)
    have p3 : 0 < (2 ^ N : Nat) := Nat.pow_pos (by omega)
    have p4 : 0 < (2 ^ (N + 1) : Nat) := Nat.pow_pos (by omega)
    have hw1 : wrapF .i64 (((2 ^ N : Nat) : Int) - 1) = ((2 ^ N - 1 : Nat) : Int) := by rw [wrap_in (by omega) (by omega)]; omega
    have hw2 : wrapF .i64 (((2 ^ (N + 1) : Nat) : Int) - 1) = ((2 ^ (N + 1) - 1 : Nat) : Int) := by rw [wrap_in (by omega) (by omega)]; omega
    have c1 : CanB S (2 ^ N - 1) := can_low hG hNn hfst
    have c2 : ¬ CanB S (2 ^ (N + 1) - 1) := fun q => (can_blk hNn).1 q hblk
    generalize 2 ^ N - 1 = b1 at hw1 c1
    generalize 2 ^ (N + 1) - 1 = b2 at hw2 c2
    obtain ⟨s3, g3, e3, hy3, o3, u3, m3, f3⟩ := some_c (n := n) (h := g2) (bits := b1) (by omega) (by omega) (by omega) hyb z5
    obtain ⟨v4, s4, g4, e4, hy4, o4, u4, m4, f4⟩ := beatL_c (n := n) (h := g3) (by omega) (by omega) (by omega) hy3 (picked_thin hth)
    obtain ⟨r5, g5, e5, b5, oo5, o5, u5, m5, f5⟩ := boundsV_c (n := n) (h := g4) (by omega) (by omega) (by omega) hy4 (picked_thin hth)
    rw [errP_can hG c1] at e5
    have sub5 : Sub All g2 g5 := (AHeap.subOf o3).trans ((AHeap.subOf o4).trans (AHeap.subOf o5))
    have rr5 := r2.mono sub5
    obtain ⟨s6, g6, e6, hy6, o6, u6, m6, f6⟩ := some_c (n := n) (h := g5) (bits := b2) (by omega) (by omega) (by omega) (hyb.mono sub5) z5
    obtain ⟨v7, s7, g7, e7, hy7, o7, u7, m7, f7⟩ := beatL_c (n := n) (h := g6) (by omega) (by omega) (by omega) hy6 (picked_thin hth)
    obtain ⟨r8, g8, e8, b8, oo8, o8, u8, m8, f8⟩ := boundsV_c (n := n) (h := g7) (by omega) (by omega) (by omega) hy7 (picked_thin hth)
    rw [errP_no hG c2] at e8
    simp only [rn0, rn1, rn2, rn3, rn4, rn5, rn6, rn7, rn8, if_true, if_false, Nat.le_refl, true_and, and_true, decide_true, decide_false, Bool.not_true, Bool.not_false, reduceIte, Nat.reduceEqDiff, Nat.reduceAdd, Nat.reduceMul, Nat.reduceSub, Nat.reduceLeDiff, Nat.reduceLT, r1.whole (n := 5) rfl, er, hdt, e2, ef, ex0, ex1, Int.reduceEq, r2.ld, beg, Nat.zero_add, Cells.len hyb.s, hwn, hin, r2.whole (n := 5) rfl, p_uint, r_conv (k := N) (by omega), r_shl (k := N) (by omega), r_shl2 (k := N) (by omega), valN_tmp, valN_const, Nat.reduceLT, hw1, hw2, e3, e4, e5, rr5.whole (n := 5) rfl, e6, e7, e8, g_un, awake_c (n := n) (h := g8) (by omega)]
end Go.Vm.Bt
