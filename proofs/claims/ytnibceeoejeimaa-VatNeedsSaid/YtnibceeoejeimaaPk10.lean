/- Texts of the proofs of this seat, put together: VatNeeds3. -/
import Derived.Test.YtnibceeoejeimaaPk9

namespace Go.Vm.Vat
open Go.Proofs
set_option linter.unusedSimpArgs false
set_option linter.unusedVariables false
set_option maxRecDepth 10000
variable {n : Nat} {h : AHeap}

def s6 : SCode := (.seq (.ops [⟨(some 4), none, .box (T 0)⟩, ⟨(some 8), none, .mov (.const (.bool false))⟩]) (.seq (.seq (.ops [⟨(some 15), none, .loadN 3 (T 4)⟩, ⟨(some 16), none, .call (.func 23) [(T 15)]⟩, ⟨(some 17), none, .not (T 16)⟩]) (.cond (T 17) (.seq (.ops [⟨(some 18), none, .call (.func 24) []⟩, ⟨(some 8), none, .mov (T 18)⟩]) .ret) .skip)) (.seq (.ops [⟨(some 20), none, .loadN 3 (T 4)⟩, ⟨(some 21), none, .call (.func 26) [(T 20)]⟩, ⟨(some 22), none, .mov (T 1)⟩, ⟨(some 23), none, .mov (T 2)⟩, ⟨(some 24), none, .mov (T 3)⟩, ⟨(some 25), none, .call (.func 46) [(T 21), (T 22), (T 23), (T 24)]⟩, ⟨(some 19), none, .mov (T 25)⟩, ⟨(some 26), none, .extract 0 (T 19)⟩, ⟨(some 27), none, .extract 1 (T 19)⟩, ⟨(some 9), none, .mov (T 26)⟩, ⟨(some 10), none, .mov (T 27)⟩]) (.seq (.ops [⟨(some 11), none, .mov (.const (.int .i64 (0)))⟩]) (.seq (.seq (.ops [⟨(some 28), none, .mov (T 1)⟩, ⟨(some 29), none, .fieldAddr 1 (T 4)⟩, ⟨(some 30), none, .load1 (T 29)⟩, ⟨(some 31), none, .len (T 30)⟩, ⟨(some 32), none, .int2 .sub (T 31) (.const (.int .i64 (1)))⟩, ⟨(some 33), none, .call (.func 42) [(T 28), (.const (.int .i64 (0))), (T 32)]⟩, ⟨(some 34), none, .not (T 33)⟩, ⟨(some 35), none, .mov (T 34)⟩, ⟨(some 36), (some (35, false)), .mov (T 2)⟩, ⟨(some 37), (some (35, false)), .fieldAddr 0 (T 4)⟩, ⟨(some 38), (some (35, false)), .load1 (T 37)⟩, ⟨(some 39), (some (35, false)), .len (T 38)⟩, ⟨(some 40), (some (35, false)), .int2 .sub (T 39) (.const (.int .i64 (1)))⟩, ⟨(some 41), (some (35, false)), .call (.func 42) [(T 36), (.const (.int .i64 (0))), (T 40)]⟩, ⟨(some 42), (some (35, false)), .not (T 41)⟩, ⟨(some 43), none, .pick (T 35) (.const (.bool true)) (T 42)⟩, ⟨(some 44), none, .mov (T 43)⟩, ⟨(some 45), (some (44, false)), .mov (T 3)⟩, ⟨(some 46), (some (44, false)), .call (.func 42) [(T 45), (.const (.int .i64 (0))), (.const (.int .i64 (999)))]⟩, ⟨(some 47), (some (44, false)), .not (T 46)⟩, ⟨(some 48), none, .pick (T 44) (.const (.bool true)) (T 47)⟩]) (.cond (T 48) (.ops [⟨(some 11), none, .mov (.const (.int .i64 (2)))⟩]) .skip)) (.seq (.ops [⟨(some 50), none, .loadN 3 (T 4)⟩, ⟨(some 51), none, .mov (T 11)⟩, ⟨(some 52), none, .call (.func 43) [(T 50), (T 51)]⟩, ⟨(some 49), none, .mov (T 52)⟩, ⟨(some 53), none, .extract 0 (T 49)⟩, ⟨(some 54), none, .extract 1 (T 49)⟩, ⟨(some 12), none, .mov (T 53)⟩, ⟨(some 13), none, .mov (T 54)⟩]) (.seq (.seq (.ops [⟨(some 55), none, .mov (T 13)⟩, ⟨(some 56), none, .int2 .neq (T 55) (.const (.int .i64 (0)))⟩]) (.cond (T 56) (.seq (.ops [⟨(some 57), none, .mov (T 10)⟩, ⟨(some 58), none, .mov (T 13)⟩, ⟨(some 59), none, .int2 .eql (T 57) (T 58)⟩, ⟨(some 60), none, .mov (T 59)⟩, ⟨(some 61), (some (60, true)), .mov (T 9)⟩, ⟨(some 62), (some (60, true)), .int2 .eql (T 61) (.const (.int .i64 (0)))⟩, ⟨(some 63), none, .pick (T 60) (T 62) (.const (.bool false))⟩, ⟨(some 64), none, .mov (T 63)⟩, ⟨(some 65), (some (64, true)), .call (.func 24) []⟩, ⟨(some 66), none, .pick (T 64) (T 65) (.const (.bool false))⟩, ⟨(some 8), none, .mov (T 66)⟩]) .ret) .skip)) (.seq (.seq (.ops [⟨(some 67), none, .loadN 3 (T 4)⟩, ⟨(some 68), none, .mov (T 12)⟩, ⟨(some 69), none, .mov (T 1)⟩, ⟨(some 70), none, .mov (T 2)⟩, ⟨(some 71), none, .mov (T 3)⟩, ⟨(some 72), none, .call (.func 47) [(T 67), (T 68), (T 69), (T 70), (T 71)]⟩, ⟨(some 14), none, .mov (T 72)⟩]) (.seq (.ops [⟨(some 73), none, .mov (T 14)⟩, ⟨(some 74), none, .int2 .geq (T 73) (.const (.int .i64 (0)))⟩]) (.cond (T 74) (.seq (.ops [⟨(some 75), none, .mov (T 10)⟩, ⟨(some 76), none, .int2 .eql (T 75) (.const (.int .i64 (0)))⟩, ⟨(some 77), none, .mov (T 76)⟩, ⟨(some 78), (some (77, true)), .mov (T 9)⟩, ⟨(some 79), (some (77, true)), .mov (T 14)⟩, ⟨(some 80), (some (77, true)), .int2 .eql (T 78) (T 79)⟩, ⟨(some 81), none, .pick (T 77) (T 80) (.const (.bool false))⟩, ⟨(some 82), none, .mov (T 81)⟩, ⟨(some 83), (some (82, true)), .call (.func 24) []⟩, ⟨(some 84), none, .pick (T 82) (T 83) (.const (.bool false))⟩, ⟨(some 8), none, .mov (T 84)⟩]) .ret) .skip))) (.seq (.ops [⟨(some 85), none, .mov (T 10)⟩, ⟨(some 86), none, .int2 .eql (T 85) (.const (.int .i64 (10)))⟩, ⟨(some 87), none, .mov (T 86)⟩, ⟨(some 88), (some (87, true)), .mov (T 9)⟩, ⟨(some 89), (some (87, true)), .int2 .eql (T 88) (.const (.int .i64 (0)))⟩, ⟨(some 90), none, .pick (T 87) (T 89) (.const (.bool false))⟩, ⟨(some 91), none, .mov (T 90)⟩, ⟨(some 92), (some (91, true)), .call (.func 24) []⟩, ⟨(some 93), none, .pick (T 91) (T 92) (.const (.bool false))⟩, ⟨(some 8), none, .mov (T 93)⟩]) .ret)))))))))
theorem fok6 : FnOk Try.prog 6 94 s6 [.tmp 8] := ⟨Try.f6, _, Try.func6, rfl, Try.ntmps6, by kernel_rfl, by kernel_rfl⟩
open Classical in
theorem needsLaw_1 (hn : 10080 ≤ n) (hr : h.next + 1000000 < far) (hfl : h.floor ≤ h.next) {fv vv sv : Value} {Y : MY} (hy : YardR h fv vv sv Y) (one field blue : Int) (hT : Thin Y) (a1 : ¬ (0 ≤ one ∧ one ≤ (Y.nv : Int) - 1)) :
    ∃ v h', call n (.func (.func 6) #[] #[]) [.agg ⟨[fv, vv, sv]⟩, .int .i64 one, .int .i64 field, .int .i64 blue] h = some (v, h') ∧ v = .bool true := by
  obtain ⟨n, rfl⟩ : ∃ p, n = p + 1 := ⟨n - 1, by omega⟩
  refine call_any0 fok6 rfl rfl (by simp) ?_
  simp only [s6, W_seq, W_ops]
  refine ops_box (cs := [fv, vv, sv]) (by omega) rfl hy.one fun g1 hx1 => ?_
  have n1 := hx1.next
  have f1 := hx1.floor
  have hy1 := hy.mono hx1.sub
  have w1 := hx1.row.whole (n := 3) rfl
  have ht := thin_c (n := n) (h := g1) (by omega) (by omega) hy1
  obtain ⟨F1, V1, S1, g2, ey2, hy2, m2⟩ := yard_c (n := n) (h := g1) (by omega) (by omega) (by omega) hy1 hT
  have n2 := m2.next
  have u2 := m2.up
  have f2 := m2.floor
  have en := needs_c (n := n) (h := g2) (by omega) (by omega) hy2 hT one field blue
  have hy12 := hy1.mono m2.sub
  have rw2 := hx1.row.mono m2.sub
  have w2 := rw2.whole (n := 3) rfl
  obtain ⟨rr, hrw, hq⟩ := hy12.v
  obtain ⟨t1, t2, t3, t4⟩ := hT
  have wv : wrapF .i64 ((Y.nv : Int) - 1) = (Y.nv : Int) - 1 := wrap_in (by omega) (by omega)
  have wf : wrapF .i64 ((Y.nf : Int) - 1) = (Y.nf : Int) - 1 := wrap_in (by omega) (by omega)
  have i1 := in_c (n := n) (h := g2) (by omega) one 0 ((Y.nv : Int) - 1)
  have i2 := in_c (n := n) (h := g2) (by omega) field 0 ((Y.nf : Int) - 1)
  have i3 := in_c (n := n) (h := g2) (by omega) blue 0 999
  have hz := @asked_c n g2 (by omega) (by omega) (by omega) fv vv sv Y hy12
  have hT' : Thin Y := ⟨t1, t2, t3, t4⟩
  have hna : ¬ NeedsArgs Y one field blue := fun h => a1 h.1
  obtain ⟨v, g3, ea, m3, hv⟩ := hz 2
  have haw := awake_c (n := n) (h := g3) (by omega)
  rcases hv with ⟨hf, rfl⟩ | ⟨hf, _, rfl⟩ | ⟨_, h0, _⟩ | ⟨_, h0, _⟩
  · have hnv : needsV Y one field blue = (0, faultN Y) := by unfold needsV; rw [if_pos hf]
    rw [hnv] at en
    simp only [W_skip, W_ret, W_exit, W_seq, W_block, then_norm', then_exit', then_ret', block_norm', block_ret', block_exit', W_cond, cond_true', cond_false', W_ops, ops_nil, ops_cons, ops_guard, step_some, g_tt, g_tf, g_ft, g_ff, put_some, put_none, upd_ite, val_tmp, fr0_zero, fr0_succ, ret_ret, ret_norm, res_tmp, ex_some, val_const, val_func, vals_nil, vals_cons, d_nil, d_free, d_rd1, d_rd, d_up, d_any, same_some, up_some, all_reads, Sub.refl, x_mov, x_pick, pick_t, pick_f, x_field1, x_fieldN, x_extract, x_box, x_alloc, x_load1, x_loadN, withH_some', x_store, x_mkfunc, x_mkslice, x_slice, x_fieldAddr, fieldAt_p, x_idxArr, x_idxSl, x_append, x_there, x_len, len_slice, x_not, not_bool, x_call, x_int2, i_add, i_sub, i_mul, i_eql, i_neq, i_lss, i_leq, i_gtr, i_geq, x_plain, p_min, p_max, p_rem, p_quo, r_min, r_max, p_shl, p_or, p_and, p_andNot, eqV_i, x_bslice, x_build, res_cellN, res_cell1, valN_tmp, valN_const, if_true, if_false, Nat.le_refl, true_and, and_true, decide_true, decide_false, Bool.not_true, Bool.not_false, reduceIte, Nat.reduceEqDiff, Nat.reduceAdd, Nat.reduceMul, Nat.reduceSub, Nat.reduceLeDiff, Nat.reduceLT, w1, ht, hT', ey2, en, rw2.ld, w2, Nat.zero_add, List.getElem?_cons_zero, List.getElem?_cons_succ, Cells.len hrw, Cells.len hy12.f, wv, wf, i1, i2, i3, ea, ex0, ex1, a1, hf, haw]
  · have hnv : needsV Y one field blue = (0, 2) := by unfold needsV; rw [if_neg (by simpa using hf), if_pos hna]
    rw [hnv] at en
    simp only [W_skip, W_ret, W_exit, W_seq, W_block, then_norm', then_exit', then_ret', block_norm', block_ret', block_exit', W_cond, cond_true', cond_false', W_ops, ops_nil, ops_cons, ops_guard, step_some, g_tt, g_tf, g_ft, g_ff, put_some, put_none, upd_ite, val_tmp, fr0_zero, fr0_succ, ret_ret, ret_norm, res_tmp, ex_some, val_const, val_func, vals_nil, vals_cons, d_nil, d_free, d_rd1, d_rd, d_up, d_any, same_some, up_some, all_reads, Sub.refl, x_mov, x_pick, pick_t, pick_f, x_field1, x_fieldN, x_extract, x_box, x_alloc, x_load1, x_loadN, withH_some', x_store, x_mkfunc, x_mkslice, x_slice, x_fieldAddr, fieldAt_p, x_idxArr, x_idxSl, x_append, x_there, x_len, len_slice, x_not, not_bool, x_call, x_int2, i_add, i_sub, i_mul, i_eql, i_neq, i_lss, i_leq, i_gtr, i_geq, x_plain, p_min, p_max, p_rem, p_quo, r_min, r_max, p_shl, p_or, p_and, p_andNot, eqV_i, x_bslice, x_build, res_cellN, res_cell1, valN_tmp, valN_const, if_true, if_false, Nat.le_refl, true_and, and_true, decide_true, decide_false, Bool.not_true, Bool.not_false, reduceIte, Nat.reduceEqDiff, Nat.reduceAdd, Nat.reduceMul, Nat.reduceSub, Nat.reduceLeDiff, Nat.reduceLT, w1, ht, hT', ey2, en, rw2.ld, w2, Nat.zero_add, List.getElem?_cons_zero, List.getElem?_cons_succ, Cells.len hrw, Cells.len hy12.f, wv, wf, i1, i2, i3, ea, ex0, ex1, a1, haw, Int.reduceEq]
  · exact absurd h0 (by decide)
  · exact absurd h0 (by decide)

open Classical in
theorem needsLaw_2 (hn : 10080 ≤ n) (hr : h.next + 1000000 < far) (hfl : h.floor ≤ h.next) {fv vv sv : Value} {Y : MY} (hy : YardR h fv vv sv Y) (one field blue : Int) (hT : Thin Y) (a1 : 0 ≤ one ∧ one ≤ (Y.nv : Int) - 1) (a2 : ¬ (0 ≤ field ∧ field ≤ (Y.nf : Int) - 1)) :
    ∃ v h', call n (.func (.func 6) #[] #[]) [.agg ⟨[fv, vv, sv]⟩, .int .i64 one, .int .i64 field, .int .i64 blue] h = some (v, h') ∧ v = .bool true := by
  obtain ⟨n, rfl⟩ : ∃ p, n = p + 1 := ⟨n - 1, by omega⟩
  refine call_any0 fok6 rfl rfl (by simp) ?_
  simp only [s6, W_seq, W_ops]
  refine ops_box (cs := [fv, vv, sv]) (by omega) rfl hy.one fun g1 hx1 => ?_
  have n1 := hx1.next
  have f1 := hx1.floor
  have hy1 := hy.mono hx1.sub
  have w1 := hx1.row.whole (n := 3) rfl
  have ht := thin_c (n := n) (h := g1) (by omega) (by omega) hy1
  obtain ⟨F1, V1, S1, g2, ey2, hy2, m2⟩ := yard_c (n := n) (h := g1) (by omega) (by omega) (by omega) hy1 hT
  have n2 := m2.next
  have u2 := m2.up
  have f2 := m2.floor
  have en := needs_c (n := n) (h := g2) (by omega) (by omega) hy2 hT one field blue
  have hy12 := hy1.mono m2.sub
  have rw2 := hx1.row.mono m2.sub
  have w2 := rw2.whole (n := 3) rfl
  obtain ⟨rr, hrw, hq⟩ := hy12.v
  obtain ⟨t1, t2, t3, t4⟩ := hT
  have wv : wrapF .i64 ((Y.nv : Int) - 1) = (Y.nv : Int) - 1 := wrap_in (by omega) (by omega)
  have wf : wrapF .i64 ((Y.nf : Int) - 1) = (Y.nf : Int) - 1 := wrap_in (by omega) (by omega)
  have i1 := in_c (n := n) (h := g2) (by omega) one 0 ((Y.nv : Int) - 1)
  have i2 := in_c (n := n) (h := g2) (by omega) field 0 ((Y.nf : Int) - 1)
  have i3 := in_c (n := n) (h := g2) (by omega) blue 0 999
  have hz := @asked_c n g2 (by omega) (by omega) (by omega) fv vv sv Y hy12
  have hT' : Thin Y := ⟨t1, t2, t3, t4⟩
  have hna : ¬ NeedsArgs Y one field blue := fun h => a2 h.2.1
  obtain ⟨v, g3, ea, m3, hv⟩ := hz 2
  have haw := awake_c (n := n) (h := g3) (by omega)
  rcases hv with ⟨hf, rfl⟩ | ⟨hf, _, rfl⟩ | ⟨_, h0, _⟩ | ⟨_, h0, _⟩
  · have hnv : needsV Y one field blue = (0, faultN Y) := by unfold needsV; rw [if_pos hf]
    rw [hnv] at en
    simp only [W_skip, W_ret, W_exit, W_seq, W_block, then_norm', then_exit', then_ret', block_norm', block_ret', block_exit', W_cond, cond_true', cond_false', W_ops, ops_nil, ops_cons, ops_guard, step_some, g_tt, g_tf, g_ft, g_ff, put_some, put_none, upd_ite, val_tmp, fr0_zero, fr0_succ, ret_ret, ret_norm, res_tmp, ex_some, val_const, val_func, vals_nil, vals_cons, d_nil, d_free, d_rd1, d_rd, d_up, d_any, same_some, up_some, all_reads, Sub.refl, x_mov, x_pick, pick_t, pick_f, x_field1, x_fieldN, x_extract, x_box, x_alloc, x_load1, x_loadN, withH_some', x_store, x_mkfunc, x_mkslice, x_slice, x_fieldAddr, fieldAt_p, x_idxArr, x_idxSl, x_append, x_there, x_len, len_slice, x_not, not_bool, x_call, x_int2, i_add, i_sub, i_mul, i_eql, i_neq, i_lss, i_leq, i_gtr, i_geq, x_plain, p_min, p_max, p_rem, p_quo, r_min, r_max, p_shl, p_or, p_and, p_andNot, eqV_i, x_bslice, x_build, res_cellN, res_cell1, valN_tmp, valN_const, if_true, if_false, Nat.le_refl, true_and, and_true, decide_true, decide_false, Bool.not_true, Bool.not_false, reduceIte, Nat.reduceEqDiff, Nat.reduceAdd, Nat.reduceMul, Nat.reduceSub, Nat.reduceLeDiff, Nat.reduceLT, w1, ht, hT', ey2, en, rw2.ld, w2, Nat.zero_add, List.getElem?_cons_zero, List.getElem?_cons_succ, Cells.len hrw, Cells.len hy12.f, wv, wf, i1, i2, i3, ea, ex0, ex1, a1, a2, and_self, hf, haw]
  · have hnv : needsV Y one field blue = (0, 2) := by unfold needsV; rw [if_neg (by simpa using hf), if_pos hna]
    rw [hnv] at en
    simp only [W_skip, W_ret, W_exit, W_seq, W_block, then_norm', then_exit', then_ret', block_norm', block_ret', block_exit', W_cond, cond_true', cond_false', W_ops, ops_nil, ops_cons, ops_guard, step_some, g_tt, g_tf, g_ft, g_ff, put_some, put_none, upd_ite, val_tmp, fr0_zero, fr0_succ, ret_ret, ret_norm, res_tmp, ex_some, val_const, val_func, vals_nil, vals_cons, d_nil, d_free, d_rd1, d_rd, d_up, d_any, same_some, up_some, all_reads, Sub.refl, x_mov, x_pick, pick_t, pick_f, x_field1, x_fieldN, x_extract, x_box, x_alloc, x_load1, x_loadN, withH_some', x_store, x_mkfunc, x_mkslice, x_slice, x_fieldAddr, fieldAt_p, x_idxArr, x_idxSl, x_append, x_there, x_len, len_slice, x_not, not_bool, x_call, x_int2, i_add, i_sub, i_mul, i_eql, i_neq, i_lss, i_leq, i_gtr, i_geq, x_plain, p_min, p_max, p_rem, p_quo, r_min, r_max, p_shl, p_or, p_and, p_andNot, eqV_i, x_bslice, x_build, res_cellN, res_cell1, valN_tmp, valN_const, if_true, if_false, Nat.le_refl, true_and, and_true, decide_true, decide_false, Bool.not_true, Bool.not_false, reduceIte, Nat.reduceEqDiff, Nat.reduceAdd, Nat.reduceMul, Nat.reduceSub, Nat.reduceLeDiff, Nat.reduceLT, w1, ht, hT', ey2, en, rw2.ld, w2, Nat.zero_add, List.getElem?_cons_zero, List.getElem?_cons_succ, Cells.len hrw, Cells.len hy12.f, wv, wf, i1, i2, i3, ea, ex0, ex1, a1, a2, and_self, haw, Int.reduceEq]
  · exact absurd h0 (by decide)
  · exact absurd h0 (by decide)

open Classical in
theorem needsLaw_3 (hn : 10080 ≤ n) (hr : h.next + 1000000 < far) (hfl : h.floor ≤ h.next) {fv vv sv : Value} {Y : MY} (hy : YardR h fv vv sv Y) (one field blue : Int) (hT : Thin Y) (a1 : 0 ≤ one ∧ one ≤ (Y.nv : Int) - 1) (a2 : 0 ≤ field ∧ field ≤ (Y.nf : Int) - 1) (a3 : ¬ (0 ≤ blue ∧ blue ≤ 999)) :
    ∃ v h', call n (.func (.func 6) #[] #[]) [.agg ⟨[fv, vv, sv]⟩, .int .i64 one, .int .i64 field, .int .i64 blue] h = some (v, h') ∧ v = .bool true := by
  obtain ⟨n, rfl⟩ : ∃ p, n = p + 1 := ⟨n - 1, by omega⟩
  refine call_any0 fok6 rfl rfl (by simp) ?_
  simp only [s6, W_seq, W_ops]
  refine ops_box (cs := [fv, vv, sv]) (by omega) rfl hy.one fun g1 hx1 => ?_
  have n1 := hx1.next
  have f1 := hx1.floor
  have hy1 := hy.mono hx1.sub
  have w1 := hx1.row.whole (n := 3) rfl
  have ht := thin_c (n := n) (h := g1) (by omega) (by omega) hy1
  obtain ⟨F1, V1, S1, g2, ey2, hy2, m2⟩ := yard_c (n := n) (h := g1) (by omega) (by omega) (by omega) hy1 hT
  have n2 := m2.next
  have u2 := m2.up
  have f2 := m2.floor
  have en := needs_c (n := n) (h := g2) (by omega) (by omega) hy2 hT one field blue
  have hy12 := hy1.mono m2.sub
  have rw2 := hx1.row.mono m2.sub
  have w2 := rw2.whole (n := 3) rfl
  obtain ⟨rr, hrw, hq⟩ := hy12.v
  obtain ⟨t1, t2, t3, t4⟩ := hT
  have wv : wrapF .i64 ((Y.nv : Int) - 1) = (Y.nv : Int) - 1 := wrap_in (by omega) (by omega)
  have wf : wrapF .i64 ((Y.nf : Int) - 1) = (Y.nf : Int) - 1 := wrap_in (by omega) (by omega)
  have i1 := in_c (n := n) (h := g2) (by omega) one 0 ((Y.nv : Int) - 1)
  have i2 := in_c (n := n) (h := g2) (by omega) field 0 ((Y.nf : Int) - 1)
  have i3 := in_c (n := n) (h := g2) (by omega) blue 0 999
  have hz := @asked_c n g2 (by omega) (by omega) (by omega) fv vv sv Y hy12
  have hT' : Thin Y := ⟨t1, t2, t3, t4⟩
  have hna : ¬ NeedsArgs Y one field blue := fun h => a3 h.2.2
  obtain ⟨v, g3, ea, m3, hv⟩ := hz 2
  have haw := awake_c (n := n) (h := g3) (by omega)
  rcases hv with ⟨hf, rfl⟩ | ⟨hf, _, rfl⟩ | ⟨_, h0, _⟩ | ⟨_, h0, _⟩
  · have hnv : needsV Y one field blue = (0, faultN Y) := by unfold needsV; rw [if_pos hf]
    rw [hnv] at en
    simp only [W_skip, W_ret, W_exit, W_seq, W_block, then_norm', then_exit', then_ret', block_norm', block_ret', block_exit', W_cond, cond_true', cond_false', W_ops, ops_nil, ops_cons, ops_guard, step_some, g_tt, g_tf, g_ft, g_ff, put_some, put_none, upd_ite, val_tmp, fr0_zero, fr0_succ, ret_ret, ret_norm, res_tmp, ex_some, val_const, val_func, vals_nil, vals_cons, d_nil, d_free, d_rd1, d_rd, d_up, d_any, same_some, up_some, all_reads, Sub.refl, x_mov, x_pick, pick_t, pick_f, x_field1, x_fieldN, x_extract, x_box, x_alloc, x_load1, x_loadN, withH_some', x_store, x_mkfunc, x_mkslice, x_slice, x_fieldAddr, fieldAt_p, x_idxArr, x_idxSl, x_append, x_there, x_len, len_slice, x_not, not_bool, x_call, x_int2, i_add, i_sub, i_mul, i_eql, i_neq, i_lss, i_leq, i_gtr, i_geq, x_plain, p_min, p_max, p_rem, p_quo, r_min, r_max, p_shl, p_or, p_and, p_andNot, eqV_i, x_bslice, x_build, res_cellN, res_cell1, valN_tmp, valN_const, if_true, if_false, Nat.le_refl, true_and, and_true, decide_true, decide_false, Bool.not_true, Bool.not_false, reduceIte, Nat.reduceEqDiff, Nat.reduceAdd, Nat.reduceMul, Nat.reduceSub, Nat.reduceLeDiff, Nat.reduceLT, w1, ht, hT', ey2, en, rw2.ld, w2, Nat.zero_add, List.getElem?_cons_zero, List.getElem?_cons_succ, Cells.len hrw, Cells.len hy12.f, wv, wf, i1, i2, i3, ea, ex0, ex1, a1, a2, a3, and_self, hf, haw]
  · have hnv : needsV Y one field blue = (0, 2) := by unfold needsV; rw [if_neg (by simpa using hf), if_pos hna]
    rw [hnv] at en
    simp only [W_skip, W_ret, W_exit, W_seq, W_block, then_norm', then_exit', then_ret', block_norm', block_ret', block_exit', W_cond, cond_true', cond_false', W_ops, ops_nil, ops_cons, ops_guard, step_some, g_tt, g_tf, g_ft, g_ff, put_some, put_none, upd_ite, val_tmp, fr0_zero, fr0_succ, ret_ret, ret_norm, res_tmp, ex_some, val_const, val_func, vals_nil, vals_cons, d_nil, d_free, d_rd1, d_rd, d_up, d_any, same_some, up_some, all_reads, Sub.refl, x_mov, x_pick, pick_t, pick_f, x_field1, x_fieldN, x_extract, x_box, x_alloc, x_load1, x_loadN, withH_some', x_store, x_mkfunc, x_mkslice, x_slice, x_fieldAddr, fieldAt_p, x_idxArr, x_idxSl, x_append, x_there, x_len, len_slice, x_not, not_bool, x_call, x_int2, i_add, i_sub, i_mul, i_eql, i_neq, i_lss, i_leq, i_gtr, i_geq, x_plain, p_min, p_max, p_rem, p_quo, r_min, r_max, p_shl, p_or, p_and, p_andNot, eqV_i, x_bslice, x_build, res_cellN, res_cell1, valN_tmp, valN_const, if_true, if_false, Nat.le_refl, true_and, and_true, decide_true, decide_false, Bool.not_true, Bool.not_false, reduceIte, Nat.reduceEqDiff, Nat.reduceAdd, Nat.reduceMul, Nat.reduceSub, Nat.reduceLeDiff, Nat.reduceLT, w1, ht, hT', ey2, en, rw2.ld, w2, Nat.zero_add, List.getElem?_cons_zero, List.getElem?_cons_succ, Cells.len hrw, Cells.len hy12.f, wv, wf, i1, i2, i3, ea, ex0, ex1, a1, a2, a3, and_self, haw, Int.reduceEq]
  · exact absurd h0 (by decide)
  · exact absurd h0 (by decide)

open Classical in
theorem needsLaw_4 (hn : 10080 ≤ n) (hr : h.next + 1000000 < far) (hfl : h.floor ≤ h.next) {fv vv sv : Value} {Y : MY} (hy : YardR h fv vv sv Y) (one field blue : Int) (hT : Thin Y) (a1 : 0 ≤ one ∧ one ≤ (Y.nv : Int) - 1) (a2 : 0 ≤ field ∧ field ≤ (Y.nf : Int) - 1) (a3 : 0 ≤ blue ∧ blue ≤ 999) :
    ∃ v h', call n (.func (.func 6) #[] #[]) [.agg ⟨[fv, vv, sv]⟩, .int .i64 one, .int .i64 field, .int .i64 blue] h = some (v, h') ∧ v = .bool true := by
  obtain ⟨n, rfl⟩ : ∃ p, n = p + 1 := ⟨n - 1, by omega⟩
  refine call_any0 fok6 rfl rfl (by simp) ?_
  simp only [s6, W_seq, W_ops]
  refine ops_box (cs := [fv, vv, sv]) (by omega) rfl hy.one fun g1 hx1 => ?_
  have n1 := hx1.next
  have f1 := hx1.floor
  have hy1 := hy.mono hx1.sub
  have w1 := hx1.row.whole (n := 3) rfl
  have ht := thin_c (n := n) (h := g1) (by omega) (by omega) hy1
  obtain ⟨F1, V1, S1, g2, ey2, hy2, m2⟩ := yard_c (n := n) (h := g1) (by omega) (by omega) (by omega) hy1 hT
  have n2 := m2.next
  have u2 := m2.up
  have f2 := m2.floor
  have en := needs_c (n := n) (h := g2) (by omega) (by omega) hy2 hT one field blue
  have hy12 := hy1.mono m2.sub
  have rw2 := hx1.row.mono m2.sub
  have w2 := rw2.whole (n := 3) rfl
  obtain ⟨rr, hrw, hq⟩ := hy12.v
  obtain ⟨t1, t2, t3, t4⟩ := hT
  have wv : wrapF .i64 ((Y.nv : Int) - 1) = (Y.nv : Int) - 1 := wrap_in (by omega) (by omega)
  have wf : wrapF .i64 ((Y.nf : Int) - 1) = (Y.nf : Int) - 1 := wrap_in (by omega) (by omega)
  have i1 := in_c (n := n) (h := g2) (by omega) one 0 ((Y.nv : Int) - 1)
  have i2 := in_c (n := n) (h := g2) (by omega) field 0 ((Y.nf : Int) - 1)
  have i3 := in_c (n := n) (h := g2) (by omega) blue 0 999
  have hz := @asked_c n g2 (by omega) (by omega) (by omega) fv vv sv Y hy12
  have hT' : Thin Y := ⟨t1, t2, t3, t4⟩
  have hargs : NeedsArgs Y one field blue := ⟨a1, a2, a3⟩
  obtain ⟨v, g3, ea, m3, hv⟩ := hz 0
  have n3 := m3.next
  have haw := awake_c (n := n) (h := g3) (by omega)
  rcases hv with ⟨hf, rfl⟩ | ⟨_, h0, _⟩ | ⟨hf, _, he, rfl⟩ | ⟨hf, _, he, l, rfl, hl⟩
  · have hnv : needsV Y one field blue = (0, faultN Y) := by unfold needsV; rw [if_pos hf]
    rw [hnv] at en
    simp only [W_skip, W_ret, W_exit, W_seq, W_block, then_norm', then_exit', then_ret', block_norm', block_ret', block_exit', W_cond, cond_true', cond_false', W_ops, ops_nil, ops_cons, ops_guard, step_some, g_tt, g_tf, g_ft, g_ff, put_some, put_none, upd_ite, val_tmp, fr0_zero, fr0_succ, ret_ret, ret_norm, res_tmp, ex_some, val_const, val_func, vals_nil, vals_cons, d_nil, d_free, d_rd1, d_rd, d_up, d_any, same_some, up_some, all_reads, Sub.refl, x_mov, x_pick, pick_t, pick_f, x_field1, x_fieldN, x_extract, x_box, x_alloc, x_load1, x_loadN, withH_some', x_store, x_mkfunc, x_mkslice, x_slice, x_fieldAddr, fieldAt_p, x_idxArr, x_idxSl, x_append, x_there, x_len, len_slice, x_not, not_bool, x_call, x_int2, i_add, i_sub, i_mul, i_eql, i_neq, i_lss, i_leq, i_gtr, i_geq, x_plain, p_min, p_max, p_rem, p_quo, r_min, r_max, p_shl, p_or, p_and, p_andNot, eqV_i, x_bslice, x_build, res_cellN, res_cell1, valN_tmp, valN_const, if_true, if_false, Nat.le_refl, true_and, and_true, decide_true, decide_false, Bool.not_true, Bool.not_false, reduceIte, Nat.reduceEqDiff, Nat.reduceAdd, Nat.reduceMul, Nat.reduceSub, Nat.reduceLeDiff, Nat.reduceLT, w1, ht, hT', ey2, en, rw2.ld, w2, Nat.zero_add, List.getElem?_cons_zero, List.getElem?_cons_succ, Cells.len hrw, Cells.len hy12.f, wv, wf, i1, i2, i3, ea, ex0, ex1, a1, a2, a3, and_self, hf, haw]
  · exact absurd rfl h0
  · have hnv : needsV Y one field blue = (0, 11) := by unfold needsV; rw [if_neg (by simpa using hf), if_neg (by simpa using hargs), if_pos ((refTruths_nil hf).1 he)]
    rw [hnv] at en
    simp only [W_skip, W_ret, W_exit, W_seq, W_block, then_norm', then_exit', then_ret', block_norm', block_ret', block_exit', W_cond, cond_true', cond_false', W_ops, ops_nil, ops_cons, ops_guard, step_some, g_tt, g_tf, g_ft, g_ff, put_some, put_none, upd_ite, val_tmp, fr0_zero, fr0_succ, ret_ret, ret_norm, res_tmp, ex_some, val_const, val_func, vals_nil, vals_cons, d_nil, d_free, d_rd1, d_rd, d_up, d_any, same_some, up_some, all_reads, Sub.refl, x_mov, x_pick, pick_t, pick_f, x_field1, x_fieldN, x_extract, x_box, x_alloc, x_load1, x_loadN, withH_some', x_store, x_mkfunc, x_mkslice, x_slice, x_fieldAddr, fieldAt_p, x_idxArr, x_idxSl, x_append, x_there, x_len, len_slice, x_not, not_bool, x_call, x_int2, i_add, i_sub, i_mul, i_eql, i_neq, i_lss, i_leq, i_gtr, i_geq, x_plain, p_min, p_max, p_rem, p_quo, r_min, r_max, p_shl, p_or, p_and, p_andNot, eqV_i, x_bslice, x_build, res_cellN, res_cell1, valN_tmp, valN_const, if_true, if_false, Nat.le_refl, true_and, and_true, decide_true, decide_false, Bool.not_true, Bool.not_false, reduceIte, Nat.reduceEqDiff, Nat.reduceAdd, Nat.reduceMul, Nat.reduceSub, Nat.reduceLeDiff, Nat.reduceLT, w1, ht, hT', ey2, en, rw2.ld, w2, Nat.zero_add, List.getElem?_cons_zero, List.getElem?_cons_succ, Cells.len hrw, Cells.len hy12.f, wv, wf, i1, i2, i3, ea, ex0, ex1, a1, a2, a3, and_self, haw, Int.reduceEq]
  · obtain ⟨vN, rfl⟩ : ∃ k : Nat, one = k := ⟨one.toNat, by omega⟩
    obtain ⟨fN, rfl⟩ : ∃ k : Nat, field = k := ⟨field.toNat, by omega⟩
    have hne : truths Y ≠ [] := fun e => he ((refTruths_nil hf).2 e)
    have hnv : needsV Y vN fN blue = if 0 ≤ findFrom (Enough Y vN fN blue (truths Y)) 10 0 then (findFrom (Enough Y vN fN blue (truths Y)) 10 0, 0) else (0, 10) := by
      unfold needsV
      rw [if_neg (by simpa using hf), if_neg (by simpa using hargs), if_neg hne]
      simp only [Int.toNat_natCast]
    rw [hnv] at en
    have w3 := (rw2.mono m3.sub).whole (n := 3) rfl
    have er := needsRef_c (n := n) (h := g3) (by omega) (by omega) (hy12.mono m3.sub) hf hl (v := vN) (f := fN) (by omega) (by omega) a3
    rw [enough_ref hf] at er
    clear hnv
    generalize findFrom (Enough Y vN fN blue (truths Y)) 10 0 = res at en er
    by_cases hk : 0 ≤ res
    · rw [if_pos hk] at en
      simp only [W_skip, W_ret, W_exit, W_seq, W_block, then_norm', then_exit', then_ret', block_norm', block_ret', block_exit', W_cond, cond_true', cond_false', W_ops, ops_nil, ops_cons, ops_guard, step_some, g_tt, g_tf, g_ft, g_ff, put_some, put_none, upd_ite, val_tmp, fr0_zero, fr0_succ, ret_ret, ret_norm, res_tmp, ex_some, val_const, val_func, vals_nil, vals_cons, d_nil, d_free, d_rd1, d_rd, d_up, d_any, same_some, up_some, all_reads, Sub.refl, x_mov, x_pick, pick_t, pick_f, x_field1, x_fieldN, x_extract, x_box, x_alloc, x_load1, x_loadN, withH_some', x_store, x_mkfunc, x_mkslice, x_slice, x_fieldAddr, fieldAt_p, x_idxArr, x_idxSl, x_append, x_there, x_len, len_slice, x_not, not_bool, x_call, x_int2, i_add, i_sub, i_mul, i_eql, i_neq, i_lss, i_leq, i_gtr, i_geq, x_plain, p_min, p_max, p_rem, p_quo, r_min, r_max, p_shl, p_or, p_and, p_andNot, eqV_i, x_bslice, x_build, res_cellN, res_cell1, valN_tmp, valN_const, if_true, if_false, Nat.le_refl, true_and, and_true, decide_true, decide_false, Bool.not_true, Bool.not_false, reduceIte, Nat.reduceEqDiff, Nat.reduceAdd, Nat.reduceMul, Nat.reduceSub, Nat.reduceLeDiff, Nat.reduceLT, w1, ht, hT', ey2, en, rw2.ld, w2, Nat.zero_add, List.getElem?_cons_zero, List.getElem?_cons_succ, Cells.len hrw, Cells.len hy12.f, wv, wf, i1, i2, i3, ea, ex0, ex1, a1, a2, a3, and_self, w3]
      simp only [er, step_some]
      simp only [W_skip, W_ret, W_exit, W_seq, W_block, then_norm', then_exit', then_ret', block_norm', block_ret', block_exit', W_cond, cond_true', cond_false', W_ops, ops_nil, ops_cons, ops_guard, step_some, g_tt, g_tf, g_ft, g_ff, put_some, put_none, upd_ite, val_tmp, fr0_zero, fr0_succ, ret_ret, ret_norm, res_tmp, ex_some, val_const, val_func, vals_nil, vals_cons, d_nil, d_free, d_rd1, d_rd, d_up, d_any, same_some, up_some, all_reads, Sub.refl, x_mov, x_pick, pick_t, pick_f, x_field1, x_fieldN, x_extract, x_box, x_alloc, x_load1, x_loadN, withH_some', x_store, x_mkfunc, x_mkslice, x_slice, x_fieldAddr, fieldAt_p, x_idxArr, x_idxSl, x_append, x_there, x_len, len_slice, x_not, not_bool, x_call, x_int2, i_add, i_sub, i_mul, i_eql, i_neq, i_lss, i_leq, i_gtr, i_geq, x_plain, p_min, p_max, p_rem, p_quo, r_min, r_max, p_shl, p_or, p_and, p_andNot, eqV_i, x_bslice, x_build, res_cellN, res_cell1, valN_tmp, valN_const, if_true, if_false, Nat.le_refl, true_and, and_true, decide_true, decide_false, Bool.not_true, Bool.not_false, reduceIte, Nat.reduceEqDiff, Nat.reduceAdd, Nat.reduceMul, Nat.reduceSub, Nat.reduceLeDiff, Nat.reduceLT, hk, Int.reduceEq]
      simp only [W_skip, W_ret, W_exit, W_seq, W_block, then_norm', then_exit', then_ret', block_norm', block_ret', block_exit', W_cond, cond_true', cond_false', W_ops, ops_nil, ops_cons, ops_guard, step_some, g_tt, g_tf, g_ft, g_ff, put_some, put_none, upd_ite, val_tmp, fr0_zero, fr0_succ, ret_ret, ret_norm, res_tmp, ex_some, val_const, val_func, vals_nil, vals_cons, d_nil, d_free, d_rd1, d_rd, d_up, d_any, same_some, up_some, all_reads, Sub.refl, x_mov, x_pick, pick_t, pick_f, x_field1, x_fieldN, x_extract, x_box, x_alloc, x_load1, x_loadN, withH_some', x_store, x_mkfunc, x_mkslice, x_slice, x_fieldAddr, fieldAt_p, x_idxArr, x_idxSl, x_append, x_there, x_len, len_slice, x_not, not_bool, x_call, x_int2, i_add, i_sub, i_mul, i_eql, i_neq, i_lss, i_leq, i_gtr, i_geq, x_plain, p_min, p_max, p_rem, p_quo, r_min, r_max, p_shl, p_or, p_and, p_andNot, eqV_i, x_bslice, x_build, res_cellN, res_cell1, valN_tmp, valN_const, if_true, if_false, Nat.le_refl, true_and, and_true, decide_true, decide_false, Bool.not_true, Bool.not_false, reduceIte, Nat.reduceEqDiff, Nat.reduceAdd, Nat.reduceMul, Nat.reduceSub, Nat.reduceLeDiff, Nat.reduceLT, haw]
    · rw [if_neg hk] at en
      simp only [W_skip, W_ret, W_exit, W_seq, W_block, then_norm', then_exit', then_ret', block_norm', block_ret', block_exit', W_cond, cond_true', cond_false', W_ops, ops_nil, ops_cons, ops_guard, step_some, g_tt, g_tf, g_ft, g_ff, put_some, put_none, upd_ite, val_tmp, fr0_zero, fr0_succ, ret_ret, ret_norm, res_tmp, ex_some, val_const, val_func, vals_nil, vals_cons, d_nil, d_free, d_rd1, d_rd, d_up, d_any, same_some, up_some, all_reads, Sub.refl, x_mov, x_pick, pick_t, pick_f, x_field1, x_fieldN, x_extract, x_box, x_alloc, x_load1, x_loadN, withH_some', x_store, x_mkfunc, x_mkslice, x_slice, x_fieldAddr, fieldAt_p, x_idxArr, x_idxSl, x_append, x_there, x_len, len_slice, x_not, not_bool, x_call, x_int2, i_add, i_sub, i_mul, i_eql, i_neq, i_lss, i_leq, i_gtr, i_geq, x_plain, p_min, p_max, p_rem, p_quo, r_min, r_max, p_shl, p_or, p_and, p_andNot, eqV_i, x_bslice, x_build, res_cellN, res_cell1, valN_tmp, valN_const, if_true, if_false, Nat.le_refl, true_and, and_true, decide_true, decide_false, Bool.not_true, Bool.not_false, reduceIte, Nat.reduceEqDiff, Nat.reduceAdd, Nat.reduceMul, Nat.reduceSub, Nat.reduceLeDiff, Nat.reduceLT, w1, ht, hT', ey2, en, rw2.ld, w2, Nat.zero_add, List.getElem?_cons_zero, List.getElem?_cons_succ, Cells.len hrw, Cells.len hy12.f, wv, wf, i1, i2, i3, ea, ex0, ex1, a1, a2, a3, and_self, w3]
      simp only [er, step_some]
      simp only [W_skip, W_ret, W_exit, W_seq, W_block, then_norm', then_exit', then_ret', block_norm', block_ret', block_exit', W_cond, cond_true', cond_false', W_ops, ops_nil, ops_cons, ops_guard, step_some, g_tt, g_tf, g_ft, g_ff, put_some, put_none, upd_ite, val_tmp, fr0_zero, fr0_succ, ret_ret, ret_norm, res_tmp, ex_some, val_const, val_func, vals_nil, vals_cons, d_nil, d_free, d_rd1, d_rd, d_up, d_any, same_some, up_some, all_reads, Sub.refl, x_mov, x_pick, pick_t, pick_f, x_field1, x_fieldN, x_extract, x_box, x_alloc, x_load1, x_loadN, withH_some', x_store, x_mkfunc, x_mkslice, x_slice, x_fieldAddr, fieldAt_p, x_idxArr, x_idxSl, x_append, x_there, x_len, len_slice, x_not, not_bool, x_call, x_int2, i_add, i_sub, i_mul, i_eql, i_neq, i_lss, i_leq, i_gtr, i_geq, x_plain, p_min, p_max, p_rem, p_quo, r_min, r_max, p_shl, p_or, p_and, p_andNot, eqV_i, x_bslice, x_build, res_cellN, res_cell1, valN_tmp, valN_const, if_true, if_false, Nat.le_refl, true_and, and_true, decide_true, decide_false, Bool.not_true, Bool.not_false, reduceIte, Nat.reduceEqDiff, Nat.reduceAdd, Nat.reduceMul, Nat.reduceSub, Nat.reduceLeDiff, Nat.reduceLT, hk, Int.reduceEq]
      simp only [W_skip, W_ret, W_exit, W_seq, W_block, then_norm', then_exit', then_ret', block_norm', block_ret', block_exit', W_cond, cond_true', cond_false', W_ops, ops_nil, ops_cons, ops_guard, step_some, g_tt, g_tf, g_ft, g_ff, put_some, put_none, upd_ite, val_tmp, fr0_zero, fr0_succ, ret_ret, ret_norm, res_tmp, ex_some, val_const, val_func, vals_nil, vals_cons, d_nil, d_free, d_rd1, d_rd, d_up, d_any, same_some, up_some, all_reads, Sub.refl, x_mov, x_pick, pick_t, pick_f, x_field1, x_fieldN, x_extract, x_box, x_alloc, x_load1, x_loadN, withH_some', x_store, x_mkfunc, x_mkslice, x_slice, x_fieldAddr, fieldAt_p, x_idxArr, x_idxSl, x_append, x_there, x_len, len_slice, x_not, not_bool, x_call, x_int2, i_add, i_sub, i_mul, i_eql, i_neq, i_lss, i_leq, i_gtr, i_geq, x_plain, p_min, p_max, p_rem, p_quo, r_min, r_max, p_shl, p_or, p_and, p_andNot, eqV_i, x_bslice, x_build, res_cellN, res_cell1, valN_tmp, valN_const, if_true, if_false, Nat.le_refl, true_and, and_true, decide_true, decide_false, Bool.not_true, Bool.not_false, reduceIte, Nat.reduceEqDiff, Nat.reduceAdd, Nat.reduceMul, Nat.reduceSub, Nat.reduceLeDiff, Nat.reduceLT, haw]

theorem needsLaw_c (hn : 10080 ≤ n) (hr : h.next + 1000000 < far) (hfl : h.floor ≤ h.next) {fv vv sv : Value} {Y : MY} (hy : YardR h fv vv sv Y) (one field blue : Int) :
    ∃ v h', call n (.func (.func 6) #[] #[]) [.agg ⟨[fv, vv, sv]⟩, .int .i64 one, .int .i64 field, .int .i64 blue] h = some (v, h') ∧ v = .bool true := by
  by_cases hT : Thin Y
  case neg =>
    obtain ⟨n, rfl⟩ : ∃ p, n = p + 1 := ⟨n - 1, by omega⟩
    refine call_any0 fok6 rfl rfl (by simp) ?_
    simp only [s6, W_seq, W_ops]
    refine ops_box (cs := [fv, vv, sv]) (by omega) rfl hy.one fun g1 hx1 => ?_
    have n1 := hx1.next
    have w1 := hx1.row.whole (n := 3) rfl
    have ht := thin_c (n := n) (h := g1) (by omega) (by omega) (hy.mono hx1.sub)
    simp only [W_skip, W_ret, W_exit, W_seq, W_block, then_norm', then_exit', then_ret', block_norm', block_ret', block_exit', W_cond, cond_true', cond_false', W_ops, ops_nil, ops_cons, ops_guard, step_some, g_tt, g_tf, g_ft, g_ff, put_some, put_none, upd_ite, val_tmp, fr0_zero, fr0_succ, ret_ret, ret_norm, res_tmp, ex_some, val_const, val_func, vals_nil, vals_cons, d_nil, d_free, d_rd1, d_rd, d_up, d_any, same_some, up_some, all_reads, Sub.refl, x_mov, x_pick, pick_t, pick_f, x_field1, x_fieldN, x_extract, x_box, x_alloc, x_load1, x_loadN, withH_some', x_store, x_mkfunc, x_mkslice, x_slice, x_fieldAddr, fieldAt_p, x_idxArr, x_idxSl, x_append, x_there, x_len, len_slice, x_not, not_bool, x_call, x_int2, i_add, i_sub, i_mul, i_eql, i_neq, i_lss, i_leq, i_gtr, i_geq, x_plain, p_min, p_max, p_rem, p_quo, r_min, r_max, p_shl, p_or, p_and, p_andNot, eqV_i, x_bslice, x_build, res_cellN, res_cell1, valN_tmp, valN_const, if_true, if_false, Nat.le_refl, true_and, and_true, decide_true, decide_false, Bool.not_true, Bool.not_false, reduceIte, Nat.reduceEqDiff, Nat.reduceAdd, Nat.reduceMul, Nat.reduceSub, Nat.reduceLeDiff, Nat.reduceLT, w1, ht, hT, awake_c (n := n) (h := g1) (by omega)]
  by_cases a1 : 0 ≤ one ∧ one ≤ (Y.nv : Int) - 1
  case neg => exact needsLaw_1 hn hr hfl hy one field blue hT a1
  by_cases a2 : 0 ≤ field ∧ field ≤ (Y.nf : Int) - 1
  case neg => exact needsLaw_2 hn hr hfl hy one field blue hT a1 a2
  by_cases a3 : 0 ≤ blue ∧ blue ≤ 999
  case neg => exact needsLaw_3 hn hr hfl hy one field blue hT a1 a2 a3
  exact needsLaw_4 hn hr hfl hy one field blue hT a1 a2 a3
end Go.Vm.Vat
