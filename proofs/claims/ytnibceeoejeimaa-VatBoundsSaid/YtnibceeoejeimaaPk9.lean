/- Texts of the proofs of this seat, put together: VatMin, VatNeeds, VatBounds, VmEq2. -/
import Derived.Test.YtnibceeoejeimaaPk8

namespace Go.Vm.Vat
open Go.Proofs
set_option linter.unusedSimpArgs false
set_option linter.unusedVariables false
set_option maxRecDepth 10000
variable {n : Nat} {h : AHeap}

def minN (x : Int) (a : Nat → Int) : Nat → Int
  | 0 => x
  | i + 1 => min (minN x a i) (a i)
def s94 : SCode := (.seq (.ops [⟨(some 4), none, .mov (.const (.int .i64 (0)))⟩]) (.seq (.seq (.ops [⟨(some 7), none, .mov (T 1)⟩, ⟨(some 8), none, .len (T 7)⟩, ⟨(some 9), none, .mov (.const (.int .i64 (0)))⟩]) (.block 0 (.loop (.seq (.ops [⟨(some 10), none, .int2 .lss (T 9) (T 8)⟩]) (.seq (.cond (T 10) .skip (.exit 0)) (.seq (.block 1 (.seq (.ops [⟨(some 11), none, .idxSl 1 (T 7) (T 9)⟩, ⟨(some 12), none, .load1 (T 11)⟩, ⟨(some 6), none, .mov (T 12)⟩]) (.ops [⟨(some 13), none, .mov (T 0)⟩, ⟨(some 14), none, .mov (T 6)⟩, ⟨(some 15), none, .plain (.call { callee := .builtin .min, args := #[(T 13), (T 14)], argTypes := #[3, 3] }) 3⟩, ⟨(some 0), none, .mov (T 15)⟩]))) (.ops [⟨(some 16), none, .int2 .add (T 9) (.const (.int .i64 (1)))⟩, ⟨(some 9), none, .mov (T 16)⟩]))))))) (.seq (.ops [⟨(some 17), none, .mov (T 0)⟩, ⟨(some 4), none, .mov (T 17)⟩]) .ret)))
theorem fok94 : FnOk Try.prog 94 18 s94 [.tmp 4] := ⟨Try.f94, _, Try.func94, rfl, Try.ntmps94, by kernel_rfl, by kernel_rfl⟩
theorem minimum_c {m : Nat} (hn : m + 2 ≤ n) (hm : m ≤ 1000) {v : Value} {a : Nat → Int} (hi : Ints h v m a) (x : Int) : call n (.func (.func 94) #[] #[]) [.int .i64 x, v] h = some (.int .i64 (minN x a m), h) := by
  obtain ⟨n, rfl⟩ : ∃ p, n = p + 1 := ⟨n - 1, by omega⟩
  refine call_plain0 fok94 rfl rfl (by simp) rfl ?_
  have hi := Cells.shut hi
  generalize h.shutAll = h at hi
  simp only [W_skip, W_ret, W_exit, W_seq, W_block, then_norm', then_exit', then_ret', block_norm', block_ret', block_exit', W_cond, cond_true', cond_false', W_ops, ops_nil, ops_cons, ops_guard, step_some, g_tt, g_tf, g_ft, g_ff, put_some, put_none, upd_ite, val_tmp, fr0_zero, fr0_succ, ret_ret, ret_norm, res_tmp, ex_some, val_const, val_func, vals_nil, vals_cons, d_nil, d_free, d_rd1, d_rd, d_up, d_any, same_some, up_some, all_reads, Sub.refl, x_mov, x_pick, pick_t, pick_f, x_field1, x_fieldN, x_extract, x_box, x_alloc, x_load1, x_loadN, withH_some', x_store, x_mkfunc, x_mkslice, x_slice, x_fieldAddr, fieldAt_p, x_idxArr, x_idxSl, x_append, x_there, x_len, len_slice, x_not, not_bool, x_call, x_int2, i_add, i_sub, i_mul, i_eql, i_neq, i_lss, i_leq, i_gtr, i_geq, x_plain, p_min, p_max, p_rem, p_quo, r_min, r_max, p_shl, p_or, p_and, p_andNot, eqV_i, x_bslice, x_build, res_cellN, res_cell1, valN_tmp, valN_const, if_true, if_false, Nat.le_refl, true_and, and_true, decide_true, decide_false, Bool.not_true, Bool.not_false, reduceIte, Nat.reduceEqDiff, Nat.reduceAdd, Nat.reduceMul, Nat.reduceSub, Nat.reduceLeDiff, Nat.reduceLT, s94, Cells.len hi]
  refine W_loop m (fun k f g ms => g = h ∧ ms = [] ∧ f 0 = .int .i64 (minN x a k) ∧ f 7 = v ∧ f 8 = .int .i64 (m : Int) ∧ f 9 = .int .i64 (k : Int)) (by simp; omega) ?_ ?_ ?_
  · simp only [W_skip, W_ret, W_exit, W_seq, W_block, then_norm', then_exit', then_ret', block_norm', block_ret', block_exit', W_cond, cond_true', cond_false', W_ops, ops_nil, ops_cons, ops_guard, step_some, g_tt, g_tf, g_ft, g_ff, put_some, put_none, upd_ite, val_tmp, fr0_zero, fr0_succ, ret_ret, ret_norm, res_tmp, ex_some, val_const, val_func, vals_nil, vals_cons, d_nil, d_free, d_rd1, d_rd, d_up, d_any, same_some, up_some, all_reads, Sub.refl, x_mov, x_pick, pick_t, pick_f, x_field1, x_fieldN, x_extract, x_box, x_alloc, x_load1, x_loadN, withH_some', x_store, x_mkfunc, x_mkslice, x_slice, x_fieldAddr, fieldAt_p, x_idxArr, x_idxSl, x_append, x_there, x_len, len_slice, x_not, not_bool, x_call, x_int2, i_add, i_sub, i_mul, i_eql, i_neq, i_lss, i_leq, i_gtr, i_geq, x_plain, p_min, p_max, p_rem, p_quo, r_min, r_max, p_shl, p_or, p_and, p_andNot, eqV_i, x_bslice, x_build, res_cellN, res_cell1, valN_tmp, valN_const, if_true, if_false, Nat.le_refl, true_and, and_true, decide_true, decide_false, Bool.not_true, Bool.not_false, reduceIte, Nat.reduceEqDiff, Nat.reduceAdd, Nat.reduceMul, Nat.reduceSub, Nat.reduceLeDiff, Nat.reduceLT]
    exact ⟨rfl, rfl⟩
  · rintro k f g ms hk ⟨rfl, rfl, f0, f7, f8, f9⟩
    have hk' : (k : Int) < (m : Int) := by omega
    have hw : wrapF .i64 ((k : Int) + 1) = ((k + 1 : Nat) : Int) := by rw [wrap_in (by omega) (by omega)]; rfl
    have he : min (minN x a k) (a k) = minN x a (k + 1) := rfl
    simp only [W_skip, W_ret, W_exit, W_seq, W_block, then_norm', then_exit', then_ret', block_norm', block_ret', block_exit', W_cond, cond_true', cond_false', W_ops, ops_nil, ops_cons, ops_guard, step_some, g_tt, g_tf, g_ft, g_ff, put_some, put_none, upd_ite, val_tmp, fr0_zero, fr0_succ, ret_ret, ret_norm, res_tmp, ex_some, val_const, val_func, vals_nil, vals_cons, d_nil, d_free, d_rd1, d_rd, d_up, d_any, same_some, up_some, all_reads, Sub.refl, x_mov, x_pick, pick_t, pick_f, x_field1, x_fieldN, x_extract, x_box, x_alloc, x_load1, x_loadN, withH_some', x_store, x_mkfunc, x_mkslice, x_slice, x_fieldAddr, fieldAt_p, x_idxArr, x_idxSl, x_append, x_there, x_len, len_slice, x_not, not_bool, x_call, x_int2, i_add, i_sub, i_mul, i_eql, i_neq, i_lss, i_leq, i_gtr, i_geq, x_plain, p_min, p_max, p_rem, p_quo, r_min, r_max, p_shl, p_or, p_and, p_andNot, eqV_i, x_bslice, x_build, res_cellN, res_cell1, valN_tmp, valN_const, if_true, if_false, Nat.le_refl, true_and, and_true, decide_true, decide_false, Bool.not_true, Bool.not_false, reduceIte, Nat.reduceEqDiff, Nat.reduceAdd, Nat.reduceMul, Nat.reduceSub, Nat.reduceLeDiff, Nat.reduceLT, f0, f7, f8, f9, hk', Cells.idx hi hk, Cells.ld hi hk Nat.zero_lt_one, valN_tmp, Nat.reduceLT, he, hw]
  · rintro f g ms ⟨rfl, rfl, f0, f7, f8, f9⟩
    simp only [W_skip, W_ret, W_exit, W_seq, W_block, then_norm', then_exit', then_ret', block_norm', block_ret', block_exit', W_cond, cond_true', cond_false', W_ops, ops_nil, ops_cons, ops_guard, step_some, g_tt, g_tf, g_ft, g_ff, put_some, put_none, upd_ite, val_tmp, fr0_zero, fr0_succ, ret_ret, ret_norm, res_tmp, ex_some, val_const, val_func, vals_nil, vals_cons, d_nil, d_free, d_rd1, d_rd, d_up, d_any, same_some, up_some, all_reads, Sub.refl, x_mov, x_pick, pick_t, pick_f, x_field1, x_fieldN, x_extract, x_box, x_alloc, x_load1, x_loadN, withH_some', x_store, x_mkfunc, x_mkslice, x_slice, x_fieldAddr, fieldAt_p, x_idxArr, x_idxSl, x_append, x_there, x_len, len_slice, x_not, not_bool, x_call, x_int2, i_add, i_sub, i_mul, i_eql, i_neq, i_lss, i_leq, i_gtr, i_geq, x_plain, p_min, p_max, p_rem, p_quo, r_min, r_max, p_shl, p_or, p_and, p_andNot, eqV_i, x_bslice, x_build, res_cellN, res_cell1, valN_tmp, valN_const, if_true, if_false, Nat.le_refl, true_and, and_true, decide_true, decide_false, Bool.not_true, Bool.not_false, reduceIte, Nat.reduceEqDiff, Nat.reduceAdd, Nat.reduceMul, Nat.reduceSub, Nat.reduceLeDiff, Nat.reduceLT, f0, f7, f8, f9, Int.lt_irrefl]

def s98 : SCode := (.seq (.ops [⟨(some 2), none, .box (T 0)⟩, ⟨(some 4), none, .mov (.const (.bool false))⟩]) (.seq (.ops [⟨(some 5), none, .mov (T 1)⟩, ⟨(some 6), none, .int2 .leq (.const (.int .i64 (0))) (T 5)⟩, ⟨(some 7), none, .mov (T 6)⟩, ⟨(some 8), (some (7, true)), .mov (T 1)⟩, ⟨(some 9), (some (7, true)), .fieldAddr 0 (T 2)⟩, ⟨(some 10), (some (7, true)), .fieldAddr 0 (T 9)⟩, ⟨(some 11), (some (7, true)), .load1 (T 10)⟩, ⟨(some 12), (some (7, true)), .len (T 11)⟩, ⟨(some 13), (some (7, true)), .int2 .lss (T 8) (T 12)⟩, ⟨(some 14), none, .pick (T 7) (T 13) (.const (.bool false))⟩, ⟨(some 4), none, .mov (T 14)⟩]) .ret))
theorem fok98 : FnOk Try.prog 98 15 s98 [.tmp 4] := ⟨Try.f98, _, Try.func98, rfl, Try.ntmps98, by kernel_rfl, by kernel_rfl⟩
theorem hasField_c (hn : 1 ≤ n) (hr : h.next < far) {F V S T : Value} {s m : Nat} {c : Nat → Nat → Value} (hv : Cells h F s m c) (h1 : allB oneCell [F, V, S, T] = true) (at_ : Int) :
    call n (.func (.func 98) #[] #[]) [.agg ⟨[F, V, S, T]⟩, .int .i64 at_] h = some (.bool (decide (0 ≤ at_ ∧ at_ ≤ (m : Int) - 1)), h) := by
  obtain ⟨n, rfl⟩ : ∃ p, n = p + 1 := ⟨n - 1, by omega⟩
  refine call_plain0 fok98 rfl rfl (by simp) rfl ?_
  have hv := Cells.shut hv
  have hr : h.shutAll.next < far := hr
  generalize h.shutAll = h at hv hr
  simp only [s98, W_seq, W_ops]
  refine ops_box (cs := [F, V, S, T]) (by omega) rfl h1 fun g1 hx => ?_
  have hv1 := Cells.mono hv hx.sub
  by_cases c1 : 0 ≤ at_
  · by_cases c2 : at_ < (m : Int)
    · have c3 : at_ ≤ (m : Int) - 1 := by omega
      simp only [W_skip, W_ret, W_exit, W_seq, W_block, then_norm', then_exit', then_ret', block_norm', block_ret', block_exit', W_cond, cond_true', cond_false', W_ops, ops_nil, ops_cons, ops_guard, step_some, g_tt, g_tf, g_ft, g_ff, put_some, put_none, upd_ite, val_tmp, fr0_zero, fr0_succ, ret_ret, ret_norm, res_tmp, ex_some, val_const, val_func, vals_nil, vals_cons, d_nil, d_free, d_rd1, d_rd, d_up, d_any, same_some, up_some, all_reads, Sub.refl, x_mov, x_pick, pick_t, pick_f, x_field1, x_fieldN, x_extract, x_box, x_alloc, x_load1, x_loadN, withH_some', x_store, x_mkfunc, x_mkslice, x_slice, x_fieldAddr, fieldAt_p, x_idxArr, x_idxSl, x_append, x_there, x_len, len_slice, x_not, not_bool, x_call, x_int2, i_add, i_sub, i_mul, i_eql, i_neq, i_lss, i_leq, i_gtr, i_geq, x_plain, p_min, p_max, p_rem, p_quo, r_min, r_max, p_shl, p_or, p_and, p_andNot, eqV_i, x_bslice, x_build, res_cellN, res_cell1, valN_tmp, valN_const, if_true, if_false, Nat.le_refl, true_and, and_true, decide_true, decide_false, Bool.not_true, Bool.not_false, reduceIte, Nat.reduceEqDiff, Nat.reduceAdd, Nat.reduceMul, Nat.reduceSub, Nat.reduceLeDiff, Nat.reduceLT, hx.ld, Nat.zero_add, List.getElem?_cons_zero, List.getElem?_cons_succ, Cells.len hv1, c1, c2, c3, and_self]
    · have c3 : ¬ at_ ≤ (m : Int) - 1 := by omega
      simp only [W_skip, W_ret, W_exit, W_seq, W_block, then_norm', then_exit', then_ret', block_norm', block_ret', block_exit', W_cond, cond_true', cond_false', W_ops, ops_nil, ops_cons, ops_guard, step_some, g_tt, g_tf, g_ft, g_ff, put_some, put_none, upd_ite, val_tmp, fr0_zero, fr0_succ, ret_ret, ret_norm, res_tmp, ex_some, val_const, val_func, vals_nil, vals_cons, d_nil, d_free, d_rd1, d_rd, d_up, d_any, same_some, up_some, all_reads, Sub.refl, x_mov, x_pick, pick_t, pick_f, x_field1, x_fieldN, x_extract, x_box, x_alloc, x_load1, x_loadN, withH_some', x_store, x_mkfunc, x_mkslice, x_slice, x_fieldAddr, fieldAt_p, x_idxArr, x_idxSl, x_append, x_there, x_len, len_slice, x_not, not_bool, x_call, x_int2, i_add, i_sub, i_mul, i_eql, i_neq, i_lss, i_leq, i_gtr, i_geq, x_plain, p_min, p_max, p_rem, p_quo, r_min, r_max, p_shl, p_or, p_and, p_andNot, eqV_i, x_bslice, x_build, res_cellN, res_cell1, valN_tmp, valN_const, if_true, if_false, Nat.le_refl, true_and, and_true, decide_true, decide_false, Bool.not_true, Bool.not_false, reduceIte, Nat.reduceEqDiff, Nat.reduceAdd, Nat.reduceMul, Nat.reduceSub, Nat.reduceLeDiff, Nat.reduceLT, hx.ld, Nat.zero_add, List.getElem?_cons_zero, List.getElem?_cons_succ, Cells.len hv1, c1, c2, c3, and_false]
  · simp only [W_skip, W_ret, W_exit, W_seq, W_block, then_norm', then_exit', then_ret', block_norm', block_ret', block_exit', W_cond, cond_true', cond_false', W_ops, ops_nil, ops_cons, ops_guard, step_some, g_tt, g_tf, g_ft, g_ff, put_some, put_none, upd_ite, val_tmp, fr0_zero, fr0_succ, ret_ret, ret_norm, res_tmp, ex_some, val_const, val_func, vals_nil, vals_cons, d_nil, d_free, d_rd1, d_rd, d_up, d_any, same_some, up_some, all_reads, Sub.refl, x_mov, x_pick, pick_t, pick_f, x_field1, x_fieldN, x_extract, x_box, x_alloc, x_load1, x_loadN, withH_some', x_store, x_mkfunc, x_mkslice, x_slice, x_fieldAddr, fieldAt_p, x_idxArr, x_idxSl, x_append, x_there, x_len, len_slice, x_not, not_bool, x_call, x_int2, i_add, i_sub, i_mul, i_eql, i_neq, i_lss, i_leq, i_gtr, i_geq, x_plain, p_min, p_max, p_rem, p_quo, r_min, r_max, p_shl, p_or, p_and, p_andNot, eqV_i, x_bslice, x_build, res_cellN, res_cell1, valN_tmp, valN_const, if_true, if_false, Nat.le_refl, true_and, and_true, decide_true, decide_false, Bool.not_true, Bool.not_false, reduceIte, Nat.reduceEqDiff, Nat.reduceAdd, Nat.reduceMul, Nat.reduceSub, Nat.reduceLeDiff, Nat.reduceLT, hx.ld, Nat.zero_add, List.getElem?_cons_zero, List.getElem?_cons_succ, Cells.len hv1, c1, false_and]

/-- what 'openTrue' answers -/
def OpenTR (h : AHeap) (Y : MY) (F V S v : Value) (h' : AHeap) : Prop := Made h h' 240000 ∧
  ((faultN Y ≠ 0 ∧ v = .tuple ⟨[.agg ⟨[nilS, nilS, nilS, nilS]⟩, .int .i64 (faultN Y)]⟩) ∨ (faultN Y = 0 ∧ truths Y = [] ∧ v = .tuple ⟨[.agg ⟨[nilS, nilS, nilS, nilS]⟩, .int .i64 11]⟩) ∨
    (faultN Y = 0 ∧ truths Y ≠ [] ∧ ∃ tv, v = .tuple ⟨[.agg ⟨[F, V, S, tv]⟩, .int .i64 0]⟩ ∧ TruthsR h' tv (truths Y) ∧ Long tv))
def s89 : SCode := (.seq (.ops [⟨(some 1), none, .box (T 0)⟩, ⟨(some 2), none, .alloc [(.slice none 0 0), (.slice none 0 0), (.slice none 0 0), (.slice none 0 0)]⟩, ⟨(some 3), none, .mov (.const (.int .i64 (0)))⟩]) (.seq (.ops [⟨(some 7), none, .loadN 3 (T 1)⟩, ⟨(some 8), none, .call (.func 78) [(T 7)]⟩, ⟨(some 6), none, .mov (T 8)⟩, ⟨(some 9), none, .extract 0 (T 6)⟩, ⟨(some 10), none, .extract 1 (T 6)⟩, ⟨(some 4), none, .alloc [(.slice none 0 0), (.slice none 0 0), (.slice none 0 0), (.slice none 0 0)]⟩, ⟨none, none, .store 4 (T 4) (T 9)⟩, ⟨(some 5), none, .mov (T 10)⟩]) (.seq (.seq (.ops [⟨(some 11), none, .mov (T 5)⟩, ⟨(some 12), none, .int2 .eql (T 11) (.const (.int .i64 (0)))⟩, ⟨(some 13), none, .mov (T 12)⟩, ⟨(some 14), (some (13, true)), .fieldAddr 3 (T 4)⟩, ⟨(some 15), (some (13, true)), .load1 (T 14)⟩, ⟨(some 16), (some (13, true)), .len (T 15)⟩, ⟨(some 17), (some (13, true)), .int2 .eql (T 16) (.const (.int .i64 (0)))⟩, ⟨(some 18), none, .pick (T 13) (T 17) (.const (.bool false))⟩]) (.cond (T 18) (.seq (.ops [⟨(some 19), none, .build #[(0, 3), (3, 1)] [(.slice none 0 0), (.slice none 0 0), (.slice none 0 0), (.slice none 0 0)] [] []⟩, ⟨none, none, .store 4 (T 2) (T 19)⟩, ⟨(some 3), none, .mov (.const (.int .i64 (11)))⟩]) .ret) .skip)) (.seq (.ops [⟨(some 20), none, .loadN 4 (T 4)⟩, ⟨(some 21), none, .mov (T 5)⟩, ⟨none, none, .store 4 (T 2) (T 20)⟩, ⟨(some 3), none, .mov (T 21)⟩]) .ret))))
theorem fok89 : FnOk Try.prog 89 22 s89 [.cellN 2 4, .tmp 3] := ⟨Try.f89, _, Try.func89, rfl, Try.ntmps89, by kernel_rfl, by kernel_rfl⟩
theorem openTrue_c (hn : 10050 ≤ n) (hr : h.next + 400000 < far) (hfl : h.floor ≤ h.next) {F V S : Value} {Y : MY} (hy : YardR h F V S Y) (hY : Thin Y) :
    ∃ v h', call n (.func (.func 89) #[] #[]) [.agg ⟨[F, V, S]⟩] h = some (v, h') ∧ OpenTR h Y F V S v h' := by
  obtain ⟨n, rfl⟩ : ∃ p, n = p + 1 := ⟨n - 1, by omega⟩
  refine call_any0 fok89 rfl rfl (by simp) ?_
  simp only [s89, W_seq, W_ops]
  refine ops_box (cs := [F, V, S]) (by omega) rfl hy.one fun g1 hx1 => ?_
  have n1 := hx1.next
  have f1 := hx1.floor
  simp only [W_skip, W_ret, W_exit, W_seq, W_block, then_norm', then_exit', then_ret', block_norm', block_ret', block_exit', W_cond, cond_true', cond_false', W_ops, ops_nil, ops_cons, ops_guard, step_some, g_tt, g_tf, g_ft, g_ff, put_some, put_none, upd_ite, val_tmp, fr0_zero, fr0_succ, ret_ret, ret_norm, res_tmp, ex_some, val_const, val_func, vals_nil, vals_cons, d_nil, d_free, d_rd1, d_rd, d_up, d_any, same_some, up_some, all_reads, Sub.refl, x_mov, x_pick, pick_t, pick_f, x_field1, x_fieldN, x_extract, x_box, x_alloc, x_load1, x_loadN, withH_some', x_store, x_mkfunc, x_mkslice, x_slice, x_fieldAddr, fieldAt_p, x_idxArr, x_idxSl, x_append, x_there, x_len, len_slice, x_not, not_bool, x_call, x_int2, i_add, i_sub, i_mul, i_eql, i_neq, i_lss, i_leq, i_gtr, i_geq, x_plain, p_min, p_max, p_rem, p_quo, r_min, r_max, p_shl, p_or, p_and, p_andNot, eqV_i, x_bslice, x_build, res_cellN, res_cell1, valN_tmp, valN_const, if_true, if_false, Nat.le_refl, true_and, and_true, decide_true, decide_false, Bool.not_true, Bool.not_false, reduceIte, Nat.reduceEqDiff, Nat.reduceAdd, Nat.reduceMul, Nat.reduceSub, Nat.reduceLeDiff, Nat.reduceLT]
  refine step_row (cs := [nilS, nilS, nilS, nilS]) (by omega) rfl rfl fun g2 hx2 => ?_
  have n2 := hx2.next
  have f2 := hx2.floor
  have w2 := (hx1.row.mono hx2.sub).whole (n := 3) rfl
  obtain ⟨v, g3, eo, hm, ho⟩ := open_c (n := n) (h := g2) (by omega) (by omega) (by omega) ((hy.mono hx1.sub).mono hx2.sub) hY
  have n3 := hm.next
  have u3 := hm.up
  have f3 := hm.floor
  have hres : g3.get g1.next = some (.row [nilS, nilS, nilS, nilS] true 0) := hm.sub _ _ _ _ trivial hx2.get
  have hs3 : Sub All h g3 := hx1.sub.trans (hx2.sub.trans hm.sub)
  -- how it ends
  have fin : ∀ (g4 g5 : AHeap) (cs : List Value), Sub All h g4 → New g3 g4 cs 0 → ∀ (vs : List Value), Set1 g4 g5 g1.next vs 0 → Made h g5 240000 := fun g4 g5 cs hs hx vs hst => by
    have := hx.next
    have := hst.next
    have := hx.floor
    have := hst.floor
    exact ⟨fun i cs w gr t hg => by rw [hst.old i (by have := AHeap.lt_of_get hg; omega)]; exact hs _ _ _ _ t hg, by omega, by omega, by omega⟩
  rcases ho with ⟨hf, rfl⟩ | ⟨hf, tv, rfl, htr, hlong⟩
  · simp only [W_skip, W_ret, W_exit, W_seq, W_block, then_norm', then_exit', then_ret', block_norm', block_ret', block_exit', W_cond, cond_true', cond_false', W_ops, ops_nil, ops_cons, ops_guard, step_some, g_tt, g_tf, g_ft, g_ff, put_some, put_none, upd_ite, val_tmp, fr0_zero, fr0_succ, ret_ret, ret_norm, res_tmp, ex_some, val_const, val_func, vals_nil, vals_cons, d_nil, d_free, d_rd1, d_rd, d_up, d_any, same_some, up_some, all_reads, Sub.refl, x_mov, x_pick, pick_t, pick_f, x_field1, x_fieldN, x_extract, x_box, x_alloc, x_load1, x_loadN, withH_some', x_store, x_mkfunc, x_mkslice, x_slice, x_fieldAddr, fieldAt_p, x_idxArr, x_idxSl, x_append, x_there, x_len, len_slice, x_not, not_bool, x_call, x_int2, i_add, i_sub, i_mul, i_eql, i_neq, i_lss, i_leq, i_gtr, i_geq, x_plain, p_min, p_max, p_rem, p_quo, r_min, r_max, p_shl, p_or, p_and, p_andNot, eqV_i, x_bslice, x_build, res_cellN, res_cell1, valN_tmp, valN_const, if_true, if_false, Nat.le_refl, true_and, and_true, decide_true, decide_false, Bool.not_true, Bool.not_false, reduceIte, Nat.reduceEqDiff, Nat.reduceAdd, Nat.reduceMul, Nat.reduceSub, Nat.reduceLeDiff, Nat.reduceLT, w2, eo, ex0, ex1]
    refine step_new (vs := [nilS, nilS, nilS, nilS]) (by omega) (by omega) rfl (by simp only [W_skip, W_ret, W_exit, W_seq, W_block, then_norm', then_exit', then_ret', block_norm', block_ret', block_exit', W_cond, cond_true', cond_false', W_ops, ops_nil, ops_cons, ops_guard, step_some, g_tt, g_tf, g_ft, g_ff, put_some, put_none, upd_ite, val_tmp, fr0_zero, fr0_succ, ret_ret, ret_norm, res_tmp, ex_some, val_const, val_func, vals_nil, vals_cons, d_nil, d_free, d_rd1, d_rd, d_up, d_any, same_some, up_some, all_reads, Sub.refl, x_mov, x_pick, pick_t, pick_f, x_field1, x_fieldN, x_extract, x_box, x_alloc, x_load1, x_loadN, withH_some', x_store, x_mkfunc, x_mkslice, x_slice, x_fieldAddr, fieldAt_p, x_idxArr, x_idxSl, x_append, x_there, x_len, len_slice, x_not, not_bool, x_call, x_int2, i_add, i_sub, i_mul, i_eql, i_neq, i_lss, i_leq, i_gtr, i_geq, x_plain, p_min, p_max, p_rem, p_quo, r_min, r_max, p_shl, p_or, p_and, p_andNot, eqV_i, x_bslice, x_build, res_cellN, res_cell1, valN_tmp, valN_const, if_true, if_false, Nat.le_refl, true_and, and_true, decide_true, decide_false, Bool.not_true, Bool.not_false, reduceIte, Nat.reduceEqDiff, Nat.reduceAdd, Nat.reduceMul, Nat.reduceSub, Nat.reduceLeDiff, Nat.reduceLT]; rfl) rfl rfl rfl fun g4 hx4 => ?_
    have w4 := hx4.row.whole (n := 4) rfl
    have n4 := hx4.next
    have f4 := hx4.floor
    simp only [W_skip, W_ret, W_exit, W_seq, W_block, then_norm', then_exit', then_ret', block_norm', block_ret', block_exit', W_cond, cond_true', cond_false', W_ops, ops_nil, ops_cons, ops_guard, step_some, g_tt, g_tf, g_ft, g_ff, put_some, put_none, upd_ite, val_tmp, fr0_zero, fr0_succ, ret_ret, ret_norm, res_tmp, ex_some, val_const, val_func, vals_nil, vals_cons, d_nil, d_free, d_rd1, d_rd, d_up, d_any, same_some, up_some, all_reads, Sub.refl, x_mov, x_pick, pick_t, pick_f, x_field1, x_fieldN, x_extract, x_box, x_alloc, x_load1, x_loadN, withH_some', x_store, x_mkfunc, x_mkslice, x_slice, x_fieldAddr, fieldAt_p, x_idxArr, x_idxSl, x_append, x_there, x_len, len_slice, x_not, not_bool, x_call, x_int2, i_add, i_sub, i_mul, i_eql, i_neq, i_lss, i_leq, i_gtr, i_geq, x_plain, p_min, p_max, p_rem, p_quo, r_min, r_max, p_shl, p_or, p_and, p_andNot, eqV_i, x_bslice, x_build, res_cellN, res_cell1, valN_tmp, valN_const, if_true, if_false, Nat.le_refl, true_and, and_true, decide_true, decide_false, Bool.not_true, Bool.not_false, reduceIte, Nat.reduceEqDiff, Nat.reduceAdd, Nat.reduceMul, Nat.reduceSub, Nat.reduceLeDiff, Nat.reduceLT, hf, w4]
    refine step_store (vs := [nilS, nilS, nilS, nilS]) rfl (hx4.sub _ _ _ _ trivial hres) (by omega) (by omega) rfl rfl rfl (by simp) fun g5 hs5 => ?_
    rw [splice_all rfl] at hs5
    simp only [W_skip, W_ret, W_exit, W_seq, W_block, then_norm', then_exit', then_ret', block_norm', block_ret', block_exit', W_cond, cond_true', cond_false', W_ops, ops_nil, ops_cons, ops_guard, step_some, g_tt, g_tf, g_ft, g_ff, put_some, put_none, upd_ite, val_tmp, fr0_zero, fr0_succ, ret_ret, ret_norm, res_tmp, ex_some, val_const, val_func, vals_nil, vals_cons, d_nil, d_free, d_rd1, d_rd, d_up, d_any, same_some, up_some, all_reads, Sub.refl, x_mov, x_pick, pick_t, pick_f, x_field1, x_fieldN, x_extract, x_box, x_alloc, x_load1, x_loadN, withH_some', x_store, x_mkfunc, x_mkslice, x_slice, x_fieldAddr, fieldAt_p, x_idxArr, x_idxSl, x_append, x_there, x_len, len_slice, x_not, not_bool, x_call, x_int2, i_add, i_sub, i_mul, i_eql, i_neq, i_lss, i_leq, i_gtr, i_geq, x_plain, p_min, p_max, p_rem, p_quo, r_min, r_max, p_shl, p_or, p_and, p_andNot, eqV_i, x_bslice, x_build, res_cellN, res_cell1, valN_tmp, valN_const, if_true, if_false, Nat.le_refl, true_and, and_true, decide_true, decide_false, Bool.not_true, Bool.not_false, reduceIte, Nat.reduceEqDiff, Nat.reduceAdd, Nat.reduceMul, Nat.reduceSub, Nat.reduceLeDiff, Nat.reduceLT, res_two, hs5.row.whole (n := 4) rfl]
    exact ⟨fin g4 g5 _ (hs3.trans hx4.sub) hx4 _ hs5, .inl ⟨hf, rfl⟩⟩
  · have ho4 : allB oneCell [F, V, S, tv] = true := by have h1 := hy.one; have h2 := Cells.one htr; simp [allB] at h1 ⊢; simp [h1, h2]
    simp only [W_skip, W_ret, W_exit, W_seq, W_block, then_norm', then_exit', then_ret', block_norm', block_ret', block_exit', W_cond, cond_true', cond_false', W_ops, ops_nil, ops_cons, ops_guard, step_some, g_tt, g_tf, g_ft, g_ff, put_some, put_none, upd_ite, val_tmp, fr0_zero, fr0_succ, ret_ret, ret_norm, res_tmp, ex_some, val_const, val_func, vals_nil, vals_cons, d_nil, d_free, d_rd1, d_rd, d_up, d_any, same_some, up_some, all_reads, Sub.refl, x_mov, x_pick, pick_t, pick_f, x_field1, x_fieldN, x_extract, x_box, x_alloc, x_load1, x_loadN, withH_some', x_store, x_mkfunc, x_mkslice, x_slice, x_fieldAddr, fieldAt_p, x_idxArr, x_idxSl, x_append, x_there, x_len, len_slice, x_not, not_bool, x_call, x_int2, i_add, i_sub, i_mul, i_eql, i_neq, i_lss, i_leq, i_gtr, i_geq, x_plain, p_min, p_max, p_rem, p_quo, r_min, r_max, p_shl, p_or, p_and, p_andNot, eqV_i, x_bslice, x_build, res_cellN, res_cell1, valN_tmp, valN_const, if_true, if_false, Nat.le_refl, true_and, and_true, decide_true, decide_false, Bool.not_true, Bool.not_false, reduceIte, Nat.reduceEqDiff, Nat.reduceAdd, Nat.reduceMul, Nat.reduceSub, Nat.reduceLeDiff, Nat.reduceLT, w2, eo, ex0, ex1]
    refine step_new (vs := [F, V, S, tv]) (by omega) (by omega) rfl (by simp only [W_skip, W_ret, W_exit, W_seq, W_block, then_norm', then_exit', then_ret', block_norm', block_ret', block_exit', W_cond, cond_true', cond_false', W_ops, ops_nil, ops_cons, ops_guard, step_some, g_tt, g_tf, g_ft, g_ff, put_some, put_none, upd_ite, val_tmp, fr0_zero, fr0_succ, ret_ret, ret_norm, res_tmp, ex_some, val_const, val_func, vals_nil, vals_cons, d_nil, d_free, d_rd1, d_rd, d_up, d_any, same_some, up_some, all_reads, Sub.refl, x_mov, x_pick, pick_t, pick_f, x_field1, x_fieldN, x_extract, x_box, x_alloc, x_load1, x_loadN, withH_some', x_store, x_mkfunc, x_mkslice, x_slice, x_fieldAddr, fieldAt_p, x_idxArr, x_idxSl, x_append, x_there, x_len, len_slice, x_not, not_bool, x_call, x_int2, i_add, i_sub, i_mul, i_eql, i_neq, i_lss, i_leq, i_gtr, i_geq, x_plain, p_min, p_max, p_rem, p_quo, r_min, r_max, p_shl, p_or, p_and, p_andNot, eqV_i, x_bslice, x_build, res_cellN, res_cell1, valN_tmp, valN_const, if_true, if_false, Nat.le_refl, true_and, and_true, decide_true, decide_false, Bool.not_true, Bool.not_false, reduceIte, Nat.reduceEqDiff, Nat.reduceAdd, Nat.reduceMul, Nat.reduceSub, Nat.reduceLeDiff, Nat.reduceLT]; rfl) ho4 rfl rfl fun g4 hx4 => ?_
    have w4 := hx4.row.whole (n := 4) rfl
    have n4 := hx4.next
    have f4 := hx4.floor
    have htr4 : TruthsR g4 tv (truths Y) := Cells.mono htr hx4.sub
    by_cases he : truths Y = []
    · have hl : (truths Y).length = 0 := by rw [he]; rfl
      simp only [W_skip, W_ret, W_exit, W_seq, W_block, then_norm', then_exit', then_ret', block_norm', block_ret', block_exit', W_cond, cond_true', cond_false', W_ops, ops_nil, ops_cons, ops_guard, step_some, g_tt, g_tf, g_ft, g_ff, put_some, put_none, upd_ite, val_tmp, fr0_zero, fr0_succ, ret_ret, ret_norm, res_tmp, ex_some, val_const, val_func, vals_nil, vals_cons, d_nil, d_free, d_rd1, d_rd, d_up, d_any, same_some, up_some, all_reads, Sub.refl, x_mov, x_pick, pick_t, pick_f, x_field1, x_fieldN, x_extract, x_box, x_alloc, x_load1, x_loadN, withH_some', x_store, x_mkfunc, x_mkslice, x_slice, x_fieldAddr, fieldAt_p, x_idxArr, x_idxSl, x_append, x_there, x_len, len_slice, x_not, not_bool, x_call, x_int2, i_add, i_sub, i_mul, i_eql, i_neq, i_lss, i_leq, i_gtr, i_geq, x_plain, p_min, p_max, p_rem, p_quo, r_min, r_max, p_shl, p_or, p_and, p_andNot, eqV_i, x_bslice, x_build, res_cellN, res_cell1, valN_tmp, valN_const, if_true, if_false, Nat.le_refl, true_and, and_true, decide_true, decide_false, Bool.not_true, Bool.not_false, reduceIte, Nat.reduceEqDiff, Nat.reduceAdd, Nat.reduceMul, Nat.reduceSub, Nat.reduceLeDiff, Nat.reduceLT, hx4.row.ld, Nat.zero_add, List.getElem?_cons_zero, List.getElem?_cons_succ, Cells.len htr4, hl, Int.natCast_zero, build_work0]
      refine step_store (vs := [nilS, nilS, nilS, nilS]) rfl (hx4.sub _ _ _ _ trivial hres) (by omega) (by omega) rfl rfl rfl (by simp) fun g5 hs5 => ?_
      rw [splice_all rfl] at hs5
      simp only [W_skip, W_ret, W_exit, W_seq, W_block, then_norm', then_exit', then_ret', block_norm', block_ret', block_exit', W_cond, cond_true', cond_false', W_ops, ops_nil, ops_cons, ops_guard, step_some, g_tt, g_tf, g_ft, g_ff, put_some, put_none, upd_ite, val_tmp, fr0_zero, fr0_succ, ret_ret, ret_norm, res_tmp, ex_some, val_const, val_func, vals_nil, vals_cons, d_nil, d_free, d_rd1, d_rd, d_up, d_any, same_some, up_some, all_reads, Sub.refl, x_mov, x_pick, pick_t, pick_f, x_field1, x_fieldN, x_extract, x_box, x_alloc, x_load1, x_loadN, withH_some', x_store, x_mkfunc, x_mkslice, x_slice, x_fieldAddr, fieldAt_p, x_idxArr, x_idxSl, x_append, x_there, x_len, len_slice, x_not, not_bool, x_call, x_int2, i_add, i_sub, i_mul, i_eql, i_neq, i_lss, i_leq, i_gtr, i_geq, x_plain, p_min, p_max, p_rem, p_quo, r_min, r_max, p_shl, p_or, p_and, p_andNot, eqV_i, x_bslice, x_build, res_cellN, res_cell1, valN_tmp, valN_const, if_true, if_false, Nat.le_refl, true_and, and_true, decide_true, decide_false, Bool.not_true, Bool.not_false, reduceIte, Nat.reduceEqDiff, Nat.reduceAdd, Nat.reduceMul, Nat.reduceSub, Nat.reduceLeDiff, Nat.reduceLT, res_two, hs5.row.whole (n := 4) rfl]
      exact ⟨fin g4 g5 _ (hs3.trans hx4.sub) hx4 _ hs5, .inr (.inl ⟨hf, he, rfl⟩)⟩
    · have hl : ¬ ((truths Y).length : Int) = 0 := fun e => he (List.eq_nil_of_length_eq_zero (by omega))
      simp only [W_skip, W_ret, W_exit, W_seq, W_block, then_norm', then_exit', then_ret', block_norm', block_ret', block_exit', W_cond, cond_true', cond_false', W_ops, ops_nil, ops_cons, ops_guard, step_some, g_tt, g_tf, g_ft, g_ff, put_some, put_none, upd_ite, val_tmp, fr0_zero, fr0_succ, ret_ret, ret_norm, res_tmp, ex_some, val_const, val_func, vals_nil, vals_cons, d_nil, d_free, d_rd1, d_rd, d_up, d_any, same_some, up_some, all_reads, Sub.refl, x_mov, x_pick, pick_t, pick_f, x_field1, x_fieldN, x_extract, x_box, x_alloc, x_load1, x_loadN, withH_some', x_store, x_mkfunc, x_mkslice, x_slice, x_fieldAddr, fieldAt_p, x_idxArr, x_idxSl, x_append, x_there, x_len, len_slice, x_not, not_bool, x_call, x_int2, i_add, i_sub, i_mul, i_eql, i_neq, i_lss, i_leq, i_gtr, i_geq, x_plain, p_min, p_max, p_rem, p_quo, r_min, r_max, p_shl, p_or, p_and, p_andNot, eqV_i, x_bslice, x_build, res_cellN, res_cell1, valN_tmp, valN_const, if_true, if_false, Nat.le_refl, true_and, and_true, decide_true, decide_false, Bool.not_true, Bool.not_false, reduceIte, Nat.reduceEqDiff, Nat.reduceAdd, Nat.reduceMul, Nat.reduceSub, Nat.reduceLeDiff, Nat.reduceLT, hx4.row.ld, Nat.zero_add, List.getElem?_cons_zero, List.getElem?_cons_succ, Cells.len htr4, hl, w4]
      refine step_store (vs := [F, V, S, tv]) rfl (hx4.sub _ _ _ _ trivial hres) (by omega) (by omega) rfl ho4 rfl (by simp) fun g5 hs5 => ?_
      rw [splice_all (cs := [nilS, nilS, nilS, nilS]) (vs := [F, V, S, tv]) rfl] at hs5
      simp only [W_skip, W_ret, W_exit, W_seq, W_block, then_norm', then_exit', then_ret', block_norm', block_ret', block_exit', W_cond, cond_true', cond_false', W_ops, ops_nil, ops_cons, ops_guard, step_some, g_tt, g_tf, g_ft, g_ff, put_some, put_none, upd_ite, val_tmp, fr0_zero, fr0_succ, ret_ret, ret_norm, res_tmp, ex_some, val_const, val_func, vals_nil, vals_cons, d_nil, d_free, d_rd1, d_rd, d_up, d_any, same_some, up_some, all_reads, Sub.refl, x_mov, x_pick, pick_t, pick_f, x_field1, x_fieldN, x_extract, x_box, x_alloc, x_load1, x_loadN, withH_some', x_store, x_mkfunc, x_mkslice, x_slice, x_fieldAddr, fieldAt_p, x_idxArr, x_idxSl, x_append, x_there, x_len, len_slice, x_not, not_bool, x_call, x_int2, i_add, i_sub, i_mul, i_eql, i_neq, i_lss, i_leq, i_gtr, i_geq, x_plain, p_min, p_max, p_rem, p_quo, r_min, r_max, p_shl, p_or, p_and, p_andNot, eqV_i, x_bslice, x_build, res_cellN, res_cell1, valN_tmp, valN_const, if_true, if_false, Nat.le_refl, true_and, and_true, decide_true, decide_false, Bool.not_true, Bool.not_false, reduceIte, Nat.reduceEqDiff, Nat.reduceAdd, Nat.reduceMul, Nat.reduceSub, Nat.reduceLeDiff, Nat.reduceLT, res_two, hs5.row.whole (n := 4) rfl]
      refine ⟨fin g4 g5 _ (hs3.trans hx4.sub) hx4 _ hs5, .inr (.inr ⟨hf, he, tv, rfl, ?_, hlong⟩)⟩
      obtain ⟨a, cap, e, hsp, h0 | ⟨b, o, cs, w, gr, e1, e2, e3⟩⟩ := htr
      · exact absurd (List.eq_nil_of_length_eq_zero h0) he
      · have hpos : 0 < (truths Y).length := by omega
        have hne : b ≠ g1.next := fun eb => by
          subst eb
          have hrow : (AObj.row cs w gr) = .row [nilS, nilS, nilS, nilS] true 0 := Option.some.inj (e2.symm.trans hres)
          cases hrow
          have := List.mem_of_getElem? (e3 0 0 hpos (by omega))
          simp at this
        exact ⟨a, cap, e, hsp, .inr ⟨b, o, cs, w, gr, e1, by rw [hs5.old b hne]; exact hx4.sub _ _ _ _ trivial e2, e3⟩⟩

/-! ### The law's own: the truths, or an error -/
/-- what 'asked' answers -/
def AskedR (h : AHeap) (Y : MY) (due : Int) (v : Value) (h' : AHeap) : Prop := Made h h' 150000 ∧
  ((faultN Y ≠ 0 ∧ v = .tuple ⟨[nilS, .int .i64 (faultN Y)]⟩) ∨ (faultN Y = 0 ∧ due ≠ 0 ∧ v = .tuple ⟨[nilS, .int .i64 due]⟩) ∨ (faultN Y = 0 ∧ due = 0 ∧ refTruths Y = [] ∧ v = .tuple ⟨[nilS, .int .i64 11]⟩) ∨
    (faultN Y = 0 ∧ due = 0 ∧ refTruths Y ≠ [] ∧ ∃ l, v = .tuple ⟨[l, .int .i64 0]⟩ ∧ TruthsL h' l Y.nf (refTruths Y)))
def s43 : SCode := (.seq (.ops [⟨(some 2), none, .box (T 0)⟩, ⟨(some 4), none, .mov (.const (.slice none 0 0))⟩, ⟨(some 5), none, .mov (.const (.int .i64 (0)))⟩]) (.seq (.seq (.ops [⟨(some 8), none, .loadN 3 (T 2)⟩, ⟨(some 9), none, .call (.func 29) [(T 8)]⟩, ⟨(some 6), none, .mov (T 9)⟩]) (.seq (.ops [⟨(some 10), none, .mov (T 6)⟩, ⟨(some 11), none, .int2 .neq (T 10) (.const (.int .i64 (0)))⟩]) (.cond (T 11) (.seq (.ops [⟨(some 12), none, .mov (T 6)⟩, ⟨(some 4), none, .mov (.const (.slice none 0 0))⟩, ⟨(some 5), none, .mov (T 12)⟩]) .ret) .skip))) (.seq (.seq (.ops [⟨(some 13), none, .mov (T 1)⟩, ⟨(some 14), none, .int2 .neq (T 13) (.const (.int .i64 (0)))⟩]) (.cond (T 14) (.seq (.ops [⟨(some 15), none, .mov (T 1)⟩, ⟨(some 4), none, .mov (.const (.slice none 0 0))⟩, ⟨(some 5), none, .mov (T 15)⟩]) .ret) .skip)) (.seq (.ops [⟨(some 16), none, .loadN 3 (T 2)⟩, ⟨(some 17), none, .call (.func 64) [(T 16)]⟩, ⟨(some 7), none, .mov (T 17)⟩]) (.seq (.seq (.ops [⟨(some 18), none, .mov (T 7)⟩, ⟨(some 19), none, .len (T 18)⟩, ⟨(some 20), none, .int2 .eql (T 19) (.const (.int .i64 (0)))⟩]) (.cond (T 20) (.seq (.ops [⟨(some 4), none, .mov (.const (.slice none 0 0))⟩, ⟨(some 5), none, .mov (.const (.int .i64 (11)))⟩]) .ret) .skip)) (.seq (.ops [⟨(some 21), none, .mov (T 7)⟩, ⟨(some 4), none, .mov (T 21)⟩, ⟨(some 5), none, .mov (.const (.int .i64 (0)))⟩]) .ret))))))
theorem fok43 : FnOk Try.prog 43 22 s43 [.tmp 4, .tmp 5] := ⟨Try.f43, _, Try.func43, rfl, Try.ntmps43, by kernel_rfl, by kernel_rfl⟩
theorem asked_c (hn : 10020 ≤ n) (hr : h.next + 300000 < far) (hfl : h.floor ≤ h.next) {fv vv sv : Value} {Y : MY} (hy : YardR h fv vv sv Y) (due : Int) :
    ∃ v h', call n (.func (.func 43) #[] #[]) [.agg ⟨[fv, vv, sv]⟩, .int .i64 due] h = some (v, h') ∧ AskedR h Y due v h' := by
  obtain ⟨n, rfl⟩ : ∃ p, n = p + 1 := ⟨n - 1, by omega⟩
  refine call_any0 fok43 rfl rfl (by simp) ?_
  simp only [s43, W_seq, W_ops]
  refine ops_box (cs := [fv, vv, sv]) (by omega) rfl hy.one fun g1 hx1 => ?_
  have n1 := hx1.next
  have f1 := hx1.floor
  have hy1 := hy.mono hx1.sub
  have w1 := hx1.row.whole (n := 3) rfl
  have ef := faultL_c (n := n) (h := g1) (by omega) (by omega) hy1
  have m1 : Made h g1 150000 := ⟨hx1.sub, by omega, by omega, f1⟩
  by_cases hf : faultN Y = 0
  case neg =>
    simp only [W_skip, W_ret, W_exit, W_seq, W_block, then_norm', then_exit', then_ret', block_norm', block_ret', block_exit', W_cond, cond_true', cond_false', W_ops, ops_nil, ops_cons, ops_guard, step_some, g_tt, g_tf, g_ft, g_ff, put_some, put_none, upd_ite, val_tmp, fr0_zero, fr0_succ, ret_ret, ret_norm, res_tmp, ex_some, val_const, val_func, vals_nil, vals_cons, d_nil, d_free, d_rd1, d_rd, d_up, d_any, same_some, up_some, all_reads, Sub.refl, x_mov, x_pick, pick_t, pick_f, x_field1, x_fieldN, x_extract, x_box, x_alloc, x_load1, x_loadN, withH_some', x_store, x_mkfunc, x_mkslice, x_slice, x_fieldAddr, fieldAt_p, x_idxArr, x_idxSl, x_append, x_there, x_len, len_slice, x_not, not_bool, x_call, x_int2, i_add, i_sub, i_mul, i_eql, i_neq, i_lss, i_leq, i_gtr, i_geq, x_plain, p_min, p_max, p_rem, p_quo, r_min, r_max, p_shl, p_or, p_and, p_andNot, eqV_i, x_bslice, x_build, res_cellN, res_cell1, valN_tmp, valN_const, if_true, if_false, Nat.le_refl, true_and, and_true, decide_true, decide_false, Bool.not_true, Bool.not_false, reduceIte, Nat.reduceEqDiff, Nat.reduceAdd, Nat.reduceMul, Nat.reduceSub, Nat.reduceLeDiff, Nat.reduceLT, w1, ef, hf, ret_tt]
    exact ⟨m1, .inl ⟨hf, rfl⟩⟩
  by_cases hd : due = 0
  case neg =>
    simp only [W_skip, W_ret, W_exit, W_seq, W_block, then_norm', then_exit', then_ret', block_norm', block_ret', block_exit', W_cond, cond_true', cond_false', W_ops, ops_nil, ops_cons, ops_guard, step_some, g_tt, g_tf, g_ft, g_ff, put_some, put_none, upd_ite, val_tmp, fr0_zero, fr0_succ, ret_ret, ret_norm, res_tmp, ex_some, val_const, val_func, vals_nil, vals_cons, d_nil, d_free, d_rd1, d_rd, d_up, d_any, same_some, up_some, all_reads, Sub.refl, x_mov, x_pick, pick_t, pick_f, x_field1, x_fieldN, x_extract, x_box, x_alloc, x_load1, x_loadN, withH_some', x_store, x_mkfunc, x_mkslice, x_slice, x_fieldAddr, fieldAt_p, x_idxArr, x_idxSl, x_append, x_there, x_len, len_slice, x_not, not_bool, x_call, x_int2, i_add, i_sub, i_mul, i_eql, i_neq, i_lss, i_leq, i_gtr, i_geq, x_plain, p_min, p_max, p_rem, p_quo, r_min, r_max, p_shl, p_or, p_and, p_andNot, eqV_i, x_bslice, x_build, res_cellN, res_cell1, valN_tmp, valN_const, if_true, if_false, Nat.le_refl, true_and, and_true, decide_true, decide_false, Bool.not_true, Bool.not_false, reduceIte, Nat.reduceEqDiff, Nat.reduceAdd, Nat.reduceMul, Nat.reduceSub, Nat.reduceLeDiff, Nat.reduceLT, w1, ef, hf, hd, ret_tt]
    exact ⟨m1, .inr (.inl ⟨hf, hd, rfl⟩)⟩
  subst hd
  obtain ⟨l, g2, e2, ht, m2⟩ := truthsRef_c (n := n) (h := g1) (by omega) (by omega) (by omega) hy1 hf
  have n2 := m2.next
  have u2 := m2.up
  have f2 := m2.floor
  have hm : Made h g2 150000 := ⟨hx1.sub.trans m2.sub, by omega, by omega, by omega⟩
  obtain ⟨r, q1, q2⟩ := ht
  by_cases he : refTruths Y = []
  · have hl : (refTruthsTo Y (manyN Y.lo Y.hi Y.nf).toNat).length = 0 := by show (refTruths Y).length = 0; rw [he]; rfl
    simp only [W_skip, W_ret, W_exit, W_seq, W_block, then_norm', then_exit', then_ret', block_norm', block_ret', block_exit', W_cond, cond_true', cond_false', W_ops, ops_nil, ops_cons, ops_guard, step_some, g_tt, g_tf, g_ft, g_ff, put_some, put_none, upd_ite, val_tmp, fr0_zero, fr0_succ, ret_ret, ret_norm, res_tmp, ex_some, val_const, val_func, vals_nil, vals_cons, d_nil, d_free, d_rd1, d_rd, d_up, d_any, same_some, up_some, all_reads, Sub.refl, x_mov, x_pick, pick_t, pick_f, x_field1, x_fieldN, x_extract, x_box, x_alloc, x_load1, x_loadN, withH_some', x_store, x_mkfunc, x_mkslice, x_slice, x_fieldAddr, fieldAt_p, x_idxArr, x_idxSl, x_append, x_there, x_len, len_slice, x_not, not_bool, x_call, x_int2, i_add, i_sub, i_mul, i_eql, i_neq, i_lss, i_leq, i_gtr, i_geq, x_plain, p_min, p_max, p_rem, p_quo, r_min, r_max, p_shl, p_or, p_and, p_andNot, eqV_i, x_bslice, x_build, res_cellN, res_cell1, valN_tmp, valN_const, if_true, if_false, Nat.le_refl, true_and, and_true, decide_true, decide_false, Bool.not_true, Bool.not_false, reduceIte, Nat.reduceEqDiff, Nat.reduceAdd, Nat.reduceMul, Nat.reduceSub, Nat.reduceLeDiff, Nat.reduceLT, w1, ef, hf, e2, Cells.len q1, hl, Int.natCast_zero, ret_tt]
    exact ⟨hm, .inr (.inr (.inl ⟨hf, rfl, he, rfl⟩))⟩
  · have hl : ¬ ((refTruthsTo Y (manyN Y.lo Y.hi Y.nf).toNat).length : Int) = 0 := fun e => he (List.eq_nil_of_length_eq_zero (by show (refTruthsTo Y (manyN Y.lo Y.hi Y.nf).toNat).length = 0; omega))
    simp only [W_skip, W_ret, W_exit, W_seq, W_block, then_norm', then_exit', then_ret', block_norm', block_ret', block_exit', W_cond, cond_true', cond_false', W_ops, ops_nil, ops_cons, ops_guard, step_some, g_tt, g_tf, g_ft, g_ff, put_some, put_none, upd_ite, val_tmp, fr0_zero, fr0_succ, ret_ret, ret_norm, res_tmp, ex_some, val_const, val_func, vals_nil, vals_cons, d_nil, d_free, d_rd1, d_rd, d_up, d_any, same_some, up_some, all_reads, Sub.refl, x_mov, x_pick, pick_t, pick_f, x_field1, x_fieldN, x_extract, x_box, x_alloc, x_load1, x_loadN, withH_some', x_store, x_mkfunc, x_mkslice, x_slice, x_fieldAddr, fieldAt_p, x_idxArr, x_idxSl, x_append, x_there, x_len, len_slice, x_not, not_bool, x_call, x_int2, i_add, i_sub, i_mul, i_eql, i_neq, i_lss, i_leq, i_gtr, i_geq, x_plain, p_min, p_max, p_rem, p_quo, r_min, r_max, p_shl, p_or, p_and, p_andNot, eqV_i, x_bslice, x_build, res_cellN, res_cell1, valN_tmp, valN_const, if_true, if_false, Nat.le_refl, true_and, and_true, decide_true, decide_false, Bool.not_true, Bool.not_false, reduceIte, Nat.reduceEqDiff, Nat.reduceAdd, Nat.reduceMul, Nat.reduceSub, Nat.reduceLeDiff, Nat.reduceLT, w1, ef, hf, e2, Cells.len q1, hl, ret_tt]
    exact ⟨hm, .inr (.inr (.inr ⟨hf, rfl, he, _, rfl, r, q1, q2⟩))⟩

def s36 : SCode := (.seq (.ops [⟨(some 1), none, .box (T 0)⟩, ⟨(some 2), none, .mov (.const (.slice none 0 0))⟩, ⟨(some 3), none, .mov (.const (.int .i64 (0)))⟩]) (.seq (.ops [⟨(some 4), none, .loadN 3 (T 1)⟩, ⟨(some 5), none, .call (.func 43) [(T 4), (.const (.int .i64 (0)))]⟩, ⟨(some 6), none, .extract 0 (T 5)⟩, ⟨(some 7), none, .extract 1 (T 5)⟩, ⟨(some 2), none, .mov (T 6)⟩, ⟨(some 3), none, .mov (T 7)⟩]) .ret))
theorem fok36 : FnOk Try.prog 36 8 s36 [.tmp 2, .tmp 3] := ⟨Try.f36, _, Try.func36, rfl, Try.ntmps36, by kernel_rfl, by kernel_rfl⟩
theorem sure_c (hn : 10025 ≤ n) (hr : h.next + 300010 < far) (hfl : h.floor ≤ h.next) {fv vv sv : Value} {Y : MY} (hy : YardR h fv vv sv Y) :
    ∃ v h', call n (.func (.func 36) #[] #[]) [.agg ⟨[fv, vv, sv]⟩] h = some (v, h') ∧ (Made h h' 150010 ∧
      ((faultN Y ≠ 0 ∧ v = .tuple ⟨[nilS, .int .i64 (faultN Y)]⟩) ∨ (faultN Y = 0 ∧ refTruths Y = [] ∧ v = .tuple ⟨[nilS, .int .i64 11]⟩) ∨
        (faultN Y = 0 ∧ refTruths Y ≠ [] ∧ ∃ l, v = .tuple ⟨[l, .int .i64 0]⟩ ∧ TruthsL h' l Y.nf (refTruths Y)))) := by
  obtain ⟨n, rfl⟩ : ∃ p, n = p + 1 := ⟨n - 1, by omega⟩
  refine call_any0 fok36 rfl rfl (by simp) ?_
  simp only [s36, W_seq, W_ops]
  refine ops_box (cs := [fv, vv, sv]) (by omega) rfl hy.one fun g1 hx1 => ?_
  have n1 := hx1.next
  have f1 := hx1.floor
  have hy1 := hy.mono hx1.sub
  have w1 := hx1.row.whole (n := 3) rfl
  obtain ⟨v, g2, e2, m2, hv⟩ := asked_c (n := n) (h := g1) (by omega) (by omega) (by omega) hy1 0
  have n2 := m2.next
  have u2 := m2.up
  have f2 := m2.floor
  have hm : Made h g2 150010 := ⟨hx1.sub.trans m2.sub, by omega, by omega, by omega⟩
  rcases hv with ⟨hf, rfl⟩ | ⟨_, h0, _⟩ | ⟨hf, _, he, rfl⟩ | ⟨hf, _, he, l, rfl, ht⟩
  · simp only [W_skip, W_ret, W_exit, W_seq, W_block, then_norm', then_exit', then_ret', block_norm', block_ret', block_exit', W_cond, cond_true', cond_false', W_ops, ops_nil, ops_cons, ops_guard, step_some, g_tt, g_tf, g_ft, g_ff, put_some, put_none, upd_ite, val_tmp, fr0_zero, fr0_succ, ret_ret, ret_norm, res_tmp, ex_some, val_const, val_func, vals_nil, vals_cons, d_nil, d_free, d_rd1, d_rd, d_up, d_any, same_some, up_some, all_reads, Sub.refl, x_mov, x_pick, pick_t, pick_f, x_field1, x_fieldN, x_extract, x_box, x_alloc, x_load1, x_loadN, withH_some', x_store, x_mkfunc, x_mkslice, x_slice, x_fieldAddr, fieldAt_p, x_idxArr, x_idxSl, x_append, x_there, x_len, len_slice, x_not, not_bool, x_call, x_int2, i_add, i_sub, i_mul, i_eql, i_neq, i_lss, i_leq, i_gtr, i_geq, x_plain, p_min, p_max, p_rem, p_quo, r_min, r_max, p_shl, p_or, p_and, p_andNot, eqV_i, x_bslice, x_build, res_cellN, res_cell1, valN_tmp, valN_const, if_true, if_false, Nat.le_refl, true_and, and_true, decide_true, decide_false, Bool.not_true, Bool.not_false, reduceIte, Nat.reduceEqDiff, Nat.reduceAdd, Nat.reduceMul, Nat.reduceSub, Nat.reduceLeDiff, Nat.reduceLT, w1, e2, ex0, ex1, ret_tt]
    exact ⟨hm, .inl hf⟩
  · exact absurd rfl h0
  · simp only [W_skip, W_ret, W_exit, W_seq, W_block, then_norm', then_exit', then_ret', block_norm', block_ret', block_exit', W_cond, cond_true', cond_false', W_ops, ops_nil, ops_cons, ops_guard, step_some, g_tt, g_tf, g_ft, g_ff, put_some, put_none, upd_ite, val_tmp, fr0_zero, fr0_succ, ret_ret, ret_norm, res_tmp, ex_some, val_const, val_func, vals_nil, vals_cons, d_nil, d_free, d_rd1, d_rd, d_up, d_any, same_some, up_some, all_reads, Sub.refl, x_mov, x_pick, pick_t, pick_f, x_field1, x_fieldN, x_extract, x_box, x_alloc, x_load1, x_loadN, withH_some', x_store, x_mkfunc, x_mkslice, x_slice, x_fieldAddr, fieldAt_p, x_idxArr, x_idxSl, x_append, x_there, x_len, len_slice, x_not, not_bool, x_call, x_int2, i_add, i_sub, i_mul, i_eql, i_neq, i_lss, i_leq, i_gtr, i_geq, x_plain, p_min, p_max, p_rem, p_quo, r_min, r_max, p_shl, p_or, p_and, p_andNot, eqV_i, x_bslice, x_build, res_cellN, res_cell1, valN_tmp, valN_const, if_true, if_false, Nat.le_refl, true_and, and_true, decide_true, decide_false, Bool.not_true, Bool.not_false, reduceIte, Nat.reduceEqDiff, Nat.reduceAdd, Nat.reduceMul, Nat.reduceSub, Nat.reduceLeDiff, Nat.reduceLT, w1, e2, ex0, ex1, ret_tt]
    exact ⟨hm, .inr (.inl ⟨hf, he⟩)⟩
  · simp only [W_skip, W_ret, W_exit, W_seq, W_block, then_norm', then_exit', then_ret', block_norm', block_ret', block_exit', W_cond, cond_true', cond_false', W_ops, ops_nil, ops_cons, ops_guard, step_some, g_tt, g_tf, g_ft, g_ff, put_some, put_none, upd_ite, val_tmp, fr0_zero, fr0_succ, ret_ret, ret_norm, res_tmp, ex_some, val_const, val_func, vals_nil, vals_cons, d_nil, d_free, d_rd1, d_rd, d_up, d_any, same_some, up_some, all_reads, Sub.refl, x_mov, x_pick, pick_t, pick_f, x_field1, x_fieldN, x_extract, x_box, x_alloc, x_load1, x_loadN, withH_some', x_store, x_mkfunc, x_mkslice, x_slice, x_fieldAddr, fieldAt_p, x_idxArr, x_idxSl, x_append, x_there, x_len, len_slice, x_not, not_bool, x_call, x_int2, i_add, i_sub, i_mul, i_eql, i_neq, i_lss, i_leq, i_gtr, i_geq, x_plain, p_min, p_max, p_rem, p_quo, r_min, r_max, p_shl, p_or, p_and, p_andNot, eqV_i, x_bslice, x_build, res_cellN, res_cell1, valN_tmp, valN_const, if_true, if_false, Nat.le_refl, true_and, and_true, decide_true, decide_false, Bool.not_true, Bool.not_false, reduceIte, Nat.reduceEqDiff, Nat.reduceAdd, Nat.reduceMul, Nat.reduceSub, Nat.reduceLeDiff, Nat.reduceLT, w1, e2, ex0, ex1, ret_tt]
    exact ⟨hm, .inr (.inr ⟨hf, he, _, rfl, ht⟩)⟩
end Go.Vm.Vat

namespace Go.Vm.Vat
open Go.Proofs
set_option linter.unusedSimpArgs false
set_option linter.unusedVariables false
set_option maxRecDepth 10000
variable {n : Nat} {h : AHeap}

/-! ### Slices without their first element -/
theorem tail_c {v : Value} {s m : Nat} {c : Nat → Nat → Value} (hc : Cells h v s m c) (hm : 0 < m) (hlong : Long v) (hf : h.next < far) :
    ∃ v' h', sliceA s false h v (some (.int .i64 1)) none none = some (v', h') ∧ Cells h' v' s (m - 1) (fun k j => c (k + 1) j) ∧ Sub All h h' ∧ h.next ≤ h'.next ∧ h'.next ≤ h.next + 1 ∧ h'.floor = h.floor ∧ oneCell v' = true ∧ ∀ g, Cells g v s m c → Cells g v' s (m - 1) (fun k j => c (k + 1) j) := by
  obtain ⟨b, o, cap, cs, w, gr, rfl, h1, h2⟩ := hc.ptr hm
  have e1 : boundA 0 (some (.int .i64 1)) = some 1 := rfl
  have e2 : boundA m none = some m := rfl
  have e3 : Nat.ble 1 m = true := ble_iff.2 hm
  have e4 : Nat.ble m m = true := ble_iff.2 (Nat.le_refl _)
  have hcell : ∀ g, Cells g (.slice (some ⟨b, o, none⟩) m cap) s m c → ∀ cp, Cells g (.slice (addrPlus (some ⟨b, o, none⟩) (1 * s)) (m - 1) cp) s (m - 1) (fun k j => c (k + 1) j) := fun g hcg cp => by
    obtain ⟨b', o', cap', cs, w, gr, e, h1, h2⟩ := hcg.ptr hm
    cases e
    have ea : addrPlus (some ⟨b, o, none⟩) (1 * s) = some ⟨b, o + s, none⟩ := by
      simp only [addrPlus, Nat.one_mul]
    rw [ea]
    refine ⟨_, cp, rfl, fun x e => by cases e; rfl, ?_⟩
    by_cases h0 : m - 1 = 0
    · exact .inl h0
    · exact .inr ⟨b, o + s, cs, w, gr, rfl, h1, fun k j hk hj => by
        have := h2 (k + 1) j (by omega) hj
        rw [Nat.add_mul, Nat.one_mul] at this
        rw [show o + s + k * s + j = o + (k * s + s) + j by omega]
        exact this⟩
  unfold sliceA
  simp only [e1, e2, e3, e4, Bool.and_self, cond_true]
  cases hc1 : Nat.blt cap unk with
  | true =>
    simp only [cond_true]
    cases hc2 : Nat.beq cap 1 with
    | true =>
      simp only [cond_true]
      by_cases h0 : m - 1 = 0
      · exact ⟨_, _, rfl, ⟨_, _, rfl, fun x e => by cases e; rfl, .inl h0⟩, Sub.refl, Nat.le_refl _, by omega, rfl, rfl, fun g _ => ⟨_, _, rfl, fun x e => by cases e; rfl, .inl h0⟩⟩
      · exact absurd (hlong _ _ _ rfl (beq_iff.1 hc2)) (by omega)
    | false =>
      simp only [cond_false]
      exact ⟨_, _, rfl, hcell h hc _, Sub.refl, Nat.le_refl _, by omega, rfl, rfl, fun g hg => hcell g hg _⟩
  | false =>
    have e5 : Nat.beq 1 0 = false := rfl
    simp only [cond_false, e5]
    cases hc3 : Nat.blt 1 m with
    | true =>
      simp only [cond_true]
      exact ⟨_, _, rfl, hcell h hc _, Sub.refl, Nat.le_refl _, by omega, rfl, rfl, fun g hg => hcell g hg _⟩
    | false =>
      have h0 : m - 1 = 0 := by
        have : ¬ 1 < m := fun h => by rw [blt_iff.2 h] at hc3; cases hc3
        omega
      simp only [cond_false]
      rw [push_run hf]
      have hmm := more_more hf none
      exact ⟨_, _, rfl, ⟨_, _, by rw [h0], fun x e => by cases e; rfl, .inl h0⟩, hmm.sub, by rw [hmm.next]; omega, by rw [hmm.next]; omega, hmm.floor, rfl, fun g _ => ⟨_, _, by rw [h0], fun x e => by cases e; rfl, .inl h0⟩⟩

/-! ### What is surely in a vat -/
theorem le_minN {x : Int} {a : Nat → Int} {b : Int} : ∀ m, b ≤ minN x a m ↔ b ≤ x ∧ ∀ i, i < m → b ≤ a i
  | 0 => by simp [minN]
  | m + 1 => by
    simp only [minN]
    rw [Int.le_min, le_minN m]
    constructor
    · rintro ⟨⟨h1, h2⟩, h3⟩
      refine ⟨h1, fun i hi => ?_⟩
      by_cases e : i = m
      · subst e; exact h3
      · exact h2 i (by omega)
    · rintro ⟨h1, h2⟩
      exact ⟨⟨h1, fun i hi => h2 i (by omega)⟩, h2 m (by omega)⟩
def blueWith (Y : MY) (v f : Nat) (many : Nat) (t : Nat → Int) : Int := blueN t (Y.q v) Y.nf + many * t f
def s119 : SCode := (.seq (.ops [⟨(some 5), none, .box (T 0)⟩, ⟨(some 6), none, .mov (.const (.int .i64 (0)))⟩]) (.seq (.draw [⟨.rd1, ⟨(some 7), none, .loadN 4 (T 1)⟩⟩, ⟨.rd1, ⟨(some 8), none, .loadN 5 (T 5)⟩⟩, ⟨.rd1, ⟨(some 9), none, .load1 (T 2)⟩⟩, ⟨.up, ⟨(some 10), none, .call (.func 77) [(T 7), (T 8), (T 9)]⟩⟩, ⟨.rd, ⟨(some 11), none, .load1 (T 3)⟩⟩, ⟨.rd, ⟨(some 12), none, .load1 (T 4)⟩⟩, ⟨.free, ⟨(some 13), none, .idxArr 5 1 (T 5) (T 12)⟩⟩, ⟨.rd, ⟨(some 14), none, .load1 (T 13)⟩⟩, ⟨.free, ⟨(some 15), none, .int2 .mul (T 11) (T 14)⟩⟩, ⟨.free, ⟨(some 16), none, .int2 .add (T 10) (T 15)⟩⟩, ⟨.free, ⟨(some 6), none, .mov (T 16)⟩⟩]) .ret))
theorem fok119 : FnOk Try.prog 119 17 s119 [.tmp 6] := ⟨Try.f119, _, Try.func119, rfl, Try.ntmps119, by kernel_rfl, by kernel_rfl⟩
theorem sureBlue1_c (hn : 10003 ≤ n) (hr : h.next + 10 < far) {F V S T : Value} {Y : MY} {t : Nat → Int} {p0 p1 p2 p3 v f many : Nat} (ha : AtVat h V Y t) (h1 : allB oneCell [F, V, S, T] = true) (hv : v < Y.nv) (hf : f < Y.nf) (hm : many ≤ 100)
    (r0 : Row h p0 [F, V, S, T]) (r1 : Row h p1 [.int .i64 (v : Int)]) (r2 : Row h p2 [.int .i64 (many : Int)]) (r3 : Row h p3 [.int .i64 (f : Int)]) :
    call n (.func (.func 119) ⟨[]⟩ ⟨[.pointer (some ⟨p0, 0, none⟩), .pointer (some ⟨p1, 0, none⟩), .pointer (some ⟨p2, 0, none⟩), .pointer (some ⟨p3, 0, none⟩)]⟩) [.agg ⟨arr t⟩] h = some (.int .i64 (blueWith Y v f many t), h) := by
  obtain ⟨n, rfl⟩ : ∃ p, n = p + 1 := ⟨n - 1, by omega⟩
  refine call_plain (xs := []) (ys := [.pointer (some ⟨p0, 0, none⟩), .pointer (some ⟨p1, 0, none⟩), .pointer (some ⟨p2, 0, none⟩), .pointer (some ⟨p3, 0, none⟩)]) fok119 rfl rfl (by simp) rfl ?_
  have hsub : Sub All h h.shutAll := fun _ _ _ _ _ h => h
  have ha := ha.mono hsub
  have r0 := r0.mono hsub
  have r1 := r1.mono hsub
  have r2 := r2.mono hsub
  have r3 := r3.mono hsub
  have hr : h.shutAll.next + 10 < far := hr
  generalize h.shutAll = h at ha r0 r1 r2 r3 hr
  simp only [s119, List.cons_append, List.nil_append, W_seq, W_ops]
  refine ops_box (cs := arr t) (by omega) rfl arr_one fun g1 hx1 => ?_
  have n1 := hx1.next
  have ha := ha.mono hx1.sub
  have w0 := (r0.mono hx1.sub).whole (n := 4) rfl
  have w1 := r1.mono hx1.sub
  have w2 := r2.mono hx1.sub
  have w3 := r3.mono hx1.sub
  have w5 := hx1.row.whole arr_len
  obtain ⟨v1, v2⟩ := ha.ok v hv
  have ei := inVat_c (n := n) (h := g1) (b := t) (F := F) (S := S) (T := T) (at_ := v) (by omega) (by omega) ha.v h1 hv v1 ha.sz ha.b (fun i hi => v2 i (by omega))
  have hsz := ha.sz
  obtain ⟨b1, b2⟩ := blueN_bound (b := t) (q := Y.q v) (n := Y.nf) (by omega) ha.b (fun i hi => v2 i (by omega)) Y.nf (Nat.le_refl _)
  obtain ⟨t1, t2⟩ := ha.b f hf
  have m1 : (0 : Int) ≤ (many : Int) * t f := Int.mul_nonneg (by omega) t1
  have m2 : (many : Int) * t f ≤ 100 * 20 := Int.mul_le_mul (by omega) t2 t1 (by omega)
  have hw1 : wrapF .i64 ((many : Int) * t f) = many * t f := wrap_in (by omega) (by omega)
  have hw2 : wrapF .i64 (blueN t (Y.q v) Y.nf + many * t f) = blueWith Y v f many t := by rw [wrap_in (by omega) (by omega)]; rfl
  have hl : loadCell g1 (.pointer (some ⟨h.next, f, none⟩)) = some (.int .i64 (t f)) := by rw [hx1.row.ld, arr_get (by omega)]
  simp only [W_skip, W_ret, W_exit, W_seq, W_block, then_norm', then_exit', then_ret', block_norm', block_ret', block_exit', W_cond, cond_true', cond_false', W_ops, ops_nil, ops_cons, ops_guard, step_some, g_tt, g_tf, g_ft, g_ff, put_some, put_none, upd_ite, val_tmp, fr0_zero, fr0_succ, ret_ret, ret_norm, res_tmp, ex_some, val_const, val_func, vals_nil, vals_cons, d_nil, d_free, d_rd1, d_rd, d_up, d_any, same_some, up_some, all_reads, Sub.refl, x_mov, x_pick, pick_t, pick_f, x_field1, x_fieldN, x_extract, x_box, x_alloc, x_load1, x_loadN, withH_some', x_store, x_mkfunc, x_mkslice, x_slice, x_fieldAddr, fieldAt_p, x_idxArr, x_idxSl, x_append, x_there, x_len, len_slice, x_not, not_bool, x_call, x_int2, i_add, i_sub, i_mul, i_eql, i_neq, i_lss, i_leq, i_gtr, i_geq, x_plain, p_min, p_max, p_rem, p_quo, r_min, r_max, p_shl, p_or, p_and, p_andNot, eqV_i, x_bslice, x_build, res_cellN, res_cell1, valN_tmp, valN_const, if_true, if_false, Nat.le_refl, true_and, and_true, decide_true, decide_false, Bool.not_true, Bool.not_false, reduceIte, Nat.reduceEqDiff, Nat.reduceAdd, Nat.reduceMul, Nat.reduceSub, Nat.reduceLeDiff, Nat.reduceLT]
  refine W_draw All ?_
  simp only [W_skip, W_ret, W_exit, W_seq, W_block, then_norm', then_exit', then_ret', block_norm', block_ret', block_exit', W_cond, cond_true', cond_false', W_ops, ops_nil, ops_cons, ops_guard, step_some, g_tt, g_tf, g_ft, g_ff, put_some, put_none, upd_ite, val_tmp, fr0_zero, fr0_succ, ret_ret, ret_norm, res_tmp, ex_some, val_const, val_func, vals_nil, vals_cons, d_nil, d_free, d_rd1, d_rd, d_up, d_any, same_some, up_some, all_reads, Sub.refl, x_mov, x_pick, pick_t, pick_f, x_field1, x_fieldN, x_extract, x_box, x_alloc, x_load1, x_loadN, withH_some', x_store, x_mkfunc, x_mkslice, x_slice, x_fieldAddr, fieldAt_p, x_idxArr, x_idxSl, x_append, x_there, x_len, len_slice, x_not, not_bool, x_call, x_int2, i_add, i_sub, i_mul, i_eql, i_neq, i_lss, i_leq, i_gtr, i_geq, x_plain, p_min, p_max, p_rem, p_quo, r_min, r_max, p_shl, p_or, p_and, p_andNot, eqV_i, x_bslice, x_build, res_cellN, res_cell1, valN_tmp, valN_const, if_true, if_false, Nat.le_refl, true_and, and_true, decide_true, decide_false, Bool.not_true, Bool.not_false, reduceIte, Nat.reduceEqDiff, Nat.reduceAdd, Nat.reduceMul, Nat.reduceSub, Nat.reduceLeDiff, Nat.reduceLT, w0, w1.ld, w2.ld, w3.ld, w5, ei, List.getElem?_cons_zero, idxArr_p (l := 5) (k := f) (by omega), Nat.zero_add, hl, hw1, hw2]

/-- what is surely in the vat, with so many further bundles -/
def sureN (Y : MY) (v f many : Nat) (L : List (Nat → Int)) : Int := minN (blueWith Y v f many (L.getD 0 fun _ => 0)) (fun i => blueWith Y v f many (L.getD (i + 1) fun _ => 0)) (L.length - 1)
theorem le_sureN {Y : MY} {v f many : Nat} {L : List (Nat → Int)} (hL : L ≠ []) {b : Int} : b ≤ sureN Y v f many L ↔ ∀ t, t ∈ L → b ≤ blueWith Y v f many t := by
  unfold sureN
  rw [le_minN]
  have hpos : 0 < L.length := List.length_pos_iff.2 hL
  have hget : ∀ i, (hi : i < L.length) → L.getD i (fun _ => 0) = L[i] := fun i hi => by rw [List.getD_eq_getElem?_getD, List.getElem?_eq_getElem hi]; rfl
  constructor
  · rintro ⟨h1, h2⟩ t ht
    obtain ⟨i, hi, rfl⟩ := List.getElem_of_mem ht
    cases i with
    | zero => rw [← hget 0 hi]; exact h1
    | succ i => rw [← hget (i + 1) hi]; exact h2 i (by omega)
  · intro ht
    refine ⟨ht _ (by rw [hget 0 hpos]; exact List.getElem_mem hpos), fun i hi => ?_⟩
    have hi' : i + 1 < L.length := by omega
    exact ht _ (by rw [hget (i + 1) hi']; exact List.getElem_mem hi')
theorem truths_range {Y : MY} (hf : faultN Y = 0) {t : Nat → Int} (ht : t ∈ truths Y) : ∀ k, k < Y.nf → 0 ≤ t k ∧ t k ≤ 20 := fun k hk => by
  have h1 := (truths_mem.1 ht).1.1 k hk
  have h2 := (good_of hf).f k hk
  omega
theorem truths_at {Y : MY} {i : Nat} (hi : i < (truths Y).length) : (truths Y).getD i (fun _ => 0) ∈ truths Y := by rw [List.getD_eq_getElem?_getD, List.getElem?_eq_getElem hi]; exact List.getElem_mem hi
def s99 : SCode := (.seq (.ops [⟨(some 4), none, .box (T 0)⟩, ⟨(some 5), none, .box (T 1)⟩, ⟨(some 6), none, .box (T 2)⟩, ⟨(some 7), none, .box (T 3)⟩, ⟨(some 8), none, .mov (.const (.int .i64 (0)))⟩]) (.seq (.ops [⟨(some 13), none, .mkfunc 119 [] [(T 4), (T 5), (T 7), (T 6)]⟩, ⟨(some 9), none, .mov (T 13)⟩]) (.seq (.ops [⟨(some 14), none, .mov (T 9)⟩, ⟨(some 15), none, .fieldAddr 3 (T 4)⟩, ⟨(some 16), none, .load1 (T 15)⟩, ⟨(some 17), none, .idxSl 5 (T 16) (.const (.int .i64 (0)))⟩, ⟨(some 18), none, .loadN 5 (T 17)⟩, ⟨(some 19), none, .call (T 14) [(T 18)]⟩, ⟨(some 10), none, .mov (T 19)⟩]) (.seq (.seq (.ops [⟨(some 20), none, .fieldAddr 3 (T 4)⟩, ⟨(some 21), none, .load1 (T 20)⟩, ⟨(some 22), none, .slice 5 (T 21) (some (.const (.int .i64 (1)))) none none⟩, ⟨(some 23), none, .len (T 22)⟩, ⟨(some 24), none, .mov (.const (.int .i64 (0)))⟩]) (.block 0 (.loop (.seq (.ops [⟨(some 25), none, .int2 .lss (T 24) (T 23)⟩]) (.seq (.cond (T 25) .skip (.exit 0)) (.seq (.block 1 (.seq (.ops [⟨(some 26), none, .idxSl 5 (T 22) (T 24)⟩, ⟨(some 27), none, .loadN 5 (T 26)⟩, ⟨(some 12), none, .alloc [(.int .i64 (0)), (.int .i64 (0)), (.int .i64 (0)), (.int .i64 (0)), (.int .i64 (0))]⟩, ⟨none, none, .store 5 (T 12) (T 27)⟩]) (.ops [⟨(some 28), none, .mov (T 10)⟩, ⟨(some 29), none, .mov (T 9)⟩, ⟨(some 30), none, .loadN 5 (T 12)⟩, ⟨(some 31), none, .call (T 29) [(T 30)]⟩, ⟨(some 32), none, .bslice 1 1 [(.int .i64 (0))] [0] [(T 31)]⟩, ⟨(some 33), none, .call (.func 94) [(T 28), (T 32)]⟩, ⟨(some 10), none, .mov (T 33)⟩]))) (.ops [⟨(some 34), none, .int2 .add (T 24) (.const (.int .i64 (1)))⟩, ⟨(some 24), none, .mov (T 34)⟩]))))))) (.seq (.ops [⟨(some 35), none, .mov (T 10)⟩, ⟨(some 8), none, .mov (T 35)⟩]) .ret)))))
theorem fok99 : FnOk Try.prog 99 36 s99 [.tmp 8] := ⟨Try.f99, _, Try.func99, rfl, Try.ntmps99, by kernel_rfl, by kernel_rfl⟩
theorem sureBlue_c (hn : 10010 ≤ n) (hr : h.next + 100000 < far) {F V S tv : Value} {Y : MY} {v f many : Nat} (hy : YardR h F V S Y) (hf0 : faultN Y = 0) (hL : truths Y ≠ []) (htr : TruthsR h tv (truths Y)) (hlong : Long tv) (hv : v < Y.nv) (hf : f < Y.nf) (hm : many ≤ 100) :
    call n (.func (.func 99) #[] #[]) [.agg ⟨[F, V, S, tv]⟩, .int .i64 (v : Int), .int .i64 (f : Int), .int .i64 (many : Int)] h = some (.int .i64 (sureN Y v f many (truths Y)), h) := by
  obtain ⟨n, rfl⟩ : ∃ p, n = p + 1 := ⟨n - 1, by omega⟩
  refine call_plain0 fok99 rfl rfl (by simp) rfl ?_
  have hy := hy.shut
  have htr : TruthsR h.shutAll tv (truths Y) := Cells.shut htr
  have hr : h.shutAll.next + 100000 < far := hr
  have hfl : h.shutAll.floor ≤ h.shutAll.next := Nat.le_refl _
  generalize h.shutAll = h at hy htr hr hfl
  have hG := good_of hf0
  have hpos : 0 < (truths Y).length := List.length_pos_iff.2 hL
  have hlen := truths_len hf0
  have ho4 : allB oneCell [F, V, S, tv] = true := by have h1 := hy.one; have h2 := Cells.one htr; simp [allB] at h1 ⊢; simp [h1, h2]
  simp only [s99, W_seq, W_ops]
  refine ops_box (cs := [F, V, S, tv]) (by omega) rfl ho4 fun g1 hx1 => ?_
  refine ops_box (cs := [.int .i64 (v : Int)]) (by rw [hx1.next]; omega) rfl rfl fun g2 hx2 => ?_
  refine ops_box (cs := [.int .i64 (f : Int)]) (by rw [hx2.next, hx1.next]; omega) rfl rfl fun g3 hx3 => ?_
  refine ops_box (cs := [.int .i64 (many : Int)]) (by rw [hx3.next, hx2.next, hx1.next]; omega) rfl rfl fun g4 hx4 => ?_
  have n1 := hx1.next
  have n2 := hx2.next
  have n3 := hx3.next
  have n4 := hx4.next
  have r0 := ((hx1.row.mono hx2.sub).mono hx3.sub).mono hx4.sub
  have r1 := (hx2.row.mono hx3.sub).mono hx4.sub
  have r3 := hx3.row.mono hx4.sub
  have r2 := hx4.row
  have s4 : Sub All h g4 := hx1.sub.trans (hx2.sub.trans (hx3.sub.trans hx4.sub))
  have f4 : g4.floor = h.floor := by rw [hx4.floor, hx3.floor, hx2.floor, hx1.floor]
  have htr4 : TruthsR g4 tv (truths Y) := Cells.mono htr s4
  have hat : ∀ {g : AHeap} {t : Nat → Int}, Sub All h g → t ∈ truths Y → AtVat g V Y t := fun hs ht => ⟨(hy.mono hs).v, hG.sz.1, hG.v, truths_range hf0 ht⟩
  have q0 := truths_ld htr4 hpos
  have e0 := sureBlue1_c (n := n) (h := g4) (F := F) (S := S) (T := tv) (t := (truths Y).getD 0 fun _ => 0) (v := v) (f := f) (many := many) (by omega) (by omega) (hat s4 (truths_at hpos)) ho4 hv hf hm r0 r1 r2 r3
  have i0 : indexSl 5 tv (.int .i64 0) = some (ptrO tv 5 0 0) := Cells.idx htr4 hpos
  obtain ⟨tl, g5, et, ht5, s5, u5, b5, f5, o5, _⟩ := tail_c htr4 hpos hlong (by omega)
  simp only [W_skip, W_ret, W_exit, W_seq, W_block, then_norm', then_exit', then_ret', block_norm', block_ret', block_exit', W_cond, cond_true', cond_false', W_ops, ops_nil, ops_cons, ops_guard, step_some, g_tt, g_tf, g_ft, g_ff, put_some, put_none, upd_ite, val_tmp, fr0_zero, fr0_succ, ret_ret, ret_norm, res_tmp, ex_some, val_const, val_func, vals_nil, vals_cons, d_nil, d_free, d_rd1, d_rd, d_up, d_any, same_some, up_some, all_reads, Sub.refl, x_mov, x_pick, pick_t, pick_f, x_field1, x_fieldN, x_extract, x_box, x_alloc, x_load1, x_loadN, withH_some', x_store, x_mkfunc, x_mkslice, x_slice, x_fieldAddr, fieldAt_p, x_idxArr, x_idxSl, x_append, x_there, x_len, len_slice, x_not, not_bool, x_call, x_int2, i_add, i_sub, i_mul, i_eql, i_neq, i_lss, i_leq, i_gtr, i_geq, x_plain, p_min, p_max, p_rem, p_quo, r_min, r_max, p_shl, p_or, p_and, p_andNot, eqV_i, x_bslice, x_build, res_cellN, res_cell1, valN_tmp, valN_const, if_true, if_false, Nat.le_refl, true_and, and_true, decide_true, decide_false, Bool.not_true, Bool.not_false, reduceIte, Nat.reduceEqDiff, Nat.reduceAdd, Nat.reduceMul, Nat.reduceSub, Nat.reduceLeDiff, Nat.reduceLT, r0.ld, Nat.zero_add, List.getElem?_cons_zero, List.getElem?_cons_succ, i0, q0, e0, Option.isSome_none, Option.map_some, Option.map_none, et, Cells.len ht5]
  refine W_loop ((truths Y).length - 1) (fun k f' g ms => (Sub All g5 g ∧ g.floor = g5.floor ∧ g5.next ≤ g.next ∧ g.next ≤ g5.next + 2 * k) ∧ ms = [] ∧
    f' 9 = .func (.func 119) ⟨[]⟩ ⟨[.pointer (some ⟨h.next, 0, none⟩), .pointer (some ⟨g1.next, 0, none⟩), .pointer (some ⟨g3.next, 0, none⟩), .pointer (some ⟨g2.next, 0, none⟩)]⟩ ∧
    f' 10 = .int .i64 (minN (blueWith Y v f many ((truths Y).getD 0 fun _ => 0)) (fun i => blueWith Y v f many ((truths Y).getD (i + 1) fun _ => 0)) k) ∧ f' 22 = tl ∧ f' 23 = .int .i64 (((truths Y).length - 1 : Nat) : Int) ∧ f' 24 = .int .i64 (k : Int)) (by simp; omega) ?_ ?_ ?_
  · simp only [W_skip, W_ret, W_exit, W_seq, W_block, then_norm', then_exit', then_ret', block_norm', block_ret', block_exit', W_cond, cond_true', cond_false', W_ops, ops_nil, ops_cons, ops_guard, step_some, g_tt, g_tf, g_ft, g_ff, put_some, put_none, upd_ite, val_tmp, fr0_zero, fr0_succ, ret_ret, ret_norm, res_tmp, ex_some, val_const, val_func, vals_nil, vals_cons, d_nil, d_free, d_rd1, d_rd, d_up, d_any, same_some, up_some, all_reads, Sub.refl, x_mov, x_pick, pick_t, pick_f, x_field1, x_fieldN, x_extract, x_box, x_alloc, x_load1, x_loadN, withH_some', x_store, x_mkfunc, x_mkslice, x_slice, x_fieldAddr, fieldAt_p, x_idxArr, x_idxSl, x_append, x_there, x_len, len_slice, x_not, not_bool, x_call, x_int2, i_add, i_sub, i_mul, i_eql, i_neq, i_lss, i_leq, i_gtr, i_geq, x_plain, p_min, p_max, p_rem, p_quo, r_min, r_max, p_shl, p_or, p_and, p_andNot, eqV_i, x_bslice, x_build, res_cellN, res_cell1, valN_tmp, valN_const, if_true, if_false, Nat.le_refl, true_and, and_true, decide_true, decide_false, Bool.not_true, Bool.not_false, reduceIte, Nat.reduceEqDiff, Nat.reduceAdd, Nat.reduceMul, Nat.reduceSub, Nat.reduceLeDiff, Nat.reduceLT]
    exact ⟨by omega, rfl, rfl⟩
  · rintro k f' g ms hk ⟨⟨hs, hfg, hup, hnx⟩, rfl, f9, f10, f22, f23, f24⟩
    have hk' : (k : Int) < (((truths Y).length - 1 : Nat) : Int) := by omega
    have hw : wrapF .i64 ((k : Int) + 1) = ((k + 1 : Nat) : Int) := by rw [wrap_in (by omega) (by omega)]; rfl
    have ht := Cells.mono ht5 hs
    have hld : loadAgg 5 g (ptrO tl 5 k 0) = some (.agg ⟨arr ((truths Y).getD (k + 1) fun _ => 0)⟩) := by
      rw [Cells.ldN ht hk (by omega) (by omega)]; simp [arr, List.range_succ]
    simp only [W_skip, W_ret, W_exit, W_seq, W_block, then_norm', then_exit', then_ret', block_norm', block_ret', block_exit', W_cond, cond_true', cond_false', W_ops, ops_nil, ops_cons, ops_guard, step_some, g_tt, g_tf, g_ft, g_ff, put_some, put_none, upd_ite, val_tmp, fr0_zero, fr0_succ, ret_ret, ret_norm, res_tmp, ex_some, val_const, val_func, vals_nil, vals_cons, d_nil, d_free, d_rd1, d_rd, d_up, d_any, same_some, up_some, all_reads, Sub.refl, x_mov, x_pick, pick_t, pick_f, x_field1, x_fieldN, x_extract, x_box, x_alloc, x_load1, x_loadN, withH_some', x_store, x_mkfunc, x_mkslice, x_slice, x_fieldAddr, fieldAt_p, x_idxArr, x_idxSl, x_append, x_there, x_len, len_slice, x_not, not_bool, x_call, x_int2, i_add, i_sub, i_mul, i_eql, i_neq, i_lss, i_leq, i_gtr, i_geq, x_plain, p_min, p_max, p_rem, p_quo, r_min, r_max, p_shl, p_or, p_and, p_andNot, eqV_i, x_bslice, x_build, res_cellN, res_cell1, valN_tmp, valN_const, if_true, if_false, Nat.le_refl, true_and, and_true, decide_true, decide_false, Bool.not_true, Bool.not_false, reduceIte, Nat.reduceEqDiff, Nat.reduceAdd, Nat.reduceMul, Nat.reduceSub, Nat.reduceLeDiff, Nat.reduceLT, f9, f10, f22, f23, f24, hk', Cells.idx ht hk, hld]
    refine step_new (vs := arr ((truths Y).getD (k + 1) fun _ => 0)) (by omega) (by omega) rfl (by simp only [W_skip, W_ret, W_exit, W_seq, W_block, then_norm', then_exit', then_ret', block_norm', block_ret', block_exit', W_cond, cond_true', cond_false', W_ops, ops_nil, ops_cons, ops_guard, step_some, g_tt, g_tf, g_ft, g_ff, put_some, put_none, upd_ite, val_tmp, fr0_zero, fr0_succ, ret_ret, ret_norm, res_tmp, ex_some, val_const, val_func, vals_nil, vals_cons, d_nil, d_free, d_rd1, d_rd, d_up, d_any, same_some, up_some, all_reads, Sub.refl, x_mov, x_pick, pick_t, pick_f, x_field1, x_fieldN, x_extract, x_box, x_alloc, x_load1, x_loadN, withH_some', x_store, x_mkfunc, x_mkslice, x_slice, x_fieldAddr, fieldAt_p, x_idxArr, x_idxSl, x_append, x_there, x_len, len_slice, x_not, not_bool, x_call, x_int2, i_add, i_sub, i_mul, i_eql, i_neq, i_lss, i_leq, i_gtr, i_geq, x_plain, p_min, p_max, p_rem, p_quo, r_min, r_max, p_shl, p_or, p_and, p_andNot, eqV_i, x_bslice, x_build, res_cellN, res_cell1, valN_tmp, valN_const, if_true, if_false, Nat.le_refl, true_and, and_true, decide_true, decide_false, Bool.not_true, Bool.not_false, reduceIte, Nat.reduceEqDiff, Nat.reduceAdd, Nat.reduceMul, Nat.reduceSub, Nat.reduceLeDiff, Nat.reduceLT]; rfl) arr_one arr_len rfl fun g6 hx6 => ?_
    have n6 := hx6.next
    have f6 := hx6.floor
    have s46 : Sub All g4 g6 := s5.trans (hs.trans hx6.sub)
    have e6 := sureBlue1_c (n := n) (h := g6) (F := F) (S := S) (T := tv) (t := (truths Y).getD (k + 1) fun _ => 0) (v := v) (f := f) (many := many) (by omega) (by omega) (hat (s4.trans s46) (truths_at (by omega))) ho4 hv hf hm (r0.mono s46) (r1.mono s46) (r2.mono s46) (r3.mono s46)
    simp only [W_skip, W_ret, W_exit, W_seq, W_block, then_norm', then_exit', then_ret', block_norm', block_ret', block_exit', W_cond, cond_true', cond_false', W_ops, ops_nil, ops_cons, ops_guard, step_some, g_tt, g_tf, g_ft, g_ff, put_some, put_none, upd_ite, val_tmp, fr0_zero, fr0_succ, ret_ret, ret_norm, res_tmp, ex_some, val_const, val_func, vals_nil, vals_cons, d_nil, d_free, d_rd1, d_rd, d_up, d_any, same_some, up_some, all_reads, Sub.refl, x_mov, x_pick, pick_t, pick_f, x_field1, x_fieldN, x_extract, x_box, x_alloc, x_load1, x_loadN, withH_some', x_store, x_mkfunc, x_mkslice, x_slice, x_fieldAddr, fieldAt_p, x_idxArr, x_idxSl, x_append, x_there, x_len, len_slice, x_not, not_bool, x_call, x_int2, i_add, i_sub, i_mul, i_eql, i_neq, i_lss, i_leq, i_gtr, i_geq, x_plain, p_min, p_max, p_rem, p_quo, r_min, r_max, p_shl, p_or, p_and, p_andNot, eqV_i, x_bslice, x_build, res_cellN, res_cell1, valN_tmp, valN_const, if_true, if_false, Nat.le_refl, true_and, and_true, decide_true, decide_false, Bool.not_true, Bool.not_false, reduceIte, Nat.reduceEqDiff, Nat.reduceAdd, Nat.reduceMul, Nat.reduceSub, Nat.reduceLeDiff, Nat.reduceLT, f9, f10, f22, f23, f24, hx6.row.whole arr_len, e6, sl_int]
    refine step_slice (by omega) rfl fun g7 hx7 => ?_
    have n7 := hx7.next
    have f7 := hx7.floor
    have hone : Ints g7 (.slice (some ⟨g6.next, 0, none⟩) 1 1) 1 (fun _ => blueWith Y v f many ((truths Y).getD (k + 1) fun _ => 0)) := ⟨_, _, rfl, fun x e => by cases e; rfl, .inr ⟨_, 0, _, _, _, rfl, hx7.get, fun i j hi hj => by
      have hi : i = 0 := by omega
      have hj : j = 0 := by omega
      subst hi hj; rfl⟩⟩
    have em := minimum_c (n := n) (h := g7) (m := 1) (by omega) (by omega) hone (minN (blueWith Y v f many ((truths Y).getD 0 fun _ => 0)) (fun i => blueWith Y v f many ((truths Y).getD (i + 1) fun _ => 0)) k)
    simp only [W_skip, W_ret, W_exit, W_seq, W_block, then_norm', then_exit', then_ret', block_norm', block_ret', block_exit', W_cond, cond_true', cond_false', W_ops, ops_nil, ops_cons, ops_guard, step_some, g_tt, g_tf, g_ft, g_ff, put_some, put_none, upd_ite, val_tmp, fr0_zero, fr0_succ, ret_ret, ret_norm, res_tmp, ex_some, val_const, val_func, vals_nil, vals_cons, d_nil, d_free, d_rd1, d_rd, d_up, d_any, same_some, up_some, all_reads, Sub.refl, x_mov, x_pick, pick_t, pick_f, x_field1, x_fieldN, x_extract, x_box, x_alloc, x_load1, x_loadN, withH_some', x_store, x_mkfunc, x_mkslice, x_slice, x_fieldAddr, fieldAt_p, x_idxArr, x_idxSl, x_append, x_there, x_len, len_slice, x_not, not_bool, x_call, x_int2, i_add, i_sub, i_mul, i_eql, i_neq, i_lss, i_leq, i_gtr, i_geq, x_plain, p_min, p_max, p_rem, p_quo, r_min, r_max, p_shl, p_or, p_and, p_andNot, eqV_i, x_bslice, x_build, res_cellN, res_cell1, valN_tmp, valN_const, if_true, if_false, Nat.le_refl, true_and, and_true, decide_true, decide_false, Bool.not_true, Bool.not_false, reduceIte, Nat.reduceEqDiff, Nat.reduceAdd, Nat.reduceMul, Nat.reduceSub, Nat.reduceLeDiff, Nat.reduceLT, f9, f10, f22, f23, f24, em, hw]
    exact ⟨⟨hs.trans (hx6.sub.trans hx7.sub), by omega, by omega, by omega⟩, rfl⟩
  · rintro f' g ms ⟨⟨hs, hfg, hup, hnx⟩, rfl, f9, f10, f22, f23, f24⟩
    simp only [W_skip, W_ret, W_exit, W_seq, W_block, then_norm', then_exit', then_ret', block_norm', block_ret', block_exit', W_cond, cond_true', cond_false', W_ops, ops_nil, ops_cons, ops_guard, step_some, g_tt, g_tf, g_ft, g_ff, put_some, put_none, upd_ite, val_tmp, fr0_zero, fr0_succ, ret_ret, ret_norm, res_tmp, ex_some, val_const, val_func, vals_nil, vals_cons, d_nil, d_free, d_rd1, d_rd, d_up, d_any, same_some, up_some, all_reads, Sub.refl, x_mov, x_pick, pick_t, pick_f, x_field1, x_fieldN, x_extract, x_box, x_alloc, x_load1, x_loadN, withH_some', x_store, x_mkfunc, x_mkslice, x_slice, x_fieldAddr, fieldAt_p, x_idxArr, x_idxSl, x_append, x_there, x_len, len_slice, x_not, not_bool, x_call, x_int2, i_add, i_sub, i_mul, i_eql, i_neq, i_lss, i_leq, i_gtr, i_geq, x_plain, p_min, p_max, p_rem, p_quo, r_min, r_max, p_shl, p_or, p_and, p_andNot, eqV_i, x_bslice, x_build, res_cellN, res_cell1, valN_tmp, valN_const, if_true, if_false, Nat.le_refl, true_and, and_true, decide_true, decide_false, Bool.not_true, Bool.not_false, reduceIte, Nat.reduceEqDiff, Nat.reduceAdd, Nat.reduceMul, Nat.reduceSub, Nat.reduceLeDiff, Nat.reduceLT, f9, f10, f22, f23, f24, Int.lt_irrefl]
    rfl

/-! The reference's truths -/
theorem refTruths_range {Y : MY} (hf : faultN Y = 0) {t : Nat → Int} (ht : t ∈ refTruths Y) : ∀ k, k < Y.nf → 0 ≤ t k ∧ t k ≤ 20 := truths_range hf ((refTruths_mem hf).1 ht)
theorem refTruths_at {Y : MY} {i : Nat} (hi : i < (refTruths Y).length) : (refTruths Y).getD i (fun _ => 0) ∈ refTruths Y := by rw [List.getD_eq_getElem?_getD, List.getElem?_eq_getElem hi]; exact List.getElem_mem hi
theorem refTruths_len {Y : MY} (hf : faultN Y = 0) : (refTruths Y).length ≤ 2000 := by
  obtain ⟨hG, hsz⟩ := fault_size hf
  have hF : ∀ k, k < Y.nf → 0 ≤ Y.lo k ∧ Y.lo k ≤ Y.hi k ∧ Y.hi k ≤ 20 := hG.f
  have hmany := sizeN_many hG.sz.1 hF Y.nf (Nat.le_refl _)
  have := refTruthsTo_len (Y := Y) (m := (manyN Y.lo Y.hi Y.nf).toNat)
  unfold refTruths
  omega
theorem mem_getD {L : List (Nat → Int)} {t : Nat → Int} (ht : t ∈ L) : ∃ i, i < L.length ∧ L.getD i (fun _ => 0) = t := by
  obtain ⟨i, hi, rfl⟩ := List.getElem_of_mem ht
  exact ⟨i, hi, by rw [List.getD_eq_getElem?_getD, List.getElem?_eq_getElem hi]; rfl⟩
theorem refTruths_nil {Y : MY} (hf : faultN Y = 0) : refTruths Y = [] ↔ truths Y = [] := by
  constructor
  · intro h
    cases ht : truths Y with
    | nil => rfl
    | cons x l =>
      have : x ∈ refTruths Y := (refTruths_mem hf).2 (by rw [ht]; simp)
      rw [h] at this
      cases this
  · intro h
    cases ht : refTruths Y with
    | nil => rfl
    | cons x l =>
      have : x ∈ truths Y := (refTruths_mem hf).1 (by rw [ht]; simp)
      rw [h] at this
      cases this
end Go.Vm.Vat

namespace Go.Vm.Vat
open Go.Proofs
set_option linter.unusedSimpArgs false
set_option linter.unusedVariables false
set_option maxRecDepth 10000
variable {n : Nat} {h : AHeap}

/-! ### Bounds in all truths -/
def maxN (x : Int) (a : Nat → Int) : Nat → Int
  | 0 => x
  | i + 1 => max (maxN x a i) (a i)
theorem map_splice {F F' : Nat → Value} {m off : Nat} {vs : List Value} (hl : off + vs.length ≤ m) (h1 : ∀ i, i < m → (i < off ∨ off + vs.length ≤ i) → F' i = F i) (h2 : ∀ j, j < vs.length → vs[j]? = some (F' (off + j))) :
    splice ((List.range m).map F) off vs = (List.range m).map F' := by
  apply List.ext_getElem?
  intro i
  have hlen : ((List.range m).map F).length = m := by simp
  simp only [splice]
  by_cases hi : i < m
  · rw [List.getElem?_map, List.getElem?_range hi]
    by_cases c1 : i < off
    · rw [List.getElem?_append_left (by simp [hlen]; omega), List.getElem?_take, if_pos c1, List.getElem?_map, List.getElem?_range hi]
      simp [h1 i hi (.inl c1)]
    · rw [List.getElem?_append_right (by simp [hlen]; omega)]
      have e : (List.take off ((List.range m).map F)).length = off := by simp [hlen]; omega
      rw [e]
      by_cases c2 : i < off + vs.length
      · rw [List.getElem?_append_left (by omega), h2 (i - off) (by omega)]
        simp [show off + (i - off) = i by omega]
      · rw [List.getElem?_append_right (by omega), List.getElem?_drop, show off + vs.length + (i - off - vs.length) = i by omega, List.getElem?_map, List.getElem?_range hi]
        simp [h1 i hi (.inr (by omega))]
  · rw [List.getElem?_eq_none (by simp; omega), List.getElem?_eq_none (by simp [hlen]; omega)]
theorem splice2 {a b c d : Value} : splice [a, b] 0 [c, d] = [c, d] := rfl
/-- so many ranges of which the first k are there -/
def mixR (k : Nat) (lo hi : Nat → Int) (i : Nat) : Value := .int .i64 (if i < 2 * k then (if i % 2 = 0 then lo (i / 2) else hi (i / 2)) else 0)
theorem mixR_one {m k : Nat} {lo hi : Nat → Int} : allB oneCell ((List.range m).map (mixR k lo hi)) = true := by rw [allB_iff]; intro v hv; obtain ⟨i, _, rfl⟩ := List.mem_map.1 hv; rfl
theorem mixR_splice {m k : Nat} {lo hi : Nat → Int} (hk : k < m) : splice ((List.range (2 * m)).map (mixR k lo hi)) (k * 2) [.int .i64 (lo k), .int .i64 (hi k)] = (List.range (2 * m)).map (mixR (k + 1) lo hi) := by
  refine map_splice (by simp; omega) (fun i hi hc => ?_) (fun j hj => ?_)
  · simp only [List.length_cons, List.length_nil] at hc
    simp only [mixR]
    congr 1
    by_cases c : i < 2 * k
    · rw [if_pos c, if_pos (by omega)]
    · rw [if_neg c, if_neg (by omega)]
  · simp only [List.length_cons, List.length_nil] at hj
    rcases j with _ | _ | j
    · simp only [mixR, Nat.add_zero, List.getElem?_cons_zero]
      rw [if_pos (by omega), if_pos (by omega), show k * 2 / 2 = k by omega]
    · simp only [mixR, List.getElem?_cons_succ, List.getElem?_cons_zero]
      rw [if_pos (by omega), if_neg (by omega), show (k * 2 + (0 + 1)) / 2 = k by omega]
    · omega
theorem repl_mixR {m : Nat} {lo hi : Nat → Int} : repl [.int .i64 0, .int .i64 0] m = (List.range (2 * m)).map (mixR 0 lo hi) := by
  have h0 : ∀ i, mixR 0 lo hi i = .int .i64 0 := fun i => by simp [mixR]
  have : ∀ m, repl [(.int .i64 0 : Value), .int .i64 0] m = List.replicate (2 * m) (.int .i64 0) := by
    intro m
    induction m with
    | zero => rfl
    | succ m ih => rw [repl, ih, show 2 * (m + 1) = 2 * m + 1 + 1 by omega, List.replicate_succ, List.replicate_succ]; rfl
  rw [this]
  apply List.ext_getElem?
  intro i
  by_cases hi : i < 2 * m
  · rw [List.getElem?_replicate, if_pos hi, List.getElem?_map, List.getElem?_range hi]; simp [h0]
  · rw [List.getElem?_eq_none (by simp; omega), List.getElem?_eq_none (by simp; omega)]
theorem make_ranges {z : List Value} {m : Nat} (hm : m ≤ 1000) : makeSl 2 16 z h (.int .i64 (m : Int)) (.int .i64 (m : Int)) = newSlice h (repl z m) m m 0 := by
  show (bif Nat.ble m m && Nat.ble (m * 16) maxBytes && Nat.ble m maxBytes then newSlice h (repl z m) m m 0 else none) = _
  have e1 : Nat.ble m m = true := ble_iff.2 (Nat.le_refl _)
  have e2 : Nat.ble (m * 16) maxBytes = true := ble_iff.2 (by simp [maxBytes]; omega)
  have e3 : Nat.ble m maxBytes = true := ble_iff.2 (by simp [maxBytes]; omega)
  rw [e1, e2, e3]; rfl
theorem idxSl_s {s k m c o : Nat} (hk : k < m) : indexSl s (.slice (some ⟨o, 0, none⟩) m c) (.int .i64 (k : Int)) = some (.pointer (some ⟨o, k * s, none⟩)) := by
  show placeAt ⟨o, 0, none⟩ (Int.ofNat k) m s = _
  unfold placeAt
  simp only [blt_iff.2 hk, cond_true, Nat.zero_add]
/-- the bounds of what is measured -/
def loN (val : (Nat → Int) → Int) (L : List (Nat → Int)) : Int := minN (val (L.getD 0 fun _ => 0)) (fun i => val (L.getD (i + 1) fun _ => 0)) (L.length - 1)
def hiN (val : (Nat → Int) → Int) (L : List (Nat → Int)) : Int := maxN (val (L.getD 0 fun _ => 0)) (fun i => val (L.getD (i + 1) fun _ => 0)) (L.length - 1)
theorem maxN_le {x : Int} {a : Nat → Int} {b : Int} : ∀ m, maxN x a m ≤ b ↔ x ≤ b ∧ ∀ i, i < m → a i ≤ b
  | 0 => by simp [maxN]
  | m + 1 => by
    simp only [maxN]
    rw [Int.max_le, maxN_le m]
    constructor
    · rintro ⟨⟨h1, h2⟩, h3⟩
      refine ⟨h1, fun i hi => ?_⟩
      by_cases e : i = m
      · subst e; exact h3
      · exact h2 i (by omega)
    · rintro ⟨h1, h2⟩
      exact ⟨⟨h1, fun i hi => h2 i (by omega)⟩, h2 m (by omega)⟩
theorem all_getD {L : List (Nat → Int)} (hL : L ≠ []) {p : (Nat → Int) → Prop} : (p (L.getD 0 fun _ => 0) ∧ ∀ i, i < L.length - 1 → p (L.getD (i + 1) fun _ => 0)) ↔ ∀ t, t ∈ L → p t := by
  have hpos : 0 < L.length := List.length_pos_iff.2 hL
  have hget : ∀ i, (hi : i < L.length) → L.getD i (fun _ => 0) = L[i] := fun i hi => by rw [List.getD_eq_getElem?_getD, List.getElem?_eq_getElem hi]; rfl
  constructor
  · rintro ⟨h1, h2⟩ t ht
    obtain ⟨i, hi, rfl⟩ := List.getElem_of_mem ht
    cases i with
    | zero => rw [← hget 0 hi]; exact h1
    | succ i => rw [← hget (i + 1) hi]; exact h2 i (by omega)
  · intro ht
    refine ⟨ht _ (by rw [hget 0 hpos]; exact List.getElem_mem hpos), fun i hi => ?_⟩
    have hi' : i + 1 < L.length := by omega
    exact ht _ (by rw [hget (i + 1) hi']; exact List.getElem_mem hi')
theorem le_loN {val : (Nat → Int) → Int} {L : List (Nat → Int)} (hL : L ≠ []) {b : Int} : b ≤ loN val L ↔ ∀ t, t ∈ L → b ≤ val t := by
  unfold loN; rw [le_minN]; exact all_getD hL (p := fun t => b ≤ val t)
theorem hiN_le {val : (Nat → Int) → Int} {L : List (Nat → Int)} (hL : L ≠ []) {b : Int} : hiN val L ≤ b ↔ ∀ t, t ∈ L → val t ≤ b := by
  unfold hiN; rw [maxN_le]; exact all_getD hL (p := fun t => val t ≤ b)

def s90 : SCode := (.seq (.ops [⟨(some 3), none, .box (T 0)⟩, ⟨(some 4), none, .box (T 1)⟩, ⟨(some 6), none, .mov (.const (.slice none 0 0))⟩]) (.seq (.ops [⟨(some 14), none, .mov (T 2)⟩, ⟨(some 15), none, .mkslice 2 16 [(.int .i64 (0)), (.int .i64 (0))] (T 14) (T 14)⟩, ⟨(some 7), none, .mov (T 15)⟩]) (.seq (.seq (.ops [⟨(some 16), none, .mov (T 2)⟩, ⟨(some 17), none, .mov (.const (.int .i64 (0)))⟩]) (.block 0 (.loop (.seq (.ops [⟨(some 18), none, .int2 .lss (T 17) (T 16)⟩]) (.seq (.cond (T 18) .skip (.exit 0)) (.seq (.block 1 (.seq (.ops [⟨(some 19), none, .mov (T 17)⟩, ⟨(some 8), none, .mov (T 19)⟩]) (.seq (.draw [⟨.free, ⟨(some 20), none, .fieldAddr 0 (T 3)⟩⟩, ⟨.rd1, ⟨(some 21), none, .load1 (T 20)⟩⟩, ⟨.rd1, ⟨(some 22), none, .loadN 4 (T 4)⟩⟩, ⟨.free, ⟨(some 23), none, .fieldAddr 3 (T 4)⟩⟩, ⟨.rd1, ⟨(some 24), none, .load1 (T 23)⟩⟩, ⟨.free, ⟨(some 25), none, .idxSl 5 (T 24) (.const (.int .i64 (0)))⟩⟩, ⟨.rd1, ⟨(some 26), none, .loadN 5 (T 25)⟩⟩, ⟨.free, ⟨(some 27), none, .mov (T 8)⟩⟩, ⟨.any, ⟨(some 28), none, .call (T 21) [(T 22), (T 26), (T 27)]⟩⟩, ⟨.free, ⟨(some 9), none, .mov (T 28)⟩⟩]) (.seq (.ops [⟨(some 29), none, .mov (T 9)⟩, ⟨(some 30), none, .mov (T 9)⟩, ⟨(some 31), none, .build #[(0, 1), (1, 1)] [(.int .i64 (0)), (.int .i64 (0))] [0, 1] [(T 29), (T 30)]⟩, ⟨(some 10), none, .alloc [(.int .i64 (0)), (.int .i64 (0))]⟩, ⟨none, none, .store 2 (T 10) (T 31)⟩]) (.seq (.seq (.ops [⟨(some 32), none, .fieldAddr 3 (T 4)⟩, ⟨(some 33), none, .load1 (T 32)⟩, ⟨(some 34), none, .slice 5 (T 33) (some (.const (.int .i64 (1)))) none none⟩, ⟨(some 35), none, .len (T 34)⟩, ⟨(some 36), none, .mov (.const (.int .i64 (0)))⟩]) (.block 2 (.loop (.seq (.ops [⟨(some 37), none, .int2 .lss (T 36) (T 35)⟩]) (.seq (.cond (T 37) .skip (.exit 2)) (.seq (.block 3 (.seq (.ops [⟨(some 38), none, .idxSl 5 (T 34) (T 36)⟩, ⟨(some 39), none, .loadN 5 (T 38)⟩, ⟨(some 12), none, .alloc [(.int .i64 (0)), (.int .i64 (0)), (.int .i64 (0)), (.int .i64 (0)), (.int .i64 (0))]⟩, ⟨none, none, .store 5 (T 12) (T 39)⟩]) (.seq (.ops [⟨(some 40), none, .fieldAddr 0 (T 3)⟩, ⟨(some 41), none, .load1 (T 40)⟩, ⟨(some 42), none, .loadN 4 (T 4)⟩, ⟨(some 43), none, .loadN 5 (T 12)⟩, ⟨(some 44), none, .mov (T 8)⟩, ⟨(some 45), none, .call (T 41) [(T 42), (T 43), (T 44)]⟩, ⟨(some 13), none, .mov (T 45)⟩]) (.draw [⟨.free, ⟨(some 46), none, .fieldAddr 0 (T 10)⟩⟩, ⟨.rd, ⟨(some 47), none, .load1 (T 46)⟩⟩, ⟨.free, ⟨(some 48), none, .mov (T 13)⟩⟩, ⟨.up, ⟨(some 49), none, .bslice 1 1 [(.int .i64 (0))] [0] [(T 48)]⟩⟩, ⟨.up, ⟨(some 50), none, .call (.func 94) [(T 47), (T 49)]⟩⟩, ⟨.free, ⟨(some 51), none, .fieldAddr 1 (T 10)⟩⟩, ⟨.rd, ⟨(some 52), none, .load1 (T 51)⟩⟩, ⟨.free, ⟨(some 53), none, .mov (T 13)⟩⟩, ⟨.free, ⟨(some 54), none, .plain (.call { callee := .builtin .max, args := #[(T 52), (T 53)], argTypes := #[3, 3] }) 3⟩⟩, ⟨.free, ⟨(some 55), none, .build #[(0, 1), (1, 1)] [(.int .i64 (0)), (.int .i64 (0))] [0, 1] [(T 50), (T 54)]⟩⟩, ⟨.any, ⟨none, none, .store 2 (T 10) (T 55)⟩⟩])))) (.ops [⟨(some 56), none, .int2 .add (T 36) (.const (.int .i64 (1)))⟩, ⟨(some 36), none, .mov (T 56)⟩]))))))) (.ops [⟨(some 57), none, .mov (T 7)⟩, ⟨(some 58), none, .mov (T 8)⟩, ⟨(some 59), none, .loadN 2 (T 10)⟩, ⟨(some 60), none, .idxSl 2 (T 57) (T 58)⟩, ⟨none, none, .store 2 (T 60) (T 59)⟩])))))) (.ops [⟨(some 61), none, .int2 .add (T 17) (.const (.int .i64 (1)))⟩, ⟨(some 17), none, .mov (T 61)⟩]))))))) (.seq (.ops [⟨(some 62), none, .mov (T 7)⟩, ⟨(some 6), none, .mov (T 62)⟩]) .ret))))
theorem fok90 : FnOk Try.prog 90 63 s90 [.tmp 6] := ⟨Try.f90, _, Try.func90, rfl, Try.ntmps90, by kernel_rfl, by kernel_rfl⟩
theorem bounds_c (hn : 10020 ≤ n) (hr : h.next + 200000 < far) (hfl : h.floor ≤ h.next) {F V S tv : Value} {L : List (Nat → Int)} {G m : Nat} {val : Nat → (Nat → Int) → Int} (ho4 : allB oneCell [F, V, S, tv] = true) (hL : L ≠ []) (hlen : L.length ≤ 2000) (htr : TruthsR h tv L) (hlong : Long tv) (hm : m ≤ 5)
    (hG : ∀ g, Sub All h g → g.next + 100 < far → ∀ k, k < m → ∀ t, t ∈ L → call (n - 1) (.func (.func G) #[] #[]) [.agg ⟨[F, V, S, tv]⟩, .agg ⟨arr t⟩, .int .i64 (k : Int)] g = some (.int .i64 (val k t), g)) :
    ∃ v h', call n (.func (.func 90) #[] #[]) [.agg ⟨[.func (.func G) #[] #[]]⟩, .agg ⟨[F, V, S, tv]⟩, .int .i64 (m : Int)] h = some (v, h') ∧ Ranges h' v m (fun k => loN (val k) L) (fun k => hiN (val k) L) ∧ Made h h' 100000 := by
  obtain ⟨n, rfl⟩ : ∃ p, n = p + 1 := ⟨n - 1, by omega⟩
  rw [Nat.add_sub_cancel] at hG
  have hpos : 0 < L.length := List.length_pos_iff.2 hL
  have hat : ∀ i, i < L.length → L.getD i (fun _ => 0) ∈ L := fun i hi => by rw [List.getD_eq_getElem?_getD, List.getElem?_eq_getElem hi]; exact List.getElem_mem hi
  refine call_any0 fok90 rfl rfl (by simp) ?_
  simp only [s90, W_seq, W_ops]
  refine ops_box (cs := [.func (.func G) #[] #[]]) (by omega) rfl rfl fun g1 hx1 => ?_
  refine ops_box (cs := [F, V, S, tv]) (by rw [hx1.next]; omega) rfl ho4 fun g2 hx2 => ?_
  have n1 := hx1.next
  have n2 := hx2.next
  have f1 := hx1.floor
  have f2 := hx2.floor
  simp only [W_skip, W_ret, W_exit, W_seq, W_block, then_norm', then_exit', then_ret', block_norm', block_ret', block_exit', W_cond, cond_true', cond_false', W_ops, ops_nil, ops_cons, ops_guard, step_some, g_tt, g_tf, g_ft, g_ff, put_some, put_none, upd_ite, val_tmp, fr0_zero, fr0_succ, ret_ret, ret_norm, res_tmp, ex_some, val_const, val_func, vals_nil, vals_cons, d_nil, d_free, d_rd1, d_rd, d_up, d_any, same_some, up_some, all_reads, Sub.refl, x_mov, x_pick, pick_t, pick_f, x_field1, x_fieldN, x_extract, x_box, x_alloc, x_load1, x_loadN, withH_some', x_store, x_mkfunc, x_mkslice, x_slice, x_fieldAddr, fieldAt_p, x_idxArr, x_idxSl, x_append, x_there, x_len, len_slice, x_not, not_bool, x_call, x_int2, i_add, i_sub, i_mul, i_eql, i_neq, i_lss, i_leq, i_gtr, i_geq, x_plain, p_min, p_max, p_rem, p_quo, r_min, r_max, p_shl, p_or, p_and, p_andNot, eqV_i, x_bslice, x_build, res_cellN, res_cell1, valN_tmp, valN_const, if_true, if_false, Nat.le_refl, true_and, and_true, decide_true, decide_false, Bool.not_true, Bool.not_false, reduceIte, Nat.reduceEqDiff, Nat.reduceAdd, Nat.reduceMul, Nat.reduceSub, Nat.reduceLeDiff, Nat.reduceLT, make_ranges (m := m) (by omega), repl_mixR (m := m) (lo := fun k => loN (val k) L) (hi := fun k => hiN (val k) L)]
  refine step_slice (by omega) mixR_one fun g3 hx3 => ?_
  have n3 := hx3.next
  have f3 := hx3.floor
  have r1 := (hx1.row.mono hx2.sub).mono hx3.sub
  have r2 := hx2.row.mono hx3.sub
  have s3 : Sub All h g3 := hx1.sub.trans (hx2.sub.trans hx3.sub)
  have hro : g3.get g2.next = some (.row ((List.range (2 * m)).map (mixR 0 (fun k => loN (val k) L) (fun k => hiN (val k) L))) true 0) := hx3.get
  simp only [W_skip, W_ret, W_exit, W_seq, W_block, then_norm', then_exit', then_ret', block_norm', block_ret', block_exit', W_cond, cond_true', cond_false', W_ops, ops_nil, ops_cons, ops_guard, step_some, g_tt, g_tf, g_ft, g_ff, put_some, put_none, upd_ite, val_tmp, fr0_zero, fr0_succ, ret_ret, ret_norm, res_tmp, ex_some, val_const, val_func, vals_nil, vals_cons, d_nil, d_free, d_rd1, d_rd, d_up, d_any, same_some, up_some, all_reads, Sub.refl, x_mov, x_pick, pick_t, pick_f, x_field1, x_fieldN, x_extract, x_box, x_alloc, x_load1, x_loadN, withH_some', x_store, x_mkfunc, x_mkslice, x_slice, x_fieldAddr, fieldAt_p, x_idxArr, x_idxSl, x_append, x_there, x_len, len_slice, x_not, not_bool, x_call, x_int2, i_add, i_sub, i_mul, i_eql, i_neq, i_lss, i_leq, i_gtr, i_geq, x_plain, p_min, p_max, p_rem, p_quo, r_min, r_max, p_shl, p_or, p_and, p_andNot, eqV_i, x_bslice, x_build, res_cellN, res_cell1, valN_tmp, valN_const, if_true, if_false, Nat.le_refl, true_and, and_true, decide_true, decide_false, Bool.not_true, Bool.not_false, reduceIte, Nat.reduceEqDiff, Nat.reduceAdd, Nat.reduceMul, Nat.reduceSub, Nat.reduceLeDiff, Nat.reduceLT]
  refine W_loop m (fun k f g ms => (Keep g2.next g3 g ∧ g.get g2.next = some (.row ((List.range (2 * m)).map (mixR k (fun k => loN (val k) L) (fun k => hiN (val k) L))) true 0) ∧ g.next ≤ g3.next + 5000 * k) ∧ ms = [] ∧ f 3 = .pointer (some ⟨h.next, 0, none⟩) ∧ f 4 = .pointer (some ⟨g1.next, 0, none⟩) ∧
    f 7 = .slice (some ⟨g2.next, 0, none⟩) m m ∧ f 16 = .int .i64 (m : Int) ∧ f 17 = .int .i64 (k : Int)) (by simp; omega) ?_ ?_ ?_
  · simp only [W_skip, W_ret, W_exit, W_seq, W_block, then_norm', then_exit', then_ret', block_norm', block_ret', block_exit', W_cond, cond_true', cond_false', W_ops, ops_nil, ops_cons, ops_guard, step_some, g_tt, g_tf, g_ft, g_ff, put_some, put_none, upd_ite, val_tmp, fr0_zero, fr0_succ, ret_ret, ret_norm, res_tmp, ex_some, val_const, val_func, vals_nil, vals_cons, d_nil, d_free, d_rd1, d_rd, d_up, d_any, same_some, up_some, all_reads, Sub.refl, x_mov, x_pick, pick_t, pick_f, x_field1, x_fieldN, x_extract, x_box, x_alloc, x_load1, x_loadN, withH_some', x_store, x_mkfunc, x_mkslice, x_slice, x_fieldAddr, fieldAt_p, x_idxArr, x_idxSl, x_append, x_there, x_len, len_slice, x_not, not_bool, x_call, x_int2, i_add, i_sub, i_mul, i_eql, i_neq, i_lss, i_leq, i_gtr, i_geq, x_plain, p_min, p_max, p_rem, p_quo, r_min, r_max, p_shl, p_or, p_and, p_andNot, eqV_i, x_bslice, x_build, res_cellN, res_cell1, valN_tmp, valN_const, if_true, if_false, Nat.le_refl, true_and, and_true, decide_true, decide_false, Bool.not_true, Bool.not_false, reduceIte, Nat.reduceEqDiff, Nat.reduceAdd, Nat.reduceMul, Nat.reduceSub, Nat.reduceLeDiff, Nat.reduceLT]
    exact ⟨⟨Keep.refl, hro, by omega⟩, rfl⟩
  · rintro k f g ms hk ⟨⟨st, go, gn⟩, rfl, p3, p4, p7, p16, p17⟩
    have hk' : (k : Int) < (m : Int) := by omega
    have hw : wrapF .i64 ((k : Int) + 1) = ((k + 1 : Nat) : Int) := by rw [wrap_in (by omega) (by omega)]; rfl
    have hup := st.up
    have hfg := st.floor
    have sg : Sub All h g := fun i cs w gr t hg => st.sub _ _ _ _ (by have := AHeap.lt_of_get hg; omega) (s3 _ _ _ _ t hg)
    have r1g := r1.keep st (by omega)
    have r2g := r2.keep st (by omega)
    have htg : TruthsR g tv L := Cells.mono htr sg
    have i0 : indexSl 5 tv (.int .i64 0) = some (ptrO tv 5 0 0) := Cells.idx htg hpos
    have e0 := hG g sg (by omega) k hk _ (hat 0 hpos)
    simp only [W_skip, W_ret, W_exit, W_seq, W_block, then_norm', then_exit', then_ret', block_norm', block_ret', block_exit', W_cond, cond_true', cond_false', W_ops, ops_nil, ops_cons, ops_guard, step_some, g_tt, g_tf, g_ft, g_ff, put_some, put_none, upd_ite, val_tmp, fr0_zero, fr0_succ, ret_ret, ret_norm, res_tmp, ex_some, val_const, val_func, vals_nil, vals_cons, d_nil, d_free, d_rd1, d_rd, d_up, d_any, same_some, up_some, all_reads, Sub.refl, x_mov, x_pick, pick_t, pick_f, x_field1, x_fieldN, x_extract, x_box, x_alloc, x_load1, x_loadN, withH_some', x_store, x_mkfunc, x_mkslice, x_slice, x_fieldAddr, fieldAt_p, x_idxArr, x_idxSl, x_append, x_there, x_len, len_slice, x_not, not_bool, x_call, x_int2, i_add, i_sub, i_mul, i_eql, i_neq, i_lss, i_leq, i_gtr, i_geq, x_plain, p_min, p_max, p_rem, p_quo, r_min, r_max, p_shl, p_or, p_and, p_andNot, eqV_i, x_bslice, x_build, res_cellN, res_cell1, valN_tmp, valN_const, if_true, if_false, Nat.le_refl, true_and, and_true, decide_true, decide_false, Bool.not_true, Bool.not_false, reduceIte, Nat.reduceEqDiff, Nat.reduceAdd, Nat.reduceMul, Nat.reduceSub, Nat.reduceLeDiff, Nat.reduceLT, p3, p4, p7, p16, p17, hk']
    refine W_draw All ?_
    simp only [W_skip, W_ret, W_exit, W_seq, W_block, then_norm', then_exit', then_ret', block_norm', block_ret', block_exit', W_cond, cond_true', cond_false', W_ops, ops_nil, ops_cons, ops_guard, step_some, g_tt, g_tf, g_ft, g_ff, put_some, put_none, upd_ite, val_tmp, fr0_zero, fr0_succ, ret_ret, ret_norm, res_tmp, ex_some, val_const, val_func, vals_nil, vals_cons, d_nil, d_free, d_rd1, d_rd, d_up, d_any, same_some, up_some, all_reads, Sub.refl, x_mov, x_pick, pick_t, pick_f, x_field1, x_fieldN, x_extract, x_box, x_alloc, x_load1, x_loadN, withH_some', x_store, x_mkfunc, x_mkslice, x_slice, x_fieldAddr, fieldAt_p, x_idxArr, x_idxSl, x_append, x_there, x_len, len_slice, x_not, not_bool, x_call, x_int2, i_add, i_sub, i_mul, i_eql, i_neq, i_lss, i_leq, i_gtr, i_geq, x_plain, p_min, p_max, p_rem, p_quo, r_min, r_max, p_shl, p_or, p_and, p_andNot, eqV_i, x_bslice, x_build, res_cellN, res_cell1, valN_tmp, valN_const, if_true, if_false, Nat.le_refl, true_and, and_true, decide_true, decide_false, Bool.not_true, Bool.not_false, reduceIte, Nat.reduceEqDiff, Nat.reduceAdd, Nat.reduceMul, Nat.reduceSub, Nat.reduceLeDiff, Nat.reduceLT, p3, p4, p7, p16, p17, r1g.ld, r2g.whole (n := 4) rfl, r2g.ld, Nat.zero_add, List.getElem?_cons_zero, List.getElem?_cons_succ, i0, truths_ld htg hpos, e0, build_range]
    generalize hv0 : val k (L.getD 0 fun _ => 0) = v0
    refine step_new (vs := [.int .i64 v0, .int .i64 v0]) (by omega) (by omega) rfl (by simp only [W_skip, W_ret, W_exit, W_seq, W_block, then_norm', then_exit', then_ret', block_norm', block_ret', block_exit', W_cond, cond_true', cond_false', W_ops, ops_nil, ops_cons, ops_guard, step_some, g_tt, g_tf, g_ft, g_ff, put_some, put_none, upd_ite, val_tmp, fr0_zero, fr0_succ, ret_ret, ret_norm, res_tmp, ex_some, val_const, val_func, vals_nil, vals_cons, d_nil, d_free, d_rd1, d_rd, d_up, d_any, same_some, up_some, all_reads, Sub.refl, x_mov, x_pick, pick_t, pick_f, x_field1, x_fieldN, x_extract, x_box, x_alloc, x_load1, x_loadN, withH_some', x_store, x_mkfunc, x_mkslice, x_slice, x_fieldAddr, fieldAt_p, x_idxArr, x_idxSl, x_append, x_there, x_len, len_slice, x_not, not_bool, x_call, x_int2, i_add, i_sub, i_mul, i_eql, i_neq, i_lss, i_leq, i_gtr, i_geq, x_plain, p_min, p_max, p_rem, p_quo, r_min, r_max, p_shl, p_or, p_and, p_andNot, eqV_i, x_bslice, x_build, res_cellN, res_cell1, valN_tmp, valN_const, if_true, if_false, Nat.le_refl, true_and, and_true, decide_true, decide_false, Bool.not_true, Bool.not_false, reduceIte, Nat.reduceEqDiff, Nat.reduceAdd, Nat.reduceMul, Nat.reduceSub, Nat.reduceLeDiff, Nat.reduceLT]; rfl) rfl rfl rfl fun g4 hx4 => ?_
    have n4 := hx4.next
    have f4 := hx4.floor
    have r2g4 := r2g.mono hx4.sub
    obtain ⟨tl, g5, et, _, s5, u5, b5, f5, o5, htl⟩ := tail_c (Cells.mono htg hx4.sub) hpos hlong (by omega)
    have ht5 := htl g5 (Cells.mono (Cells.mono htg hx4.sub) s5)
    simp only [W_skip, W_ret, W_exit, W_seq, W_block, then_norm', then_exit', then_ret', block_norm', block_ret', block_exit', W_cond, cond_true', cond_false', W_ops, ops_nil, ops_cons, ops_guard, step_some, g_tt, g_tf, g_ft, g_ff, put_some, put_none, upd_ite, val_tmp, fr0_zero, fr0_succ, ret_ret, ret_norm, res_tmp, ex_some, val_const, val_func, vals_nil, vals_cons, d_nil, d_free, d_rd1, d_rd, d_up, d_any, same_some, up_some, all_reads, Sub.refl, x_mov, x_pick, pick_t, pick_f, x_field1, x_fieldN, x_extract, x_box, x_alloc, x_load1, x_loadN, withH_some', x_store, x_mkfunc, x_mkslice, x_slice, x_fieldAddr, fieldAt_p, x_idxArr, x_idxSl, x_append, x_there, x_len, len_slice, x_not, not_bool, x_call, x_int2, i_add, i_sub, i_mul, i_eql, i_neq, i_lss, i_leq, i_gtr, i_geq, x_plain, p_min, p_max, p_rem, p_quo, r_min, r_max, p_shl, p_or, p_and, p_andNot, eqV_i, x_bslice, x_build, res_cellN, res_cell1, valN_tmp, valN_const, if_true, if_false, Nat.le_refl, true_and, and_true, decide_true, decide_false, Bool.not_true, Bool.not_false, reduceIte, Nat.reduceEqDiff, Nat.reduceAdd, Nat.reduceMul, Nat.reduceSub, Nat.reduceLeDiff, Nat.reduceLT, p3, p4, p7, p16, p17, r2g4.ld, Nat.zero_add, List.getElem?_cons_zero, List.getElem?_cons_succ, Option.isSome_none, Option.map_some, Option.map_none, et, Cells.len ht5]
    have r10 : g5.get g.next = some (.row [.int .i64 v0, .int .i64 v0] true 0) := s5 _ _ _ _ trivial hx4.get
    refine W_loop (L.length - 1) (fun i f g' ms => (Keep g.next g5 g' ∧ g'.get g.next = some (.row [.int .i64 (minN v0 (fun i => val k (L.getD (i + 1) fun _ => 0)) i), .int .i64 (maxN v0 (fun i => val k (L.getD (i + 1) fun _ => 0)) i)] true 0) ∧ g'.next ≤ g5.next + 2 * i) ∧ ms = [] ∧
      f 3 = .pointer (some ⟨h.next, 0, none⟩) ∧ f 4 = .pointer (some ⟨g1.next, 0, none⟩) ∧ f 7 = .slice (some ⟨g2.next, 0, none⟩) m m ∧ f 16 = .int .i64 (m : Int) ∧ f 17 = .int .i64 (k : Int) ∧ f 8 = .int .i64 (k : Int) ∧ f 10 = .pointer (some ⟨g.next, 0, none⟩) ∧
      f 34 = tl ∧ f 35 = .int .i64 ((L.length - 1 : Nat) : Int) ∧ f 36 = .int .i64 (i : Int)) (by simp; omega) ?_ ?_ ?_
    · simp only [W_skip, W_ret, W_exit, W_seq, W_block, then_norm', then_exit', then_ret', block_norm', block_ret', block_exit', W_cond, cond_true', cond_false', W_ops, ops_nil, ops_cons, ops_guard, step_some, g_tt, g_tf, g_ft, g_ff, put_some, put_none, upd_ite, val_tmp, fr0_zero, fr0_succ, ret_ret, ret_norm, res_tmp, ex_some, val_const, val_func, vals_nil, vals_cons, d_nil, d_free, d_rd1, d_rd, d_up, d_any, same_some, up_some, all_reads, Sub.refl, x_mov, x_pick, pick_t, pick_f, x_field1, x_fieldN, x_extract, x_box, x_alloc, x_load1, x_loadN, withH_some', x_store, x_mkfunc, x_mkslice, x_slice, x_fieldAddr, fieldAt_p, x_idxArr, x_idxSl, x_append, x_there, x_len, len_slice, x_not, not_bool, x_call, x_int2, i_add, i_sub, i_mul, i_eql, i_neq, i_lss, i_leq, i_gtr, i_geq, x_plain, p_min, p_max, p_rem, p_quo, r_min, r_max, p_shl, p_or, p_and, p_andNot, eqV_i, x_bslice, x_build, res_cellN, res_cell1, valN_tmp, valN_const, if_true, if_false, Nat.le_refl, true_and, and_true, decide_true, decide_false, Bool.not_true, Bool.not_false, reduceIte, Nat.reduceEqDiff, Nat.reduceAdd, Nat.reduceMul, Nat.reduceSub, Nat.reduceLeDiff, Nat.reduceLT, p3, p4, p7, p16, p17]
      exact ⟨⟨Keep.refl, r10, by omega⟩, rfl⟩
    · rintro i f g' ms hi ⟨⟨kin, gi, gin⟩, rfl, p3, p4, p7, p16, p17, p8, p10, p34, p35, p36⟩
      have hi' : (i : Int) < ((L.length - 1 : Nat) : Int) := by omega
      have hwi : wrapF .i64 ((i : Int) + 1) = ((i + 1 : Nat) : Int) := by rw [wrap_in (by omega) (by omega)]; rfl
      have kup := kin.up
      have kfl := kin.floor
      have sg5 : Sub All h g5 := sg.trans (hx4.sub.trans s5)
      have sg' : Sub All h g' := fun j cs w gr t hg => kin.sub _ _ _ _ (by have := AHeap.lt_of_get hg; omega) (sg5 _ _ _ _ t hg)
      have ht' := htl g' (Cells.mono htr sg')
      have hld : loadAgg 5 g' (ptrO tl 5 i 0) = some (.agg ⟨arr (L.getD (i + 1) fun _ => 0)⟩) := by
        rw [Cells.ldN ht' hi (by omega) (by omega)]; simp [arr, List.range_succ]
      have r1' := ((r1g.mono hx4.sub).mono s5).keep kin (by omega)
      have r2' := ((r2g.mono hx4.sub).mono s5).keep kin (by omega)
      simp only [W_skip, W_ret, W_exit, W_seq, W_block, then_norm', then_exit', then_ret', block_norm', block_ret', block_exit', W_cond, cond_true', cond_false', W_ops, ops_nil, ops_cons, ops_guard, step_some, g_tt, g_tf, g_ft, g_ff, put_some, put_none, upd_ite, val_tmp, fr0_zero, fr0_succ, ret_ret, ret_norm, res_tmp, ex_some, val_const, val_func, vals_nil, vals_cons, d_nil, d_free, d_rd1, d_rd, d_up, d_any, same_some, up_some, all_reads, Sub.refl, x_mov, x_pick, pick_t, pick_f, x_field1, x_fieldN, x_extract, x_box, x_alloc, x_load1, x_loadN, withH_some', x_store, x_mkfunc, x_mkslice, x_slice, x_fieldAddr, fieldAt_p, x_idxArr, x_idxSl, x_append, x_there, x_len, len_slice, x_not, not_bool, x_call, x_int2, i_add, i_sub, i_mul, i_eql, i_neq, i_lss, i_leq, i_gtr, i_geq, x_plain, p_min, p_max, p_rem, p_quo, r_min, r_max, p_shl, p_or, p_and, p_andNot, eqV_i, x_bslice, x_build, res_cellN, res_cell1, valN_tmp, valN_const, if_true, if_false, Nat.le_refl, true_and, and_true, decide_true, decide_false, Bool.not_true, Bool.not_false, reduceIte, Nat.reduceEqDiff, Nat.reduceAdd, Nat.reduceMul, Nat.reduceSub, Nat.reduceLeDiff, Nat.reduceLT, p3, p4, p7, p8, p10, p16, p17, p34, p35, p36, hi', Cells.idx ht' hi, hld]
      refine step_new (vs := arr (L.getD (i + 1) fun _ => 0)) (by omega) (by omega) rfl (by simp only [W_skip, W_ret, W_exit, W_seq, W_block, then_norm', then_exit', then_ret', block_norm', block_ret', block_exit', W_cond, cond_true', cond_false', W_ops, ops_nil, ops_cons, ops_guard, step_some, g_tt, g_tf, g_ft, g_ff, put_some, put_none, upd_ite, val_tmp, fr0_zero, fr0_succ, ret_ret, ret_norm, res_tmp, ex_some, val_const, val_func, vals_nil, vals_cons, d_nil, d_free, d_rd1, d_rd, d_up, d_any, same_some, up_some, all_reads, Sub.refl, x_mov, x_pick, pick_t, pick_f, x_field1, x_fieldN, x_extract, x_box, x_alloc, x_load1, x_loadN, withH_some', x_store, x_mkfunc, x_mkslice, x_slice, x_fieldAddr, fieldAt_p, x_idxArr, x_idxSl, x_append, x_there, x_len, len_slice, x_not, not_bool, x_call, x_int2, i_add, i_sub, i_mul, i_eql, i_neq, i_lss, i_leq, i_gtr, i_geq, x_plain, p_min, p_max, p_rem, p_quo, r_min, r_max, p_shl, p_or, p_and, p_andNot, eqV_i, x_bslice, x_build, res_cellN, res_cell1, valN_tmp, valN_const, if_true, if_false, Nat.le_refl, true_and, and_true, decide_true, decide_false, Bool.not_true, Bool.not_false, reduceIte, Nat.reduceEqDiff, Nat.reduceAdd, Nat.reduceMul, Nat.reduceSub, Nat.reduceLeDiff, Nat.reduceLT]; rfl) arr_one arr_len rfl fun g6 hx6 => ?_
      have n6 := hx6.next
      have f6 := hx6.floor
      have e6 := hG g6 (sg'.trans hx6.sub) (by omega) k hk _ (hat (i + 1) (by omega))
      have r16 := r1'.mono hx6.sub
      have r26 := r2'.mono hx6.sub
      have r106 : Row g6 g.next _ := ⟨_, _, hx6.sub _ _ _ _ trivial gi⟩
      simp only [W_skip, W_ret, W_exit, W_seq, W_block, then_norm', then_exit', then_ret', block_norm', block_ret', block_exit', W_cond, cond_true', cond_false', W_ops, ops_nil, ops_cons, ops_guard, step_some, g_tt, g_tf, g_ft, g_ff, put_some, put_none, upd_ite, val_tmp, fr0_zero, fr0_succ, ret_ret, ret_norm, res_tmp, ex_some, val_const, val_func, vals_nil, vals_cons, d_nil, d_free, d_rd1, d_rd, d_up, d_any, same_some, up_some, all_reads, Sub.refl, x_mov, x_pick, pick_t, pick_f, x_field1, x_fieldN, x_extract, x_box, x_alloc, x_load1, x_loadN, withH_some', x_store, x_mkfunc, x_mkslice, x_slice, x_fieldAddr, fieldAt_p, x_idxArr, x_idxSl, x_append, x_there, x_len, len_slice, x_not, not_bool, x_call, x_int2, i_add, i_sub, i_mul, i_eql, i_neq, i_lss, i_leq, i_gtr, i_geq, x_plain, p_min, p_max, p_rem, p_quo, r_min, r_max, p_shl, p_or, p_and, p_andNot, eqV_i, x_bslice, x_build, res_cellN, res_cell1, valN_tmp, valN_const, if_true, if_false, Nat.le_refl, true_and, and_true, decide_true, decide_false, Bool.not_true, Bool.not_false, reduceIte, Nat.reduceEqDiff, Nat.reduceAdd, Nat.reduceMul, Nat.reduceSub, Nat.reduceLeDiff, Nat.reduceLT, p3, p4, p7, p8, p10, p16, p17, p34, p35, p36, r16.ld, r26.whole (n := 4) rfl, hx6.row.whole arr_len, Nat.zero_add, List.getElem?_cons_zero, List.getElem?_cons_succ, e6]
      refine W_draw All ?_
      simp only [W_skip, W_ret, W_exit, W_seq, W_block, then_norm', then_exit', then_ret', block_norm', block_ret', block_exit', W_cond, cond_true', cond_false', W_ops, ops_nil, ops_cons, ops_guard, step_some, g_tt, g_tf, g_ft, g_ff, put_some, put_none, upd_ite, val_tmp, fr0_zero, fr0_succ, ret_ret, ret_norm, res_tmp, ex_some, val_const, val_func, vals_nil, vals_cons, d_nil, d_free, d_rd1, d_rd, d_up, d_any, same_some, up_some, all_reads, Sub.refl, x_mov, x_pick, pick_t, pick_f, x_field1, x_fieldN, x_extract, x_box, x_alloc, x_load1, x_loadN, withH_some', x_store, x_mkfunc, x_mkslice, x_slice, x_fieldAddr, fieldAt_p, x_idxArr, x_idxSl, x_append, x_there, x_len, len_slice, x_not, not_bool, x_call, x_int2, i_add, i_sub, i_mul, i_eql, i_neq, i_lss, i_leq, i_gtr, i_geq, x_plain, p_min, p_max, p_rem, p_quo, r_min, r_max, p_shl, p_or, p_and, p_andNot, eqV_i, x_bslice, x_build, res_cellN, res_cell1, valN_tmp, valN_const, if_true, if_false, Nat.le_refl, true_and, and_true, decide_true, decide_false, Bool.not_true, Bool.not_false, reduceIte, Nat.reduceEqDiff, Nat.reduceAdd, Nat.reduceMul, Nat.reduceSub, Nat.reduceLeDiff, Nat.reduceLT, p3, p4, p7, p8, p10, p16, p17, p34, p35, p36, r106.ld, Nat.zero_add, List.getElem?_cons_zero, List.getElem?_cons_succ, sl_int]
      generalize hv1 : val k (L.getD (i + 1) fun _ => 0) = v1
      refine up_slice (by omega) rfl (fun g7 hx => hx.sub) fun g7 hx7 => ?_
      have n7 := hx7.next
      have f7 := hx7.floor
      have hone : Ints g7 (.slice (some ⟨g6.next, 0, none⟩) 1 1) 1 (fun _ => v1) := ⟨_, _, rfl, fun x e => by cases e; rfl, .inr ⟨_, 0, _, _, _, rfl, hx7.get, fun i j hi hj => by
        have hi : i = 0 := by omega
        have hj : j = 0 := by omega
        subst hi hj; rfl⟩⟩
      have em := minimum_c (n := n) (h := g7) (m := 1) (by omega) (by omega) hone (minN v0 (fun i => val k (L.getD (i + 1) fun _ => 0)) i)
      have hmin : minN (minN v0 (fun i => val k (L.getD (i + 1) fun _ => 0)) i) (fun _ => v1) 1 = minN v0 (fun i => val k (L.getD (i + 1) fun _ => 0)) (i + 1) := by simp only [minN, hv1]
      have hmax : max (maxN v0 (fun i => val k (L.getD (i + 1) fun _ => 0)) i) v1 = maxN v0 (fun i => val k (L.getD (i + 1) fun _ => 0)) (i + 1) := by simp only [maxN, hv1]
      rw [hmin] at em
      simp only [W_skip, W_ret, W_exit, W_seq, W_block, then_norm', then_exit', then_ret', block_norm', block_ret', block_exit', W_cond, cond_true', cond_false', W_ops, ops_nil, ops_cons, ops_guard, step_some, g_tt, g_tf, g_ft, g_ff, put_some, put_none, upd_ite, val_tmp, fr0_zero, fr0_succ, ret_ret, ret_norm, res_tmp, ex_some, val_const, val_func, vals_nil, vals_cons, d_nil, d_free, d_rd1, d_rd, d_up, d_any, same_some, up_some, all_reads, Sub.refl, x_mov, x_pick, pick_t, pick_f, x_field1, x_fieldN, x_extract, x_box, x_alloc, x_load1, x_loadN, withH_some', x_store, x_mkfunc, x_mkslice, x_slice, x_fieldAddr, fieldAt_p, x_idxArr, x_idxSl, x_append, x_there, x_len, len_slice, x_not, not_bool, x_call, x_int2, i_add, i_sub, i_mul, i_eql, i_neq, i_lss, i_leq, i_gtr, i_geq, x_plain, p_min, p_max, p_rem, p_quo, r_min, r_max, p_shl, p_or, p_and, p_andNot, eqV_i, x_bslice, x_build, res_cellN, res_cell1, valN_tmp, valN_const, if_true, if_false, Nat.le_refl, true_and, and_true, decide_true, decide_false, Bool.not_true, Bool.not_false, reduceIte, Nat.reduceEqDiff, Nat.reduceAdd, Nat.reduceMul, Nat.reduceSub, Nat.reduceLeDiff, Nat.reduceLT, p3, p4, p7, p8, p10, p16, p17, p34, p35, p36, em, r106.ld, Nat.zero_add, List.getElem?_cons_zero, List.getElem?_cons_succ, valN_tmp, Nat.reduceLT, hmax, build_range]
      refine ⟨hx7.sub, ?_⟩
      refine up_store (b := g.next) (off := 0) (vs := [.int .i64 (minN v0 (fun i => val k (L.getD (i + 1) fun _ => 0)) (i + 1)), .int .i64 (maxN v0 (fun i => val k (L.getD (i + 1) fun _ => 0)) (i + 1))]) rfl (hx7.sub _ _ _ _ trivial (hx6.sub _ _ _ _ trivial gi)) (by omega) (by omega) rfl rfl rfl (by simp) (fun _ _ => trivial) fun g8 hs8 => ?_
      rw [splice2] at hs8
      have n8 := hs8.next
      have f8 := hs8.floor
      simp only [W_skip, W_ret, W_exit, W_seq, W_block, then_norm', then_exit', then_ret', block_norm', block_ret', block_exit', W_cond, cond_true', cond_false', W_ops, ops_nil, ops_cons, ops_guard, step_some, g_tt, g_tf, g_ft, g_ff, put_some, put_none, upd_ite, val_tmp, fr0_zero, fr0_succ, ret_ret, ret_norm, res_tmp, ex_some, val_const, val_func, vals_nil, vals_cons, d_nil, d_free, d_rd1, d_rd, d_up, d_any, same_some, up_some, all_reads, Sub.refl, x_mov, x_pick, pick_t, pick_f, x_field1, x_fieldN, x_extract, x_box, x_alloc, x_load1, x_loadN, withH_some', x_store, x_mkfunc, x_mkslice, x_slice, x_fieldAddr, fieldAt_p, x_idxArr, x_idxSl, x_append, x_there, x_len, len_slice, x_not, not_bool, x_call, x_int2, i_add, i_sub, i_mul, i_eql, i_neq, i_lss, i_leq, i_gtr, i_geq, x_plain, p_min, p_max, p_rem, p_quo, r_min, r_max, p_shl, p_or, p_and, p_andNot, eqV_i, x_bslice, x_build, res_cellN, res_cell1, valN_tmp, valN_const, if_true, if_false, Nat.le_refl, true_and, and_true, decide_true, decide_false, Bool.not_true, Bool.not_false, reduceIte, Nat.reduceEqDiff, Nat.reduceAdd, Nat.reduceMul, Nat.reduceSub, Nat.reduceLeDiff, Nat.reduceLT, p3, p4, p7, p8, p10, p16, p17, p34, p35, p36, hwi]
      exact ⟨(kin.trans ⟨fun j cs w gr hj hg => hx7.sub _ _ _ _ trivial (hx6.sub _ _ _ _ trivial hg), by omega, by omega⟩).trans hs8.keep, hs8.get, by omega⟩
    · rintro f g' ms ⟨⟨kin, gi, gin⟩, rfl, p3, p4, p7, p16, p17, p8, p10, p34, p35, p36⟩
      have kup := kin.up
      have kfl := kin.floor
      have w10 := (show Row g' g.next _ from ⟨_, _, gi⟩).whole (n := 2) rfl
      have hlo : minN v0 (fun i => val k (L.getD (i + 1) fun _ => 0)) (L.length - 1) = loN (val k) L := by unfold loN; rw [hv0]
      have hhi : maxN v0 (fun i => val k (L.getD (i + 1) fun _ => 0)) (L.length - 1) = hiN (val k) L := by unfold hiN; rw [hv0]
      rw [hlo, hhi] at w10
      have go' : g'.get g2.next = some (.row ((List.range (2 * m)).map (mixR k (fun k => loN (val k) L) (fun k => hiN (val k) L))) true 0) := kin.sub _ _ _ _ (by omega) (s5 _ _ _ _ trivial (hx4.sub _ _ _ _ trivial go))
      simp only [W_skip, W_ret, W_exit, W_seq, W_block, then_norm', then_exit', then_ret', block_norm', block_ret', block_exit', W_cond, cond_true', cond_false', W_ops, ops_nil, ops_cons, ops_guard, step_some, g_tt, g_tf, g_ft, g_ff, put_some, put_none, upd_ite, val_tmp, fr0_zero, fr0_succ, ret_ret, ret_norm, res_tmp, ex_some, val_const, val_func, vals_nil, vals_cons, d_nil, d_free, d_rd1, d_rd, d_up, d_any, same_some, up_some, all_reads, Sub.refl, x_mov, x_pick, pick_t, pick_f, x_field1, x_fieldN, x_extract, x_box, x_alloc, x_load1, x_loadN, withH_some', x_store, x_mkfunc, x_mkslice, x_slice, x_fieldAddr, fieldAt_p, x_idxArr, x_idxSl, x_append, x_there, x_len, len_slice, x_not, not_bool, x_call, x_int2, i_add, i_sub, i_mul, i_eql, i_neq, i_lss, i_leq, i_gtr, i_geq, x_plain, p_min, p_max, p_rem, p_quo, r_min, r_max, p_shl, p_or, p_and, p_andNot, eqV_i, x_bslice, x_build, res_cellN, res_cell1, valN_tmp, valN_const, if_true, if_false, Nat.le_refl, true_and, and_true, decide_true, decide_false, Bool.not_true, Bool.not_false, reduceIte, Nat.reduceEqDiff, Nat.reduceAdd, Nat.reduceMul, Nat.reduceSub, Nat.reduceLeDiff, Nat.reduceLT, p3, p4, p7, p8, p10, p16, p17, p34, p35, p36, Int.lt_irrefl, w10, idxSl_s hk]
      refine step_store (b := g2.next) (off := k * 2) (vs := [.int .i64 (loN (val k) L), .int .i64 (hiN (val k) L)]) rfl go' (by omega) (by omega) rfl rfl rfl (by simp; omega) fun g8 hs8 => ?_
      have h8 := hs8.get
      rw [mixR_splice (lo := fun k => loN (val k) L) (hi := fun k => hiN (val k) L) hk] at h8
      have n8 := hs8.next
      have f8 := hs8.floor
      simp only [W_skip, W_ret, W_exit, W_seq, W_block, then_norm', then_exit', then_ret', block_norm', block_ret', block_exit', W_cond, cond_true', cond_false', W_ops, ops_nil, ops_cons, ops_guard, step_some, g_tt, g_tf, g_ft, g_ff, put_some, put_none, upd_ite, val_tmp, fr0_zero, fr0_succ, ret_ret, ret_norm, res_tmp, ex_some, val_const, val_func, vals_nil, vals_cons, d_nil, d_free, d_rd1, d_rd, d_up, d_any, same_some, up_some, all_reads, Sub.refl, x_mov, x_pick, pick_t, pick_f, x_field1, x_fieldN, x_extract, x_box, x_alloc, x_load1, x_loadN, withH_some', x_store, x_mkfunc, x_mkslice, x_slice, x_fieldAddr, fieldAt_p, x_idxArr, x_idxSl, x_append, x_there, x_len, len_slice, x_not, not_bool, x_call, x_int2, i_add, i_sub, i_mul, i_eql, i_neq, i_lss, i_leq, i_gtr, i_geq, x_plain, p_min, p_max, p_rem, p_quo, r_min, r_max, p_shl, p_or, p_and, p_andNot, eqV_i, x_bslice, x_build, res_cellN, res_cell1, valN_tmp, valN_const, if_true, if_false, Nat.le_refl, true_and, and_true, decide_true, decide_false, Bool.not_true, Bool.not_false, reduceIte, Nat.reduceEqDiff, Nat.reduceAdd, Nat.reduceMul, Nat.reduceSub, Nat.reduceLeDiff, Nat.reduceLT, p3, p4, p7, p8, p10, p16, p17, p34, p35, p36, hw]
      refine ⟨⟨fun j cs w gr hj hg => ?_, by omega, by omega⟩, h8, by omega⟩
      have hlt := AHeap.lt_of_get hg
      rw [hs8.old j hj]
      exact kin.sub _ _ _ _ (by omega) (s5 _ _ _ _ trivial (hx4.sub _ _ _ _ trivial (st.sub _ _ _ _ hj hg)))
  · rintro f g ms ⟨⟨st, go, gn⟩, rfl, p3, p4, p7, p16, p17⟩
    have hup := st.up
    have hfg := st.floor
    simp only [W_skip, W_ret, W_exit, W_seq, W_block, then_norm', then_exit', then_ret', block_norm', block_ret', block_exit', W_cond, cond_true', cond_false', W_ops, ops_nil, ops_cons, ops_guard, step_some, g_tt, g_tf, g_ft, g_ff, put_some, put_none, upd_ite, val_tmp, fr0_zero, fr0_succ, ret_ret, ret_norm, res_tmp, ex_some, val_const, val_func, vals_nil, vals_cons, d_nil, d_free, d_rd1, d_rd, d_up, d_any, same_some, up_some, all_reads, Sub.refl, x_mov, x_pick, pick_t, pick_f, x_field1, x_fieldN, x_extract, x_box, x_alloc, x_load1, x_loadN, withH_some', x_store, x_mkfunc, x_mkslice, x_slice, x_fieldAddr, fieldAt_p, x_idxArr, x_idxSl, x_append, x_there, x_len, len_slice, x_not, not_bool, x_call, x_int2, i_add, i_sub, i_mul, i_eql, i_neq, i_lss, i_leq, i_gtr, i_geq, x_plain, p_min, p_max, p_rem, p_quo, r_min, r_max, p_shl, p_or, p_and, p_andNot, eqV_i, x_bslice, x_build, res_cellN, res_cell1, valN_tmp, valN_const, if_true, if_false, Nat.le_refl, true_and, and_true, decide_true, decide_false, Bool.not_true, Bool.not_false, reduceIte, Nat.reduceEqDiff, Nat.reduceAdd, Nat.reduceMul, Nat.reduceSub, Nat.reduceLeDiff, Nat.reduceLT, p3, p4, p7, p16, p17, Int.lt_irrefl]
    refine ⟨⟨_, _, rfl, fun x e => by cases e; rfl, ?_⟩, ⟨fun i cs w gr t hg => st.sub _ _ _ _ (by have := AHeap.lt_of_get hg; omega) (s3 _ _ _ _ t hg), by omega, by omega, by omega⟩⟩
    refine .inr ⟨_, 0, _, _, _, rfl, go, fun k j hk hj => ?_⟩
    rw [Nat.zero_add, List.getElem?_map, List.getElem?_range (by omega)]
    simp only [Option.map_some, mixR]
    rw [if_pos (by omega)]
    rcases j with _ | _ | j
    · rw [if_pos (by omega), show (k * 2 + 0) / 2 = k by omega]; rfl
    · rw [if_neg (by omega), show (k * 2 + (0 + 1)) / 2 = k by omega]; rfl
    · omega
end Go.Vm.Vat

namespace Go.Vm
variable {P : Program} {N : Nat} {f : Fr} {h : AHeap} {ty t u e : TypeId} {x y : Operand}
/-! ### Structs of two integers, compared -/
theorem pr_eqTwo {d : Nat} {f0 f1 : Field} {a0 a1 b0 b1 : Int} (ht : P.underlying t = some (.struct #[f0, f1])) (hp : P.stoodInHeld t = false) (n0 : f0.name ≠ "_") (n1 : f1.name ≠ "_") (o0 : f0.offset = 0) (o1 : f1.offset = 1)
    (e0 : P.underlying f0.type = some (.int .i64)) (e1 : P.underlying f1.type = some (.int .i64)) :
    pureRun P (Op.equalIn (d + 2) t (.agg ⟨[.int .i64 a0, .int .i64 a1]⟩) (.agg ⟨[.int .i64 b0, .int .i64 b1]⟩)) = some (decide (a0 = b0 ∧ a1 = b1)) := by
  have x0 : ∀ (p q : Int), pureRun P (part f0.type ⟨[.int .i64 p, .int .i64 q]⟩ f0.offset) = some (.int .i64 p) := fun p q => pr_part e0 (by rw [o0]; rfl)
  have x1 : ∀ (p q : Int), pureRun P (part f1.type ⟨[.int .i64 p, .int .i64 q]⟩ f1.offset) = some (.int .i64 q) := fun p q => pr_part e1 (by rw [o1]; rfl)
  rw [Op.equalIn]
  simp only [pureRun_bind, pr_under ht, Option.bind_some, pr_program, hp, Bool.false_eq_true, if_false]
  rw [← Array.forIn_toList]
  simp only [List.forIn_cons, List.forIn_nil, pureRun_bind, n0, n1, ne_eq, not_false_eq_true, if_true, x0, pr_eqInt e0, Option.bind_some]
  by_cases c0 : a0 = b0 <;> by_cases c1 : a1 = b1 <;> simp [c0, c1, pr_pure, pureRun_bind, x1, pr_eqInt e1]
theorem plainF_neqTwo {f0 f1 : Field} {a0 a1 b0 b1 : Int} (hx : valN N f x = .agg ⟨[.int .i64 a0, .int .i64 a1]⟩) (hy : valN N f y = .agg ⟨[.int .i64 b0, .int .i64 b1]⟩) (hg : P.eqGuardType P.depth t = false)
    (ht : P.underlying t = some (.struct #[f0, f1])) (hp : P.stoodInHeld t = false) (n0 : f0.name ≠ "_") (n1 : f1.name ≠ "_") (o0 : f0.offset = 0) (o1 : f1.offset = 1)
    (e0 : P.underlying f0.type = some (.int .i64)) (e1 : P.underlying f1.type = some (.int .i64)) :
    plainF P N (.binOp .neq t x y u) ty f h = some (.bool (!(decide (a0 = b0 ∧ a1 = b1))), h) := by
  unfold plainF
  have : allB (fun x => plainV (valN N f x)) (Op.binOp .neq t x y u).operands.toList = true := by simp [Op.operands, allB, hx, hy, plainV, plainE, plainCell]
  rw [this]
  have e : pureRun P (execOp (valN N f) (bare (.binOp .neq t x y u) ty)) = some (.value (.bool (!(decide (a0 = b0 ∧ a1 = b1))))) := by
    simp only [execOp, bare, hx, hy, pureRun_bind, pr_guard hg, Option.bind_some, binOp, Op.equal, Op.maxDepth, pr_eqTwo ht hp n0 n1 o0 o1 e0 e1, pr_pure]
  rw [e]
  rfl
theorem binA_neqAgg {op : Op} {l r : Array Value} : binA P N .neq op ty (.agg l) (.agg r) f h = plainF P N op ty f h := id rfl
end Go.Vm
