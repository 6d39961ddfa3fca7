/- Texts of the proofs of this seat, put together: VatRef4, VatRef5, VatConv, VatYard, VatV1. -/
import Derived.Test.YtnibceeoejeimaaPk4

namespace Go.Vm.Vat
open Go.Proofs
set_option linter.unusedSimpArgs false
set_option linter.unusedVariables false
set_option maxRecDepth 10000
variable {n : Nat} {h : AHeap}

theorem u3 : ∃ d, Try.prog.underlying 3 = some d := ⟨_, by rfl⟩
theorem u104 : Try.prog.underlying 104 = some (.int .u64) := by rfl
theorem p_uint {N : Nat} {f : Fr} {x : Operand} {ty : TypeId} : plainF Try.prog N (.convert 3 104 x) ty f h = run1 convU (plainF Try.prog N (.convert 3 104 x) ty f) (valN N f x) h := p_conv u3.choose_spec u104

/-- a sample is right with blues -/
def RightB (Y : MY) (b : Nat → Int) (k : Nat) : Prop := Y.slo k ≤ blueN b (Y.q (Y.sv k).toNat) Y.nf ∧ blueN b (Y.q (Y.sv k).toNat) Y.nf ≤ Y.shi k
noncomputable instance (Y : MY) (b : Nat → Int) (k : Nat) : Decidable (RightB Y b k) := Classical.propDecidable _
noncomputable def rightN (Y : MY) (b : Nat → Int) : Nat → Nat
  | 0 => 0
  | i + 1 => if RightB Y b i then rightN Y b i ||| 2 ^ i else rightN Y b i
theorem rightN_lt (Y : MY) (b : Nat → Int) (i : Nat) : rightN Y b i < 2 ^ i := by
  induction i with
  | zero => simp [rightN]
  | succ i ih =>
    simp only [rightN]
    split
    · exact Nat.or_lt_two_pow (Nat.lt_of_lt_of_le ih (Nat.pow_le_pow_right (by omega) (by omega))) (Nat.pow_lt_pow_right (by omega) (by omega))
    · exact Nat.lt_of_lt_of_le ih (Nat.pow_le_pow_right (by omega) (by omega))
theorem or_pow {a i : Nat} (ha : a < 2 ^ i) : a ||| 2 ^ i = a + 2 ^ i := by
  have := Nat.two_pow_add_eq_or_of_lt ha 1
  rw [Nat.mul_one] at this
  rw [Nat.or_comm, ← this, Nat.add_comm]
theorem rightN_full (Y : MY) (b : Nat → Int) (i : Nat) : rightN Y b i = 2 ^ i - 1 ↔ ∀ k, k < i → RightB Y b k := by
  induction i with
  | zero => simp [rightN]
  | succ i ih =>
    have hl := rightN_lt Y b i
    simp only [rightN]
    rw [Nat.pow_succ]
    by_cases hr : RightB Y b i
    · rw [if_pos hr, or_pow hl]
      constructor
      · intro e k hk
        by_cases hki : k = i
        · subst hki; exact hr
        · exact ih.1 (by omega) k (by omega)
      · intro ha
        have := ih.2 fun k hk => ha k (by omega)
        omega
    · rw [if_neg hr]
      constructor
      · intro e; omega
      · intro ha; exact absurd (ha i (by omega)) hr
/-- a yard as it should be -/
structure Good (Y : MY) : Prop where
  sz : SizesOk Y
  f : FieldsOk Y
  v : VatsOk Y
  s : SampsOk Y
theorem AreB.range {Y : MY} {nb : Nat} {b : Nat → Int} (hb : AreB Y nb b) (hY : FieldsOk Y) : ∀ k, k < nb → 0 ≤ b k ∧ b k ≤ 20 := by
  intro k hk
  obtain ⟨h1, h2⟩ := hb.2 k hk
  obtain ⟨h3, h4, h5⟩ := hY k (by rw [← hb.1]; exact hk)
  constructor <;> omega

def s88 : SCode := (.seq (.ops [⟨(some 2), none, .box (T 0)⟩, ⟨(some 4), none, .mov (.const (.int .i64 (0)))⟩]) (.seq (.ops [⟨(some 5), none, .mov (.const (.int .i64 (0)))⟩]) (.seq (.seq (.ops [⟨(some 6), none, .mov (.const (.int .i64 (0)))⟩]) (.block 0 (.loop (.seq (.seq (.ops [⟨(some 8), none, .mov (T 6)⟩, ⟨(some 9), none, .fieldAddr 2 (T 2)⟩, ⟨(some 10), none, .load1 (T 9)⟩, ⟨(some 11), none, .len (T 10)⟩, ⟨(some 12), none, .int2 .lss (T 8) (T 11)⟩]) (.cond (T 12) .skip (.exit 0))) (.seq (.block 1 (.seq (.ops [⟨(some 15), none, .fieldAddr 2 (T 2)⟩, ⟨(some 16), none, .load1 (T 15)⟩, ⟨(some 17), none, .mov (T 6)⟩, ⟨(some 18), none, .idxSl 3 (T 16) (T 17)⟩, ⟨(some 19), none, .loadN 3 (T 18)⟩, ⟨(some 7), none, .alloc [(.int .i64 (0)), (.int .i64 (0)), (.int .i64 (0))]⟩, ⟨none, none, .store 3 (T 7) (T 19)⟩]) (.seq (.draw [⟨.rd1, ⟨(some 20), none, .loadN 3 (T 2)⟩⟩, ⟨.free, ⟨(some 21), none, .mov (T 1)⟩⟩, ⟨.free, ⟨(some 22), none, .fieldAddr 0 (T 7)⟩⟩, ⟨.rd1, ⟨(some 23), none, .load1 (T 22)⟩⟩, ⟨.up, ⟨(some 24), none, .call (.func 33) [(T 20), (T 21), (T 23)]⟩⟩, ⟨.free, ⟨(some 25), none, .fieldAddr 1 (T 7)⟩⟩, ⟨.free, ⟨(some 26), none, .fieldAddr 0 (T 25)⟩⟩, ⟨.rd, ⟨(some 27), none, .load1 (T 26)⟩⟩, ⟨.free, ⟨(some 28), none, .fieldAddr 1 (T 7)⟩⟩, ⟨.free, ⟨(some 29), none, .fieldAddr 1 (T 28)⟩⟩, ⟨.rd, ⟨(some 30), none, .load1 (T 29)⟩⟩, ⟨.any, ⟨(some 31), none, .call (.func 42) [(T 24), (T 27), (T 30)]⟩⟩]) (.cond (T 31) (.ops [⟨(some 32), none, .mov (T 5)⟩, ⟨(some 33), none, .mov (T 6)⟩, ⟨(some 34), none, .plain (.convert 3 104 (T 33)) 104⟩, ⟨(some 35), none, .plain (.binOp .shl 3 (.const (.int .i64 (1))) (T 34) 104) 3⟩, ⟨(some 36), none, .plain (.binOp .or 3 (T 32) (T 35) 3) 3⟩, ⟨(some 5), none, .mov (T 36)⟩]) .skip)))) (.ops [⟨(some 13), none, .mov (T 6)⟩, ⟨(some 14), none, .int2 .add (T 13) (.const (.int .i64 (1)))⟩, ⟨(some 6), none, .mov (T 14)⟩])))))) (.seq (.ops [⟨(some 37), none, .mov (T 5)⟩, ⟨(some 4), none, .mov (T 37)⟩]) .ret))))
theorem fok88 : FnOk Try.prog 88 38 s88 [.tmp 4] := ⟨Try.f88, _, Try.func88, rfl, Try.ntmps88, by kernel_rfl, by kernel_rfl⟩
theorem right_c (hn : 10002 ≤ n) (hr : h.next + 10 < far) {fv vv sv vb : Value} {Y : MY} {nb : Nat} {b : Nat → Int} (hy : YardR h fv vv sv Y) (hb : Ints h vb nb b) (hY : Good Y) (hB : AreB Y nb b) :
    call n (.func (.func 88) #[] #[]) [.agg ⟨[fv, vv, sv]⟩, vb] h = some (.int .i64 (rightN Y b Y.ns : Nat), h) := by
  obtain ⟨n, rfl⟩ : ∃ p, n = p + 1 := ⟨n - 1, by omega⟩
  refine call_plain0 fok88 rfl rfl (by simp) rfl ?_
  have hy := hy.shut
  have hb := Cells.shut hb
  have hr : h.shutAll.next + 10 < far := hr
  have hfl : h.shutAll.floor ≤ h.shutAll.next := Nat.le_refl _
  generalize h.shutAll = h at hy hb hr hfl
  obtain ⟨z1, z2, z3⟩ := hY.sz
  have hbr := hB.range hY.f
  simp only [s88, W_seq, W_ops]
  refine ops_box (cs := [fv, vv, sv]) (by omega) rfl hy.one fun h1 hx => ?_
  have hy := hy.mono hx.sub
  have hb := Cells.mono hb hx.sub
  have hrow : Row h1 h.next [fv, vv, sv] := hx.row
  simp only [W_skip, W_ret, W_exit, W_seq, W_block, then_norm', then_exit', then_ret', block_norm', block_ret', block_exit', W_cond, cond_true', cond_false', W_ops, ops_nil, ops_cons, ops_guard, step_some, g_tt, g_tf, g_ft, g_ff, put_some, put_none, upd_ite, val_tmp, fr0_zero, fr0_succ, ret_ret, ret_norm, res_tmp, ex_some, val_const, val_func, vals_nil, vals_cons, d_nil, d_free, d_rd1, d_rd, d_up, d_any, same_some, up_some, all_reads, Sub.refl, x_mov, x_pick, pick_t, pick_f, x_field1, x_fieldN, x_extract, x_box, x_alloc, x_load1, x_loadN, withH_some', x_store, x_mkfunc, x_mkslice, x_slice, x_fieldAddr, fieldAt_p, x_idxArr, x_idxSl, x_append, x_there, x_len, len_slice, x_not, not_bool, x_call, x_int2, i_add, i_sub, i_mul, i_eql, i_neq, i_lss, i_leq, i_gtr, i_geq, x_plain, p_min, p_max, p_rem, p_quo, r_min, r_max, p_shl, p_or, p_and, p_andNot, eqV_i, x_bslice, x_build, res_cellN, res_cell1, valN_tmp, valN_const, if_true, if_false, Nat.le_refl, true_and, and_true, decide_true, decide_false, Bool.not_true, Bool.not_false, reduceIte, Nat.reduceEqDiff, Nat.reduceAdd, Nat.reduceMul, Nat.reduceSub, Nat.reduceLeDiff, Nat.reduceLT]
  refine W_loop Y.ns (fun k f g m => (Sub All h1 g ∧ g.next = h1.next + k ∧ g.floor = h1.floor) ∧ m = [] ∧ f 1 = vb ∧ f 2 = .pointer (some ⟨h.next, 0, none⟩) ∧ f 5 = .int .i64 (rightN Y b k : Nat) ∧ f 6 = .int .i64 (k : Int)) (by simp; omega) ?_ ?_ ?_
  · simp only [W_skip, W_ret, W_exit, W_seq, W_block, then_norm', then_exit', then_ret', block_norm', block_ret', block_exit', W_cond, cond_true', cond_false', W_ops, ops_nil, ops_cons, ops_guard, step_some, g_tt, g_tf, g_ft, g_ff, put_some, put_none, upd_ite, val_tmp, fr0_zero, fr0_succ, ret_ret, ret_norm, res_tmp, ex_some, val_const, val_func, vals_nil, vals_cons, d_nil, d_free, d_rd1, d_rd, d_up, d_any, same_some, up_some, all_reads, Sub.refl, x_mov, x_pick, pick_t, pick_f, x_field1, x_fieldN, x_extract, x_box, x_alloc, x_load1, x_loadN, withH_some', x_store, x_mkfunc, x_mkslice, x_slice, x_fieldAddr, fieldAt_p, x_idxArr, x_idxSl, x_append, x_there, x_len, len_slice, x_not, not_bool, x_call, x_int2, i_add, i_sub, i_mul, i_eql, i_neq, i_lss, i_leq, i_gtr, i_geq, x_plain, p_min, p_max, p_rem, p_quo, r_min, r_max, p_shl, p_or, p_and, p_andNot, eqV_i, x_bslice, x_build, res_cellN, res_cell1, valN_tmp, valN_const, if_true, if_false, Nat.le_refl, true_and, and_true, decide_true, decide_false, Bool.not_true, Bool.not_false, reduceIte, Nat.reduceEqDiff, Nat.reduceAdd, Nat.reduceMul, Nat.reduceSub, Nat.reduceLeDiff, Nat.reduceLT, Nat.add_zero]
    simp [rightN]
  · rintro k f g m hk ⟨⟨g1, g2, g3⟩, rfl, f1, f2, f5, f6⟩
    have hk' : (k : Int) < (Y.ns : Int) := by omega
    have hw : wrapF .i64 ((k : Int) + 1) = ((k + 1 : Nat) : Int) := by rw [wrap_in (by omega) (by omega)]; rfl
    have hyg := hy.mono g1
    have hrg := hrow.mono g1
    have hbg := Cells.mono hb g1
    simp only [W_skip, W_ret, W_exit, W_seq, W_block, then_norm', then_exit', then_ret', block_norm', block_ret', block_exit', W_cond, cond_true', cond_false', W_ops, ops_nil, ops_cons, ops_guard, step_some, g_tt, g_tf, g_ft, g_ff, put_some, put_none, upd_ite, val_tmp, fr0_zero, fr0_succ, ret_ret, ret_norm, res_tmp, ex_some, val_const, val_func, vals_nil, vals_cons, d_nil, d_free, d_rd1, d_rd, d_up, d_any, same_some, up_some, all_reads, Sub.refl, x_mov, x_pick, pick_t, pick_f, x_field1, x_fieldN, x_extract, x_box, x_alloc, x_load1, x_loadN, withH_some', x_store, x_mkfunc, x_mkslice, x_slice, x_fieldAddr, fieldAt_p, x_idxArr, x_idxSl, x_append, x_there, x_len, len_slice, x_not, not_bool, x_call, x_int2, i_add, i_sub, i_mul, i_eql, i_neq, i_lss, i_leq, i_gtr, i_geq, x_plain, p_min, p_max, p_rem, p_quo, r_min, r_max, p_shl, p_or, p_and, p_andNot, eqV_i, x_bslice, x_build, res_cellN, res_cell1, valN_tmp, valN_const, if_true, if_false, Nat.le_refl, true_and, and_true, decide_true, decide_false, Bool.not_true, Bool.not_false, reduceIte, Nat.reduceEqDiff, Nat.reduceAdd, Nat.reduceMul, Nat.reduceSub, Nat.reduceLeDiff, Nat.reduceLT, f1, f2, f5, f6, hrg.ld, Nat.zero_add, List.getElem?_cons_zero, List.getElem?_cons_succ, Cells.len hyg.s, hk', Cells.idx hyg.s hk, samps_ld hyg.s hk]
    have hgn : g.next + 5 < far := by rw [g2, hx.next]; omega
    have hgf : g.floor ≤ g.next := by rw [g3, hx.floor, g2, hx.next]; omega
    refine step_new (vs := [.int .i64 (Y.sv k), .int .i64 (Y.slo k), .int .i64 (Y.shi k)]) (by omega) hgf rfl (by simp only [W_skip, W_ret, W_exit, W_seq, W_block, then_norm', then_exit', then_ret', block_norm', block_ret', block_exit', W_cond, cond_true', cond_false', W_ops, ops_nil, ops_cons, ops_guard, step_some, g_tt, g_tf, g_ft, g_ff, put_some, put_none, upd_ite, val_tmp, fr0_zero, fr0_succ, ret_ret, ret_norm, res_tmp, ex_some, val_const, val_func, vals_nil, vals_cons, d_nil, d_free, d_rd1, d_rd, d_up, d_any, same_some, up_some, all_reads, Sub.refl, x_mov, x_pick, pick_t, pick_f, x_field1, x_fieldN, x_extract, x_box, x_alloc, x_load1, x_loadN, withH_some', x_store, x_mkfunc, x_mkslice, x_slice, x_fieldAddr, fieldAt_p, x_idxArr, x_idxSl, x_append, x_there, x_len, len_slice, x_not, not_bool, x_call, x_int2, i_add, i_sub, i_mul, i_eql, i_neq, i_lss, i_leq, i_gtr, i_geq, x_plain, p_min, p_max, p_rem, p_quo, r_min, r_max, p_shl, p_or, p_and, p_andNot, eqV_i, x_bslice, x_build, res_cellN, res_cell1, valN_tmp, valN_const, if_true, if_false, Nat.le_refl, true_and, and_true, decide_true, decide_false, Bool.not_true, Bool.not_false, reduceIte, Nat.reduceEqDiff, Nat.reduceAdd, Nat.reduceMul, Nat.reduceSub, Nat.reduceLeDiff, Nat.reduceLT]; rfl) rfl rfl rfl fun g' hg' => ?_
    have hyg := hyg.mono hg'.sub
    have hrg := hrg.mono hg'.sub
    have hbg := Cells.mono hbg hg'.sub
    have hnx : g'.next < far := by rw [hg'.next]; omega
    have hin : (Sub All h1 g' ∧ g'.next = h1.next + (k + 1) ∧ g'.floor = h1.floor) = True := eq_true ⟨g1.trans hg'.sub, by rw [hg'.next, g2]; omega, by rw [hg'.floor, g3]⟩
    obtain ⟨⟨s1, s2⟩, s3⟩ := hY.s k hk
    have hsv : Y.sv k = ((Y.sv k).toNat : Int) := by omega
    obtain ⟨v1, v2⟩ := hY.v (Y.sv k).toNat (by omega)
    have hbl := blue_c (n := n) (h := g') (at_ := (Y.sv k).toNat) (by omega) hnx hyg hbg (by have := hB.1; omega) (by omega) (by rw [v1, hB.1]; exact Nat.le_refl _) hbr (fun i hi => v2 i (by rw [v1, ← hB.1]; exact hi))
    rw [← hsv, hB.1] at hbl
    have hpk : (2 ^ k : Nat) < 2 ^ 62 := Nat.pow_lt_pow_right (by omega) (by omega)
    have hrk : rightN Y b k < 2 ^ 62 := Nat.lt_trans (rightN_lt Y b k) hpk
    simp only [W_skip, W_ret, W_exit, W_seq, W_block, then_norm', then_exit', then_ret', block_norm', block_ret', block_exit', W_cond, cond_true', cond_false', W_ops, ops_nil, ops_cons, ops_guard, step_some, g_tt, g_tf, g_ft, g_ff, put_some, put_none, upd_ite, val_tmp, fr0_zero, fr0_succ, ret_ret, ret_norm, res_tmp, ex_some, val_const, val_func, vals_nil, vals_cons, d_nil, d_free, d_rd1, d_rd, d_up, d_any, same_some, up_some, all_reads, Sub.refl, x_mov, x_pick, pick_t, pick_f, x_field1, x_fieldN, x_extract, x_box, x_alloc, x_load1, x_loadN, withH_some', x_store, x_mkfunc, x_mkslice, x_slice, x_fieldAddr, fieldAt_p, x_idxArr, x_idxSl, x_append, x_there, x_len, len_slice, x_not, not_bool, x_call, x_int2, i_add, i_sub, i_mul, i_eql, i_neq, i_lss, i_leq, i_gtr, i_geq, x_plain, p_min, p_max, p_rem, p_quo, r_min, r_max, p_shl, p_or, p_and, p_andNot, eqV_i, x_bslice, x_build, res_cellN, res_cell1, valN_tmp, valN_const, if_true, if_false, Nat.le_refl, true_and, and_true, decide_true, decide_false, Bool.not_true, Bool.not_false, reduceIte, Nat.reduceEqDiff, Nat.reduceAdd, Nat.reduceMul, Nat.reduceSub, Nat.reduceLeDiff, Nat.reduceLT]
    refine W_draw All ?_
    by_cases hR : RightB Y b k
    · have hR' : Y.slo k ≤ blueN b (Y.q (Y.sv k).toNat) Y.nf ∧ blueN b (Y.q (Y.sv k).toNat) Y.nf ≤ Y.shi k := hR
      have hnew : rightN Y b (k + 1) = rightN Y b k ||| 2 ^ k := by simp only [rightN]; rw [if_pos hR]
      simp only [W_skip, W_ret, W_exit, W_seq, W_block, then_norm', then_exit', then_ret', block_norm', block_ret', block_exit', W_cond, cond_true', cond_false', W_ops, ops_nil, ops_cons, ops_guard, step_some, g_tt, g_tf, g_ft, g_ff, put_some, put_none, upd_ite, val_tmp, fr0_zero, fr0_succ, ret_ret, ret_norm, res_tmp, ex_some, val_const, val_func, vals_nil, vals_cons, d_nil, d_free, d_rd1, d_rd, d_up, d_any, same_some, up_some, all_reads, Sub.refl, x_mov, x_pick, pick_t, pick_f, x_field1, x_fieldN, x_extract, x_box, x_alloc, x_load1, x_loadN, withH_some', x_store, x_mkfunc, x_mkslice, x_slice, x_fieldAddr, fieldAt_p, x_idxArr, x_idxSl, x_append, x_there, x_len, len_slice, x_not, not_bool, x_call, x_int2, i_add, i_sub, i_mul, i_eql, i_neq, i_lss, i_leq, i_gtr, i_geq, x_plain, p_min, p_max, p_rem, p_quo, r_min, r_max, p_shl, p_or, p_and, p_andNot, eqV_i, x_bslice, x_build, res_cellN, res_cell1, valN_tmp, valN_const, if_true, if_false, Nat.le_refl, true_and, and_true, decide_true, decide_false, Bool.not_true, Bool.not_false, reduceIte, Nat.reduceEqDiff, Nat.reduceAdd, Nat.reduceMul, Nat.reduceSub, Nat.reduceLeDiff, Nat.reduceLT, f1, f2, f5, f6, hrg.ld, hrg.ldN 0 3 (by simp) (by simp), hg'.ld, List.drop_zero, List.take_succ_cons, List.take_zero, Nat.zero_add, List.getElem?_cons_zero, List.getElem?_cons_succ, hbl, in_c (n := n) (by omega), hR', p_uint, r_conv (k := k) (by omega), r_shl (k := k) (by omega), r_or hrk hpk, hnew, hin, hw]
    · have hR' : ¬ (Y.slo k ≤ blueN b (Y.q (Y.sv k).toNat) Y.nf ∧ blueN b (Y.q (Y.sv k).toNat) Y.nf ≤ Y.shi k) := hR
      have hnew : rightN Y b (k + 1) = rightN Y b k := by simp only [rightN]; rw [if_neg hR]
      simp only [W_skip, W_ret, W_exit, W_seq, W_block, then_norm', then_exit', then_ret', block_norm', block_ret', block_exit', W_cond, cond_true', cond_false', W_ops, ops_nil, ops_cons, ops_guard, step_some, g_tt, g_tf, g_ft, g_ff, put_some, put_none, upd_ite, val_tmp, fr0_zero, fr0_succ, ret_ret, ret_norm, res_tmp, ex_some, val_const, val_func, vals_nil, vals_cons, d_nil, d_free, d_rd1, d_rd, d_up, d_any, same_some, up_some, all_reads, Sub.refl, x_mov, x_pick, pick_t, pick_f, x_field1, x_fieldN, x_extract, x_box, x_alloc, x_load1, x_loadN, withH_some', x_store, x_mkfunc, x_mkslice, x_slice, x_fieldAddr, fieldAt_p, x_idxArr, x_idxSl, x_append, x_there, x_len, len_slice, x_not, not_bool, x_call, x_int2, i_add, i_sub, i_mul, i_eql, i_neq, i_lss, i_leq, i_gtr, i_geq, x_plain, p_min, p_max, p_rem, p_quo, r_min, r_max, p_shl, p_or, p_and, p_andNot, eqV_i, x_bslice, x_build, res_cellN, res_cell1, valN_tmp, valN_const, if_true, if_false, Nat.le_refl, true_and, and_true, decide_true, decide_false, Bool.not_true, Bool.not_false, reduceIte, Nat.reduceEqDiff, Nat.reduceAdd, Nat.reduceMul, Nat.reduceSub, Nat.reduceLeDiff, Nat.reduceLT, f1, f2, f5, f6, hrg.ld, hrg.ldN 0 3 (by simp) (by simp), hg'.ld, List.drop_zero, List.take_succ_cons, List.take_zero, Nat.zero_add, List.getElem?_cons_zero, List.getElem?_cons_succ, hbl, in_c (n := n) (by omega), hR', hnew, hin, hw]
  · rintro f g m ⟨⟨g1, g2, g3⟩, rfl, f1, f2, f5, f6⟩
    simp only [W_skip, W_ret, W_exit, W_seq, W_block, then_norm', then_exit', then_ret', block_norm', block_ret', block_exit', W_cond, cond_true', cond_false', W_ops, ops_nil, ops_cons, ops_guard, step_some, g_tt, g_tf, g_ft, g_ff, put_some, put_none, upd_ite, val_tmp, fr0_zero, fr0_succ, ret_ret, ret_norm, res_tmp, ex_some, val_const, val_func, vals_nil, vals_cons, d_nil, d_free, d_rd1, d_rd, d_up, d_any, same_some, up_some, all_reads, Sub.refl, x_mov, x_pick, pick_t, pick_f, x_field1, x_fieldN, x_extract, x_box, x_alloc, x_load1, x_loadN, withH_some', x_store, x_mkfunc, x_mkslice, x_slice, x_fieldAddr, fieldAt_p, x_idxArr, x_idxSl, x_append, x_there, x_len, len_slice, x_not, not_bool, x_call, x_int2, i_add, i_sub, i_mul, i_eql, i_neq, i_lss, i_leq, i_gtr, i_geq, x_plain, p_min, p_max, p_rem, p_quo, r_min, r_max, p_shl, p_or, p_and, p_andNot, eqV_i, x_bslice, x_build, res_cellN, res_cell1, valN_tmp, valN_const, if_true, if_false, Nat.le_refl, true_and, and_true, decide_true, decide_false, Bool.not_true, Bool.not_false, reduceIte, Nat.reduceEqDiff, Nat.reduceAdd, Nat.reduceMul, Nat.reduceSub, Nat.reduceLeDiff, Nat.reduceLT, f1, f2, f5, f6, (hrow.mono g1).ld, Nat.zero_add, List.getElem?_cons_zero, List.getElem?_cons_succ, Cells.len (hy.mono g1).s, Int.lt_irrefl]

def s70 : SCode := (.seq (.ops [⟨(some 1), none, .box (T 0)⟩, ⟨(some 2), none, .mov (.const (.int .i64 (0)))⟩]) (.seq (.ops [⟨(some 3), none, .fieldAddr 2 (T 1)⟩, ⟨(some 4), none, .load1 (T 3)⟩, ⟨(some 5), none, .len (T 4)⟩, ⟨(some 6), none, .plain (.convert 3 104 (T 5)) 104⟩, ⟨(some 7), none, .plain (.binOp .shl 3 (.const (.int .i64 (1))) (T 6) 104) 3⟩, ⟨(some 8), none, .int2 .sub (T 7) (.const (.int .i64 (1)))⟩, ⟨(some 2), none, .mov (T 8)⟩]) .ret))
theorem fok70 : FnOk Try.prog 70 9 s70 [.tmp 2] := ⟨Try.f70, _, Try.func70, rfl, Try.ntmps70, by kernel_rfl, by kernel_rfl⟩
theorem full_c (hn : 1 ≤ n) (hr : h.next < far) {fv vv sv : Value} {Y : MY} (hy : YardR h fv vv sv Y) (hl : Y.ns ≤ 5) :
    call n (.func (.func 70) #[] #[]) [.agg ⟨[fv, vv, sv]⟩] h = some (.int .i64 ((2 ^ Y.ns - 1 : Nat) : Int), h) := by
  obtain ⟨n, rfl⟩ : ∃ p, n = p + 1 := ⟨n - 1, by omega⟩
  refine call_plain0 fok70 rfl rfl (by simp) rfl ?_
  have hy := hy.shut
  have hr : h.shutAll.next < far := hr
  generalize h.shutAll = h at hy hr
  simp only [s70, W_seq, W_ops]
  refine ops_box (cs := [fv, vv, sv]) (by omega) rfl hy.one fun h1 hx => ?_
  have hy := hy.mono hx.sub
  have hp : (2 ^ Y.ns : Nat) < 2 ^ 62 := Nat.pow_lt_pow_right (by omega) (by omega)
  have hp0 : 0 < (2 ^ Y.ns : Nat) := Nat.pow_pos (by omega)
  have hw : wrapF .i64 (((2 ^ Y.ns : Nat) : Int) - 1) = ((2 ^ Y.ns - 1 : Nat) : Int) := by rw [wrap_in (by omega) (by omega)]; omega
  simp only [W_skip, W_ret, W_exit, W_seq, W_block, then_norm', then_exit', then_ret', block_norm', block_ret', block_exit', W_cond, cond_true', cond_false', W_ops, ops_nil, ops_cons, ops_guard, step_some, g_tt, g_tf, g_ft, g_ff, put_some, put_none, upd_ite, val_tmp, fr0_zero, fr0_succ, ret_ret, ret_norm, res_tmp, ex_some, val_const, val_func, vals_nil, vals_cons, d_nil, d_free, d_rd1, d_rd, d_up, d_any, same_some, up_some, all_reads, Sub.refl, x_mov, x_pick, pick_t, pick_f, x_field1, x_fieldN, x_extract, x_box, x_alloc, x_load1, x_loadN, withH_some', x_store, x_mkfunc, x_mkslice, x_slice, x_fieldAddr, fieldAt_p, x_idxArr, x_idxSl, x_append, x_there, x_len, len_slice, x_not, not_bool, x_call, x_int2, i_add, i_sub, i_mul, i_eql, i_neq, i_lss, i_leq, i_gtr, i_geq, x_plain, p_min, p_max, p_rem, p_quo, r_min, r_max, p_shl, p_or, p_and, p_andNot, eqV_i, x_bslice, x_build, res_cellN, res_cell1, valN_tmp, valN_const, if_true, if_false, Nat.le_refl, true_and, and_true, decide_true, decide_false, Bool.not_true, Bool.not_false, reduceIte, Nat.reduceEqDiff, Nat.reduceAdd, Nat.reduceMul, Nat.reduceSub, Nat.reduceLeDiff, Nat.reduceLT, hx.ld, Nat.zero_add, List.getElem?_cons_zero, List.getElem?_cons_succ, Cells.len hy.s, p_uint, r_conv (k := Y.ns) (by omega), r_shl (k := Y.ns) (by omega), hw]
end Go.Vm.Vat

namespace Go.Vm.Vat
open Go.Proofs
set_option linter.unusedSimpArgs false
set_option linter.unusedVariables false
set_option maxRecDepth 10000
variable {n : Nat} {h : AHeap}

/-- a list is a truth -/
def IsTr (Y : MY) (nb : Nat) (b : Nat → Int) : Prop := AreB Y nb b ∧ ∀ k, k < Y.ns → RightB Y b k
noncomputable instance (Y : MY) (nb : Nat) (b : Nat → Int) : Decidable (IsTr Y nb b) := Classical.propDecidable _
def s31 : SCode := (.seq (.ops [⟨(some 2), none, .box (T 0)⟩, ⟨(some 4), none, .mov (.const (.bool false))⟩]) (.seq (.draw [⟨.rd1, ⟨(some 5), none, .loadN 3 (T 2)⟩⟩, ⟨.free, ⟨(some 6), none, .mov (T 1)⟩⟩, ⟨.up, ⟨(some 7), none, .call (.func 32) [(T 5), (T 6)]⟩⟩, ⟨.free, ⟨(some 8), none, .mov (T 7)⟩⟩, ⟨.rd1, ⟨(some 9), (some (8, true)), .loadN 3 (T 2)⟩⟩, ⟨.free, ⟨(some 10), (some (8, true)), .mov (T 1)⟩⟩, ⟨.up, ⟨(some 11), (some (8, true)), .call (.func 88) [(T 9), (T 10)]⟩⟩, ⟨.rd, ⟨(some 12), (some (8, true)), .loadN 3 (T 2)⟩⟩, ⟨.any, ⟨(some 13), (some (8, true)), .call (.func 70) [(T 12)]⟩⟩, ⟨.free, ⟨(some 14), (some (8, true)), .int2 .eql (T 11) (T 13)⟩⟩, ⟨.free, ⟨(some 15), none, .pick (T 8) (T 14) (.const (.bool false))⟩⟩, ⟨.free, ⟨(some 4), none, .mov (T 15)⟩⟩]) .ret))
theorem fok31 : FnOk Try.prog 31 16 s31 [.tmp 4] := ⟨Try.f31, _, Try.func31, rfl, Try.ntmps31, by kernel_rfl, by kernel_rfl⟩
theorem isTruth_c (hn : 10003 ≤ n) (hr : h.next + 11 < far) {fv vv sv vb : Value} {Y : MY} {nb : Nat} {b : Nat → Int} (hy : YardR h fv vv sv Y) (hb : Ints h vb nb b) (hY : Good Y) (hl : nb ≤ 30) :
    call n (.func (.func 31) #[] #[]) [.agg ⟨[fv, vv, sv]⟩, vb] h = some (.bool (decide (IsTr Y nb b)), h) := by
  obtain ⟨n, rfl⟩ : ∃ p, n = p + 1 := ⟨n - 1, by omega⟩
  refine call_plain0 fok31 rfl rfl (by simp) rfl ?_
  have hy := hy.shut
  have hb := Cells.shut hb
  have hr : h.shutAll.next + 11 < far := hr
  generalize h.shutAll = h at hy hb hr
  simp only [s31, W_seq, W_ops]
  refine ops_box (cs := [fv, vv, sv]) (by omega) rfl hy.one fun h1 hx => ?_
  have hy := hy.mono hx.sub
  have hb := Cells.mono hb hx.sub
  have hr1 : h1.next + 10 < far := by rw [hx.next]; omega
  have hsz := hY.sz
  simp only [W_skip, W_ret, W_exit, W_seq, W_block, then_norm', then_exit', then_ret', block_norm', block_ret', block_exit', W_cond, cond_true', cond_false', W_ops, ops_nil, ops_cons, ops_guard, step_some, g_tt, g_tf, g_ft, g_ff, put_some, put_none, upd_ite, val_tmp, fr0_zero, fr0_succ, ret_ret, ret_norm, res_tmp, ex_some, val_const, val_func, vals_nil, vals_cons, d_nil, d_free, d_rd1, d_rd, d_up, d_any, same_some, up_some, all_reads, Sub.refl, x_mov, x_pick, pick_t, pick_f, x_field1, x_fieldN, x_extract, x_box, x_alloc, x_load1, x_loadN, withH_some', x_store, x_mkfunc, x_mkslice, x_slice, x_fieldAddr, fieldAt_p, x_idxArr, x_idxSl, x_append, x_there, x_len, len_slice, x_not, not_bool, x_call, x_int2, i_add, i_sub, i_mul, i_eql, i_neq, i_lss, i_leq, i_gtr, i_geq, x_plain, p_min, p_max, p_rem, p_quo, r_min, r_max, p_shl, p_or, p_and, p_andNot, eqV_i, x_bslice, x_build, res_cellN, res_cell1, valN_tmp, valN_const, if_true, if_false, Nat.le_refl, true_and, and_true, decide_true, decide_false, Bool.not_true, Bool.not_false, reduceIte, Nat.reduceEqDiff, Nat.reduceAdd, Nat.reduceMul, Nat.reduceSub, Nat.reduceLeDiff, Nat.reduceLT]
  refine W_draw All ?_
  by_cases hB : AreB Y nb b
  · by_cases hR : ∀ k, k < Y.ns → RightB Y b k
    · have ht : IsTr Y nb b := ⟨hB, hR⟩
      have he := (rightN_full Y b Y.ns).2 hR
      simp only [W_skip, W_ret, W_exit, W_seq, W_block, then_norm', then_exit', then_ret', block_norm', block_ret', block_exit', W_cond, cond_true', cond_false', W_ops, ops_nil, ops_cons, ops_guard, step_some, g_tt, g_tf, g_ft, g_ff, put_some, put_none, upd_ite, val_tmp, fr0_zero, fr0_succ, ret_ret, ret_norm, res_tmp, ex_some, val_const, val_func, vals_nil, vals_cons, d_nil, d_free, d_rd1, d_rd, d_up, d_any, same_some, up_some, all_reads, Sub.refl, x_mov, x_pick, pick_t, pick_f, x_field1, x_fieldN, x_extract, x_box, x_alloc, x_load1, x_loadN, withH_some', x_store, x_mkfunc, x_mkslice, x_slice, x_fieldAddr, fieldAt_p, x_idxArr, x_idxSl, x_append, x_there, x_len, len_slice, x_not, not_bool, x_call, x_int2, i_add, i_sub, i_mul, i_eql, i_neq, i_lss, i_leq, i_gtr, i_geq, x_plain, p_min, p_max, p_rem, p_quo, r_min, r_max, p_shl, p_or, p_and, p_andNot, eqV_i, x_bslice, x_build, res_cellN, res_cell1, valN_tmp, valN_const, if_true, if_false, Nat.le_refl, true_and, and_true, decide_true, decide_false, Bool.not_true, Bool.not_false, reduceIte, Nat.reduceEqDiff, Nat.reduceAdd, Nat.reduceMul, Nat.reduceSub, Nat.reduceLeDiff, Nat.reduceLT, hx.ldN 0 3 (by simp) (by simp), List.drop_zero, List.take_succ_cons, List.take_zero, areBlues_c (n := n) (by omega) (by omega) hy hb hl, hB, d_g (b := true), right_c (n := n) (by omega) hr1 hy hb hY hB, hy.self, full_c (n := n) (by omega) (by omega) hy hsz.2.2, he, ht]
    · have ht : ¬ IsTr Y nb b := fun h => hR h.2
      have he : ¬ ((rightN Y b Y.ns : Nat) : Int) = ((2 ^ Y.ns - 1 : Nat) : Int) := fun e => hR ((rightN_full Y b Y.ns).1 (by omega))
      simp only [W_skip, W_ret, W_exit, W_seq, W_block, then_norm', then_exit', then_ret', block_norm', block_ret', block_exit', W_cond, cond_true', cond_false', W_ops, ops_nil, ops_cons, ops_guard, step_some, g_tt, g_tf, g_ft, g_ff, put_some, put_none, upd_ite, val_tmp, fr0_zero, fr0_succ, ret_ret, ret_norm, res_tmp, ex_some, val_const, val_func, vals_nil, vals_cons, d_nil, d_free, d_rd1, d_rd, d_up, d_any, same_some, up_some, all_reads, Sub.refl, x_mov, x_pick, pick_t, pick_f, x_field1, x_fieldN, x_extract, x_box, x_alloc, x_load1, x_loadN, withH_some', x_store, x_mkfunc, x_mkslice, x_slice, x_fieldAddr, fieldAt_p, x_idxArr, x_idxSl, x_append, x_there, x_len, len_slice, x_not, not_bool, x_call, x_int2, i_add, i_sub, i_mul, i_eql, i_neq, i_lss, i_leq, i_gtr, i_geq, x_plain, p_min, p_max, p_rem, p_quo, r_min, r_max, p_shl, p_or, p_and, p_andNot, eqV_i, x_bslice, x_build, res_cellN, res_cell1, valN_tmp, valN_const, if_true, if_false, Nat.le_refl, true_and, and_true, decide_true, decide_false, Bool.not_true, Bool.not_false, reduceIte, Nat.reduceEqDiff, Nat.reduceAdd, Nat.reduceMul, Nat.reduceSub, Nat.reduceLeDiff, Nat.reduceLT, hx.ldN 0 3 (by simp) (by simp), List.drop_zero, List.take_succ_cons, List.take_zero, areBlues_c (n := n) (by omega) (by omega) hy hb hl, hB, d_g (b := true), right_c (n := n) (by omega) hr1 hy hb hY hB, hy.self, full_c (n := n) (by omega) (by omega) hy hsz.2.2, he, ht]
  · have ht : ¬ IsTr Y nb b := fun h => hB h.1
    simp only [W_skip, W_ret, W_exit, W_seq, W_block, then_norm', then_exit', then_ret', block_norm', block_ret', block_exit', W_cond, cond_true', cond_false', W_ops, ops_nil, ops_cons, ops_guard, step_some, g_tt, g_tf, g_ft, g_ff, put_some, put_none, upd_ite, val_tmp, fr0_zero, fr0_succ, ret_ret, ret_norm, res_tmp, ex_some, val_const, val_func, vals_nil, vals_cons, d_nil, d_free, d_rd1, d_rd, d_up, d_any, same_some, up_some, all_reads, Sub.refl, x_mov, x_pick, pick_t, pick_f, x_field1, x_fieldN, x_extract, x_box, x_alloc, x_load1, x_loadN, withH_some', x_store, x_mkfunc, x_mkslice, x_slice, x_fieldAddr, fieldAt_p, x_idxArr, x_idxSl, x_append, x_there, x_len, len_slice, x_not, not_bool, x_call, x_int2, i_add, i_sub, i_mul, i_eql, i_neq, i_lss, i_leq, i_gtr, i_geq, x_plain, p_min, p_max, p_rem, p_quo, r_min, r_max, p_shl, p_or, p_and, p_andNot, eqV_i, x_bslice, x_build, res_cellN, res_cell1, valN_tmp, valN_const, if_true, if_false, Nat.le_refl, true_and, and_true, decide_true, decide_false, Bool.not_true, Bool.not_false, reduceIte, Nat.reduceEqDiff, Nat.reduceAdd, Nat.reduceMul, Nat.reduceSub, Nat.reduceLeDiff, Nat.reduceLT, hx.ldN 0 3 (by simp) (by simp), List.drop_zero, List.take_succ_cons, List.take_zero, areBlues_c (n := n) (by omega) (by omega) hy hb hl, hB, d_g (b := false), Bool.false_eq_true, ht]

def s29 : SCode := (.seq (.ops [⟨(some 1), none, .box (T 0)⟩, ⟨(some 2), none, .mov (.const (.int .i64 (0)))⟩]) (.seq (.ops [⟨(some 3), none, .loadN 3 (T 1)⟩, ⟨(some 4), none, .call (.func 80) [(T 3)]⟩, ⟨(some 2), none, .mov (T 4)⟩]) .ret))
theorem fok29 : FnOk Try.prog 29 5 s29 [.tmp 2] := ⟨Try.f29, _, Try.func29, rfl, Try.ntmps29, by kernel_rfl, by kernel_rfl⟩
theorem faultL_c (hn : 10004 ≤ n) (hr : h.next + 21 < far) {fv vv sv : Value} {Y : MY} (hy : YardR h fv vv sv Y) :
    call n (.func (.func 29) #[] #[]) [.agg ⟨[fv, vv, sv]⟩] h = some (.int .i64 (faultN Y), h) := by
  obtain ⟨n, rfl⟩ : ∃ p, n = p + 1 := ⟨n - 1, by omega⟩
  refine call_plain0 fok29 rfl rfl (by simp) rfl ?_
  have hy := hy.shut
  have hr : h.shutAll.next + 21 < far := hr
  generalize h.shutAll = h at hy hr
  simp only [s29, W_seq, W_ops]
  refine ops_box (cs := [fv, vv, sv]) (by omega) rfl hy.one fun h1 hx => ?_
  have hy := hy.mono hx.sub
  have hr1 : h1.next + 20 < far := by rw [hx.next]; omega
  simp only [W_skip, W_ret, W_exit, W_seq, W_block, then_norm', then_exit', then_ret', block_norm', block_ret', block_exit', W_cond, cond_true', cond_false', W_ops, ops_nil, ops_cons, ops_guard, step_some, g_tt, g_tf, g_ft, g_ff, put_some, put_none, upd_ite, val_tmp, fr0_zero, fr0_succ, ret_ret, ret_norm, res_tmp, ex_some, val_const, val_func, vals_nil, vals_cons, d_nil, d_free, d_rd1, d_rd, d_up, d_any, same_some, up_some, all_reads, Sub.refl, x_mov, x_pick, pick_t, pick_f, x_field1, x_fieldN, x_extract, x_box, x_alloc, x_load1, x_loadN, withH_some', x_store, x_mkfunc, x_mkslice, x_slice, x_fieldAddr, fieldAt_p, x_idxArr, x_idxSl, x_append, x_there, x_len, len_slice, x_not, not_bool, x_call, x_int2, i_add, i_sub, i_mul, i_eql, i_neq, i_lss, i_leq, i_gtr, i_geq, x_plain, p_min, p_max, p_rem, p_quo, r_min, r_max, p_shl, p_or, p_and, p_andNot, eqV_i, x_bslice, x_build, res_cellN, res_cell1, valN_tmp, valN_const, if_true, if_false, Nat.le_refl, true_and, and_true, decide_true, decide_false, Bool.not_true, Bool.not_false, reduceIte, Nat.reduceEqDiff, Nat.reduceAdd, Nat.reduceMul, Nat.reduceSub, Nat.reduceLeDiff, Nat.reduceLT, hx.ldN 0 3 (by simp) (by simp), List.drop_zero, List.take_succ_cons, List.take_zero, fault_c (n := n) (by omega) hr1 hy]

/-- the lists are short -/
def Thin (Y : MY) : Prop := Y.nf ≤ 30 ∧ Y.nv ≤ 30 ∧ Y.ns ≤ 30 ∧ ∀ v, v < Y.nv → Y.cnt v ≤ 30
noncomputable instance (Y : MY) : Decidable (Thin Y) := Classical.propDecidable _
def s23 : SCode := (.seq (.ops [⟨(some 1), none, .box (T 0)⟩, ⟨(some 2), none, .mov (.const (.bool false))⟩]) (.seq (.seq (.ops [⟨(some 4), none, .fieldAddr 0 (T 1)⟩, ⟨(some 5), none, .load1 (T 4)⟩, ⟨(some 6), none, .len (T 5)⟩, ⟨(some 7), none, .int2 .gtr (T 6) (.const (.int .i64 (30)))⟩, ⟨(some 8), none, .mov (T 7)⟩, ⟨(some 9), (some (8, false)), .fieldAddr 1 (T 1)⟩, ⟨(some 10), (some (8, false)), .load1 (T 9)⟩, ⟨(some 11), (some (8, false)), .len (T 10)⟩, ⟨(some 12), (some (8, false)), .int2 .gtr (T 11) (.const (.int .i64 (30)))⟩, ⟨(some 13), none, .pick (T 8) (.const (.bool true)) (T 12)⟩, ⟨(some 14), none, .mov (T 13)⟩, ⟨(some 15), (some (14, false)), .fieldAddr 2 (T 1)⟩, ⟨(some 16), (some (14, false)), .load1 (T 15)⟩, ⟨(some 17), (some (14, false)), .len (T 16)⟩, ⟨(some 18), (some (14, false)), .int2 .gtr (T 17) (.const (.int .i64 (30)))⟩, ⟨(some 19), none, .pick (T 14) (.const (.bool true)) (T 18)⟩]) (.cond (T 19) (.seq (.ops [⟨(some 2), none, .mov (.const (.bool false))⟩]) .ret) .skip)) (.seq (.seq (.ops [⟨(some 3), none, .mov (.const (.int .i64 (0)))⟩]) (.block 0 (.loop (.seq (.seq (.ops [⟨(some 20), none, .mov (T 3)⟩, ⟨(some 21), none, .fieldAddr 1 (T 1)⟩, ⟨(some 22), none, .load1 (T 21)⟩, ⟨(some 23), none, .len (T 22)⟩, ⟨(some 24), none, .int2 .lss (T 20) (T 23)⟩]) (.cond (T 24) .skip (.exit 0))) (.seq (.block 1 (.seq (.ops [⟨(some 27), none, .fieldAddr 1 (T 1)⟩, ⟨(some 28), none, .load1 (T 27)⟩, ⟨(some 29), none, .mov (T 3)⟩, ⟨(some 30), none, .idxSl 1 (T 28) (T 29)⟩, ⟨(some 31), none, .load1 (T 30)⟩, ⟨(some 32), none, .len (T 31)⟩, ⟨(some 33), none, .int2 .gtr (T 32) (.const (.int .i64 (30)))⟩]) (.cond (T 33) (.seq (.ops [⟨(some 2), none, .mov (.const (.bool false))⟩]) .ret) .skip))) (.ops [⟨(some 25), none, .mov (T 3)⟩, ⟨(some 26), none, .int2 .add (T 25) (.const (.int .i64 (1)))⟩, ⟨(some 3), none, .mov (T 26)⟩])))))) (.seq (.ops [⟨(some 2), none, .mov (.const (.bool true))⟩]) .ret))))
theorem fok23 : FnOk Try.prog 23 34 s23 [.tmp 2] := ⟨Try.f23, _, Try.func23, rfl, Try.ntmps23, by kernel_rfl, by kernel_rfl⟩
theorem thin_c (hn : 10001 ≤ n) (hr : h.next + 1 < far) {fv vv sv : Value} {Y : MY} (hy : YardR h fv vv sv Y) :
    call n (.func (.func 23) #[] #[]) [.agg ⟨[fv, vv, sv]⟩] h = some (.bool (decide (Thin Y)), h) := by
  obtain ⟨n, rfl⟩ : ∃ p, n = p + 1 := ⟨n - 1, by omega⟩
  refine call_plain0 fok23 rfl rfl (by simp) rfl ?_
  have hy := hy.shut
  have hr : h.shutAll.next + 1 < far := hr
  generalize h.shutAll = h at hy hr
  simp only [s23, W_seq, W_ops]
  refine ops_box (cs := [fv, vv, sv]) (by omega) rfl hy.one fun h1 hx => ?_
  have hy := hy.mono hx.sub
  obtain ⟨r, hrw, hq⟩ := hy.v
  by_cases c1 : 30 < Y.nf
  · have c1' : (30 : Int) < Y.nf := by omega
    have ht : ¬ Thin Y := fun h => by have := h.1; omega
    simp only [W_skip, W_ret, W_exit, W_seq, W_block, then_norm', then_exit', then_ret', block_norm', block_ret', block_exit', W_cond, cond_true', cond_false', W_ops, ops_nil, ops_cons, ops_guard, step_some, g_tt, g_tf, g_ft, g_ff, put_some, put_none, upd_ite, val_tmp, fr0_zero, fr0_succ, ret_ret, ret_norm, res_tmp, ex_some, val_const, val_func, vals_nil, vals_cons, d_nil, d_free, d_rd1, d_rd, d_up, d_any, same_some, up_some, all_reads, Sub.refl, x_mov, x_pick, pick_t, pick_f, x_field1, x_fieldN, x_extract, x_box, x_alloc, x_load1, x_loadN, withH_some', x_store, x_mkfunc, x_mkslice, x_slice, x_fieldAddr, fieldAt_p, x_idxArr, x_idxSl, x_append, x_there, x_len, len_slice, x_not, not_bool, x_call, x_int2, i_add, i_sub, i_mul, i_eql, i_neq, i_lss, i_leq, i_gtr, i_geq, x_plain, p_min, p_max, p_rem, p_quo, r_min, r_max, p_shl, p_or, p_and, p_andNot, eqV_i, x_bslice, x_build, res_cellN, res_cell1, valN_tmp, valN_const, if_true, if_false, Nat.le_refl, true_and, and_true, decide_true, decide_false, Bool.not_true, Bool.not_false, reduceIte, Nat.reduceEqDiff, Nat.reduceAdd, Nat.reduceMul, Nat.reduceSub, Nat.reduceLeDiff, Nat.reduceLT, hx.ld, Nat.zero_add, List.getElem?_cons_zero, List.getElem?_cons_succ, Cells.len hy.f, Cells.len hrw, Cells.len hy.s, c1', ht]
  have c1' : ¬ (30 : Int) < Y.nf := by omega
  by_cases c2 : 30 < Y.nv
  · have c2' : (30 : Int) < Y.nv := by omega
    have ht : ¬ Thin Y := fun h => by have := h.2.1; omega
    simp only [W_skip, W_ret, W_exit, W_seq, W_block, then_norm', then_exit', then_ret', block_norm', block_ret', block_exit', W_cond, cond_true', cond_false', W_ops, ops_nil, ops_cons, ops_guard, step_some, g_tt, g_tf, g_ft, g_ff, put_some, put_none, upd_ite, val_tmp, fr0_zero, fr0_succ, ret_ret, ret_norm, res_tmp, ex_some, val_const, val_func, vals_nil, vals_cons, d_nil, d_free, d_rd1, d_rd, d_up, d_any, same_some, up_some, all_reads, Sub.refl, x_mov, x_pick, pick_t, pick_f, x_field1, x_fieldN, x_extract, x_box, x_alloc, x_load1, x_loadN, withH_some', x_store, x_mkfunc, x_mkslice, x_slice, x_fieldAddr, fieldAt_p, x_idxArr, x_idxSl, x_append, x_there, x_len, len_slice, x_not, not_bool, x_call, x_int2, i_add, i_sub, i_mul, i_eql, i_neq, i_lss, i_leq, i_gtr, i_geq, x_plain, p_min, p_max, p_rem, p_quo, r_min, r_max, p_shl, p_or, p_and, p_andNot, eqV_i, x_bslice, x_build, res_cellN, res_cell1, valN_tmp, valN_const, if_true, if_false, Nat.le_refl, true_and, and_true, decide_true, decide_false, Bool.not_true, Bool.not_false, reduceIte, Nat.reduceEqDiff, Nat.reduceAdd, Nat.reduceMul, Nat.reduceSub, Nat.reduceLeDiff, Nat.reduceLT, hx.ld, Nat.zero_add, List.getElem?_cons_zero, List.getElem?_cons_succ, Cells.len hy.f, Cells.len hrw, Cells.len hy.s, c1', c2', ht]
  have c2' : ¬ (30 : Int) < Y.nv := by omega
  by_cases c3 : 30 < Y.ns
  · have c3' : (30 : Int) < Y.ns := by omega
    have ht : ¬ Thin Y := fun h => by have := h.2.2.1; omega
    simp only [W_skip, W_ret, W_exit, W_seq, W_block, then_norm', then_exit', then_ret', block_norm', block_ret', block_exit', W_cond, cond_true', cond_false', W_ops, ops_nil, ops_cons, ops_guard, step_some, g_tt, g_tf, g_ft, g_ff, put_some, put_none, upd_ite, val_tmp, fr0_zero, fr0_succ, ret_ret, ret_norm, res_tmp, ex_some, val_const, val_func, vals_nil, vals_cons, d_nil, d_free, d_rd1, d_rd, d_up, d_any, same_some, up_some, all_reads, Sub.refl, x_mov, x_pick, pick_t, pick_f, x_field1, x_fieldN, x_extract, x_box, x_alloc, x_load1, x_loadN, withH_some', x_store, x_mkfunc, x_mkslice, x_slice, x_fieldAddr, fieldAt_p, x_idxArr, x_idxSl, x_append, x_there, x_len, len_slice, x_not, not_bool, x_call, x_int2, i_add, i_sub, i_mul, i_eql, i_neq, i_lss, i_leq, i_gtr, i_geq, x_plain, p_min, p_max, p_rem, p_quo, r_min, r_max, p_shl, p_or, p_and, p_andNot, eqV_i, x_bslice, x_build, res_cellN, res_cell1, valN_tmp, valN_const, if_true, if_false, Nat.le_refl, true_and, and_true, decide_true, decide_false, Bool.not_true, Bool.not_false, reduceIte, Nat.reduceEqDiff, Nat.reduceAdd, Nat.reduceMul, Nat.reduceSub, Nat.reduceLeDiff, Nat.reduceLT, hx.ld, Nat.zero_add, List.getElem?_cons_zero, List.getElem?_cons_succ, Cells.len hy.f, Cells.len hrw, Cells.len hy.s, c1', c2', c3', ht]
  have c3' : ¬ (30 : Int) < Y.ns := by omega
  simp only [W_skip, W_ret, W_exit, W_seq, W_block, then_norm', then_exit', then_ret', block_norm', block_ret', block_exit', W_cond, cond_true', cond_false', W_ops, ops_nil, ops_cons, ops_guard, step_some, g_tt, g_tf, g_ft, g_ff, put_some, put_none, upd_ite, val_tmp, fr0_zero, fr0_succ, ret_ret, ret_norm, res_tmp, ex_some, val_const, val_func, vals_nil, vals_cons, d_nil, d_free, d_rd1, d_rd, d_up, d_any, same_some, up_some, all_reads, Sub.refl, x_mov, x_pick, pick_t, pick_f, x_field1, x_fieldN, x_extract, x_box, x_alloc, x_load1, x_loadN, withH_some', x_store, x_mkfunc, x_mkslice, x_slice, x_fieldAddr, fieldAt_p, x_idxArr, x_idxSl, x_append, x_there, x_len, len_slice, x_not, not_bool, x_call, x_int2, i_add, i_sub, i_mul, i_eql, i_neq, i_lss, i_leq, i_gtr, i_geq, x_plain, p_min, p_max, p_rem, p_quo, r_min, r_max, p_shl, p_or, p_and, p_andNot, eqV_i, x_bslice, x_build, res_cellN, res_cell1, valN_tmp, valN_const, if_true, if_false, Nat.le_refl, true_and, and_true, decide_true, decide_false, Bool.not_true, Bool.not_false, reduceIte, Nat.reduceEqDiff, Nat.reduceAdd, Nat.reduceMul, Nat.reduceSub, Nat.reduceLeDiff, Nat.reduceLT, hx.ld, Nat.zero_add, List.getElem?_cons_zero, List.getElem?_cons_succ, Cells.len hy.f, Cells.len hrw, Cells.len hy.s, c1', c2', c3']
  refine W_loop Y.nv (fun k f h' m => h' = h1 ∧ m = [] ∧ f 1 = .pointer (some ⟨h.next, 0, none⟩) ∧ f 3 = .int .i64 (k : Int) ∧ ∀ v, v < k → Y.cnt v ≤ 30) (by simp; omega) ?_ ?_ ?_
  · simp only [W_skip, W_ret, W_exit, W_seq, W_block, then_norm', then_exit', then_ret', block_norm', block_ret', block_exit', W_cond, cond_true', cond_false', W_ops, ops_nil, ops_cons, ops_guard, step_some, g_tt, g_tf, g_ft, g_ff, put_some, put_none, upd_ite, val_tmp, fr0_zero, fr0_succ, ret_ret, ret_norm, res_tmp, ex_some, val_const, val_func, vals_nil, vals_cons, d_nil, d_free, d_rd1, d_rd, d_up, d_any, same_some, up_some, all_reads, Sub.refl, x_mov, x_pick, pick_t, pick_f, x_field1, x_fieldN, x_extract, x_box, x_alloc, x_load1, x_loadN, withH_some', x_store, x_mkfunc, x_mkslice, x_slice, x_fieldAddr, fieldAt_p, x_idxArr, x_idxSl, x_append, x_there, x_len, len_slice, x_not, not_bool, x_call, x_int2, i_add, i_sub, i_mul, i_eql, i_neq, i_lss, i_leq, i_gtr, i_geq, x_plain, p_min, p_max, p_rem, p_quo, r_min, r_max, p_shl, p_or, p_and, p_andNot, eqV_i, x_bslice, x_build, res_cellN, res_cell1, valN_tmp, valN_const, if_true, if_false, Nat.le_refl, true_and, and_true, decide_true, decide_false, Bool.not_true, Bool.not_false, reduceIte, Nat.reduceEqDiff, Nat.reduceAdd, Nat.reduceMul, Nat.reduceSub, Nat.reduceLeDiff, Nat.reduceLT, Nat.not_lt_zero, false_implies, implies_true]
    trivial
  · rintro k f h' m hk ⟨rfl, rfl, f1, f3, hlt⟩
    have hk' : (k : Int) < (Y.nv : Int) := by omega
    have hw : wrapF .i64 ((k : Int) + 1) = ((k + 1 : Nat) : Int) := by rw [wrap_in (by omega) (by omega)]; rfl
    by_cases hc : 30 < Y.cnt k
    · have hc' : (30 : Int) < Y.cnt k := by omega
      have ht : ¬ Thin Y := fun h => by have := h.2.2.2 k hk; omega
      simp only [W_skip, W_ret, W_exit, W_seq, W_block, then_norm', then_exit', then_ret', block_norm', block_ret', block_exit', W_cond, cond_true', cond_false', W_ops, ops_nil, ops_cons, ops_guard, step_some, g_tt, g_tf, g_ft, g_ff, put_some, put_none, upd_ite, val_tmp, fr0_zero, fr0_succ, ret_ret, ret_norm, res_tmp, ex_some, val_const, val_func, vals_nil, vals_cons, d_nil, d_free, d_rd1, d_rd, d_up, d_any, same_some, up_some, all_reads, Sub.refl, x_mov, x_pick, pick_t, pick_f, x_field1, x_fieldN, x_extract, x_box, x_alloc, x_load1, x_loadN, withH_some', x_store, x_mkfunc, x_mkslice, x_slice, x_fieldAddr, fieldAt_p, x_idxArr, x_idxSl, x_append, x_there, x_len, len_slice, x_not, not_bool, x_call, x_int2, i_add, i_sub, i_mul, i_eql, i_neq, i_lss, i_leq, i_gtr, i_geq, x_plain, p_min, p_max, p_rem, p_quo, r_min, r_max, p_shl, p_or, p_and, p_andNot, eqV_i, x_bslice, x_build, res_cellN, res_cell1, valN_tmp, valN_const, if_true, if_false, Nat.le_refl, true_and, and_true, decide_true, decide_false, Bool.not_true, Bool.not_false, reduceIte, Nat.reduceEqDiff, Nat.reduceAdd, Nat.reduceMul, Nat.reduceSub, Nat.reduceLeDiff, Nat.reduceLT, f1, f3, hx.ld, Nat.zero_add, List.getElem?_cons_zero, List.getElem?_cons_succ, Cells.len hrw, hk', Cells.idx hrw hk, Cells.ld hrw hk Nat.zero_lt_one, Cells.len (hq k hk), hc', ht]
    · have hc' : ¬ (30 : Int) < Y.cnt k := by omega
      simp only [W_skip, W_ret, W_exit, W_seq, W_block, then_norm', then_exit', then_ret', block_norm', block_ret', block_exit', W_cond, cond_true', cond_false', W_ops, ops_nil, ops_cons, ops_guard, step_some, g_tt, g_tf, g_ft, g_ff, put_some, put_none, upd_ite, val_tmp, fr0_zero, fr0_succ, ret_ret, ret_norm, res_tmp, ex_some, val_const, val_func, vals_nil, vals_cons, d_nil, d_free, d_rd1, d_rd, d_up, d_any, same_some, up_some, all_reads, Sub.refl, x_mov, x_pick, pick_t, pick_f, x_field1, x_fieldN, x_extract, x_box, x_alloc, x_load1, x_loadN, withH_some', x_store, x_mkfunc, x_mkslice, x_slice, x_fieldAddr, fieldAt_p, x_idxArr, x_idxSl, x_append, x_there, x_len, len_slice, x_not, not_bool, x_call, x_int2, i_add, i_sub, i_mul, i_eql, i_neq, i_lss, i_leq, i_gtr, i_geq, x_plain, p_min, p_max, p_rem, p_quo, r_min, r_max, p_shl, p_or, p_and, p_andNot, eqV_i, x_bslice, x_build, res_cellN, res_cell1, valN_tmp, valN_const, if_true, if_false, Nat.le_refl, true_and, and_true, decide_true, decide_false, Bool.not_true, Bool.not_false, reduceIte, Nat.reduceEqDiff, Nat.reduceAdd, Nat.reduceMul, Nat.reduceSub, Nat.reduceLeDiff, Nat.reduceLT, f1, f3, hx.ld, Nat.zero_add, List.getElem?_cons_zero, List.getElem?_cons_succ, Cells.len hrw, hk', Cells.idx hrw hk, Cells.ld hrw hk Nat.zero_lt_one, Cells.len (hq k hk), hc', hw]
      intro j hj
      by_cases e : j = k
      · subst e; omega
      · exact hlt j (by omega)
  · rintro f h' m ⟨rfl, rfl, f1, f3, hlt⟩
    have ht : Thin Y := ⟨by omega, by omega, by omega, hlt⟩
    simp only [W_skip, W_ret, W_exit, W_seq, W_block, then_norm', then_exit', then_ret', block_norm', block_ret', block_exit', W_cond, cond_true', cond_false', W_ops, ops_nil, ops_cons, ops_guard, step_some, g_tt, g_tf, g_ft, g_ff, put_some, put_none, upd_ite, val_tmp, fr0_zero, fr0_succ, ret_ret, ret_norm, res_tmp, ex_some, val_const, val_func, vals_nil, vals_cons, d_nil, d_free, d_rd1, d_rd, d_up, d_any, same_some, up_some, all_reads, Sub.refl, x_mov, x_pick, pick_t, pick_f, x_field1, x_fieldN, x_extract, x_box, x_alloc, x_load1, x_loadN, withH_some', x_store, x_mkfunc, x_mkslice, x_slice, x_fieldAddr, fieldAt_p, x_idxArr, x_idxSl, x_append, x_there, x_len, len_slice, x_not, not_bool, x_call, x_int2, i_add, i_sub, i_mul, i_eql, i_neq, i_lss, i_leq, i_gtr, i_geq, x_plain, p_min, p_max, p_rem, p_quo, r_min, r_max, p_shl, p_or, p_and, p_andNot, eqV_i, x_bslice, x_build, res_cellN, res_cell1, valN_tmp, valN_const, if_true, if_false, Nat.le_refl, true_and, and_true, decide_true, decide_false, Bool.not_true, Bool.not_false, reduceIte, Nat.reduceEqDiff, Nat.reduceAdd, Nat.reduceMul, Nat.reduceSub, Nat.reduceLeDiff, Nat.reduceLT, f1, f3, hx.ld, Nat.zero_add, List.getElem?_cons_zero, List.getElem?_cons_succ, Cells.len hrw, Int.lt_irrefl, ht]
end Go.Vm.Vat

namespace Go.Vm.Vat
open Go.Proofs
set_option linter.unusedSimpArgs false
set_option linter.unusedVariables false
set_option maxRecDepth 10000
variable {n : Nat} {h : AHeap}

theorem build_range {x y : Int} : buildA (fun x => (#[(0, 1), (1, 1)] : Array (Nat × Nat))[x]?) ⟨[.int .i64 0, .int .i64 0]⟩ [0, 1] h [.int .i64 x, .int .i64 y] = some (.agg ⟨[.int .i64 x, .int .i64 y]⟩, h) := id rfl
def s37 : SCode := (.seq (.ops [⟨(some 1), none, .box (T 0)⟩, ⟨(some 2), none, .alloc [(.int .i64 (0)), (.int .i64 (0))]⟩]) (.seq (.ops [⟨(some 3), none, .fieldAddr 0 (T 1)⟩, ⟨(some 4), none, .load1 (T 3)⟩, ⟨(some 5), none, .fieldAddr 1 (T 1)⟩, ⟨(some 6), none, .load1 (T 5)⟩, ⟨(some 7), none, .build #[(0, 1), (1, 1)] [(.int .i64 (0)), (.int .i64 (0))] [0, 1] [(T 4), (T 6)]⟩, ⟨none, none, .store 2 (T 2) (T 7)⟩]) .ret))
theorem fok37 : FnOk Try.prog 37 8 s37 [.cellN 2 2] := ⟨Try.f37, _, Try.func37, rfl, Try.ntmps37, by kernel_rfl, by kernel_rfl⟩
theorem to_c (hn : 1 ≤ n) (hr : h.next + 2 < far) (lo hi : Int) : call n (.func (.func 37) #[] #[]) [.agg ⟨[.int .i64 lo, .int .i64 hi]⟩] h = some (.agg ⟨[.int .i64 lo, .int .i64 hi]⟩, h) := by
  obtain ⟨n, rfl⟩ : ∃ p, n = p + 1 := ⟨n - 1, by omega⟩
  refine call_plain0 fok37 rfl rfl (by simp) rfl ?_
  have hr : h.shutAll.next + 2 < far := hr
  have hfl : h.shutAll.floor ≤ h.shutAll.next := Nat.le_refl _
  generalize h.shutAll = h at hr hfl
  simp only [s37, W_seq, W_ops]
  refine ops_box (cs := [.int .i64 lo, .int .i64 hi]) (by omega) rfl rfl fun h1 hx => ?_
  refine ops_alloc (by rw [hx.next]; omega) rfl fun h2 hx2 => ?_
  have hrow := hx.row.mono hx2.sub
  have hr2 : h2.next ≤ far := by rw [hx2.next, hx.next]; omega
  have hf2 : h2.floor ≤ h1.next := by rw [hx2.floor, hx.floor, hx.next]; omega
  simp only [W_skip, W_ret, W_exit, W_seq, W_block, then_norm', then_exit', then_ret', block_norm', block_ret', block_exit', W_cond, cond_true', cond_false', W_ops, ops_nil, ops_cons, ops_guard, step_some, g_tt, g_tf, g_ft, g_ff, put_some, put_none, upd_ite, val_tmp, fr0_zero, fr0_succ, ret_ret, ret_norm, res_tmp, ex_some, val_const, val_func, vals_nil, vals_cons, d_nil, d_free, d_rd1, d_rd, d_up, d_any, same_some, up_some, all_reads, Sub.refl, x_mov, x_pick, pick_t, pick_f, x_field1, x_fieldN, x_extract, x_box, x_alloc, x_load1, x_loadN, withH_some', x_store, x_mkfunc, x_mkslice, x_slice, x_fieldAddr, fieldAt_p, x_idxArr, x_idxSl, x_append, x_there, x_len, len_slice, x_not, not_bool, x_call, x_int2, i_add, i_sub, i_mul, i_eql, i_neq, i_lss, i_leq, i_gtr, i_geq, x_plain, p_min, p_max, p_rem, p_quo, r_min, r_max, p_shl, p_or, p_and, p_andNot, eqV_i, x_bslice, x_build, res_cellN, res_cell1, valN_tmp, valN_const, if_true, if_false, Nat.le_refl, true_and, and_true, decide_true, decide_false, Bool.not_true, Bool.not_false, reduceIte, Nat.reduceEqDiff, Nat.reduceAdd, Nat.reduceMul, Nat.reduceSub, Nat.reduceLeDiff, Nat.reduceLT, hrow.ld, Nat.zero_add, List.getElem?_cons_zero, List.getElem?_cons_succ, build_range]
  refine step_store (vs := [.int .i64 lo, .int .i64 hi]) rfl hx2.get hf2 hr2 rfl rfl rfl (by simp) fun h3 hs => ?_
  have := hs.row.ldN 0 2 (by simp [splice]) (by simp [splice])
  simp only [W_skip, W_ret, W_exit, W_seq, W_block, then_norm', then_exit', then_ret', block_norm', block_ret', block_exit', W_cond, cond_true', cond_false', W_ops, ops_nil, ops_cons, ops_guard, step_some, g_tt, g_tf, g_ft, g_ff, put_some, put_none, upd_ite, val_tmp, fr0_zero, fr0_succ, ret_ret, ret_norm, res_tmp, ex_some, val_const, val_func, vals_nil, vals_cons, d_nil, d_free, d_rd1, d_rd, d_up, d_any, same_some, up_some, all_reads, Sub.refl, x_mov, x_pick, pick_t, pick_f, x_field1, x_fieldN, x_extract, x_box, x_alloc, x_load1, x_loadN, withH_some', x_store, x_mkfunc, x_mkslice, x_slice, x_fieldAddr, fieldAt_p, x_idxArr, x_idxSl, x_append, x_there, x_len, len_slice, x_not, not_bool, x_call, x_int2, i_add, i_sub, i_mul, i_eql, i_neq, i_lss, i_leq, i_gtr, i_geq, x_plain, p_min, p_max, p_rem, p_quo, r_min, r_max, p_shl, p_or, p_and, p_andNot, eqV_i, x_bslice, x_build, res_cellN, res_cell1, valN_tmp, valN_const, if_true, if_false, Nat.le_refl, true_and, and_true, decide_true, decide_false, Bool.not_true, Bool.not_false, reduceIte, Nat.reduceEqDiff, Nat.reduceAdd, Nat.reduceMul, Nat.reduceSub, Nat.reduceLeDiff, Nat.reduceLT, this, splice, List.take_zero, List.drop_zero, List.nil_append, List.length_cons, List.length_nil, List.drop_succ_cons, List.drop_nil, List.append_nil, List.take_succ_cons]

/-- what a call that makes lists leaves as it was, and where it may be -/
structure Made (h h1 : AHeap) (k : Nat) : Prop where
  sub : Sub All h h1
  next : h1.next ≤ h.next + k
  up : h.next ≤ h1.next
  floor : h1.floor = h.floor
theorem Ints.cells {v : Value} {m : Nat} {a : Nat → Int} (hi : Ints h v m a) : ∃ x k, v = .slice x m k ∧ cellsOfSlice h 1 v = some ((List.range m).map fun i => .int .i64 (a i)) := by
  obtain ⟨x, cap, rfl, _, h0 | ⟨b, o, cs, w, gr, rfl, h1, h2⟩⟩ := hi
  · subst h0
    refine ⟨x, cap, rfl, ?_⟩
    cases x <;> rfl
  · refine ⟨_, cap, rfl, ?_⟩
    by_cases hm : m = 0
    · subst hm; rfl
    have hb : Nat.beq m 0 = false := by
      cases hb : Nat.beq m 0 with
      | false => rfl
      | true => exact absurd (beq_iff.1 hb) hm
    show (bif Nat.beq m 0 then some [] else match h.get b with
      | some (.row cs _ _) => dropK cs o fun r => takeK r (m * 1) fun l => some l
      | _ => none) = _
    have hl := (List.getElem?_eq_some_iff.1 (h2 (m - 1) 0 (by omega) (by omega))).1
    rw [hb, cond_false, h1]
    simp only [dropK_eq, takeK_eq]
    rw [if_pos (by omega), if_pos (by rw [List.length_drop]; omega)]
    congr 1
    apply List.ext_getElem?
    intro i
    simp only [List.getElem?_map, List.getElem?_take, List.getElem?_drop, Nat.mul_one]
    by_cases hi : i < m
    · rw [if_pos hi, List.getElem?_range hi]
      have := h2 i 0 hi (by omega)
      rw [show o + i * 1 + 0 = o + i by omega] at this
      rw [this]; rfl
    · rw [if_neg hi, List.getElem?_eq_none (by simp; omega)]
      rfl
theorem build_none {z : Value} : buildSl 1 0 [z] [] h [] = newSlice h [] 0 0 0 := id rfl
theorem append_none {s bytes b : Nat} {y : Value} {m : Nat} {new : List Value} (hy : ∃ x k, y = .slice x m k) (hyc : cellsOfSlice h s y = some new) (hnl : new.length = m * s) (hb1 : m * bytes ≤ maxBytes) (hb2 : m ≤ maxBytes) :
    appendA s bytes h (.slice (some ⟨b, 0, none⟩) 0 0) y = if m = 0 then some (.slice (some ⟨b, 0, none⟩) 0 0, h) else newSlice h new m unk s := by
  obtain ⟨a, k, rfl⟩ := hy
  have e1 : Nat.ble ((0 + m) * bytes) maxBytes = true := ble_iff.2 (by rw [Nat.zero_add]; exact hb1)
  have e2 : Nat.ble (0 + m) maxBytes = true := ble_iff.2 (by omega)
  have e3 : Nat.beq (len new) (m * s) = true := by rw [len_eq]; exact beq_iff.2 hnl
  unfold appendA
  simp only [hyc, e1, e2, e3, Bool.and_self, cond_true]
  by_cases hm : m = 0
  · subst hm
    rw [if_pos rfl]
    rfl
  · rw [if_neg hm]
    have e4 : Nat.ble (0 + m) 0 = false := by
      cases hb : Nat.ble (0 + m) 0 with
      | false => rfl
      | true => have := ble_iff.1 hb; omega
    rw [e4, Bool.false_and, cond_false]
    unfold appendGrow
    have e5 : cellsOfSlice h s (.slice (some ⟨b, 0, none⟩) 0 0) = some [] := rfl
    have e6 : Nat.blt 0 unk = true := rfl
    simp only [e5, e6, cond_true, app_eq, List.nil_append, Nat.zero_add]
def s27 : SCode := (.seq (.ops [⟨(some 2), none, .mov (.const (.slice none 0 0))⟩]) (.seq (.ops [⟨(some 3), none, .bslice 1 0 [(.int .i64 (0))] [] []⟩, ⟨(some 4), none, .mov (T 0)⟩, ⟨(some 5), none, .append 1 8 (T 3) (T 4)⟩, ⟨(some 2), none, .mov (T 5)⟩]) .ret))
theorem fok27 : FnOk Try.prog 27 6 s27 [.tmp 2] := ⟨Try.f27, _, Try.func27, rfl, Try.ntmps27, by kernel_rfl, by kernel_rfl⟩
theorem list_c (hn : 1 ≤ n) (hr : h.next + 2 < far) {v : Value} {m : Nat} {a : Nat → Int} (hi : Ints h v m a) (hm : m ≤ 30) :
    ∃ v' h', call n (.func (.func 27) #[] #[]) [v] h = some (v', h') ∧ Ints h' v' m a ∧ Made h h' 2 ∧ oneCell v' = true ∧ ∀ a k c, v' = .slice (some a) k c → h.next ≤ a.block ∧ a.block < h'.next := by
  obtain ⟨n, rfl⟩ : ∃ p, n = p + 1 := ⟨n - 1, by omega⟩
  refine call_any0 fok27 rfl rfl (by simp) ?_
  simp only [W_skip, W_ret, W_exit, W_seq, W_block, then_norm', then_exit', then_ret', block_norm', block_ret', block_exit', W_cond, cond_true', cond_false', W_ops, ops_nil, ops_cons, ops_guard, step_some, g_tt, g_tf, g_ft, g_ff, put_some, put_none, upd_ite, val_tmp, fr0_zero, fr0_succ, ret_ret, ret_norm, res_tmp, ex_some, val_const, val_func, vals_nil, vals_cons, d_nil, d_free, d_rd1, d_rd, d_up, d_any, same_some, up_some, all_reads, Sub.refl, x_mov, x_pick, pick_t, pick_f, x_field1, x_fieldN, x_extract, x_box, x_alloc, x_load1, x_loadN, withH_some', x_store, x_mkfunc, x_mkslice, x_slice, x_fieldAddr, fieldAt_p, x_idxArr, x_idxSl, x_append, x_there, x_len, len_slice, x_not, not_bool, x_call, x_int2, i_add, i_sub, i_mul, i_eql, i_neq, i_lss, i_leq, i_gtr, i_geq, x_plain, p_min, p_max, p_rem, p_quo, r_min, r_max, p_shl, p_or, p_and, p_andNot, eqV_i, x_bslice, x_build, res_cellN, res_cell1, valN_tmp, valN_const, if_true, if_false, Nat.le_refl, true_and, and_true, decide_true, decide_false, Bool.not_true, Bool.not_false, reduceIte, Nat.reduceEqDiff, Nat.reduceAdd, Nat.reduceMul, Nat.reduceSub, Nat.reduceLeDiff, Nat.reduceLT, s27, build_none]
  refine step_slice (by omega) rfl fun h1 hx => ?_
  have hi1 := Cells.mono hi hx.sub
  obtain ⟨x, k, e1, e2⟩ := Ints.cells hi1
  have hap := append_none (s := 1) (bytes := 8) (b := h.next) ⟨x, k, e1⟩ e2 (by simp) (by simp [maxBytes]; omega) (by simp [maxBytes]; omega)
  by_cases hz : m = 0
  · rw [if_pos hz] at hap
    simp only [W_skip, W_ret, W_exit, W_seq, W_block, then_norm', then_exit', then_ret', block_norm', block_ret', block_exit', W_cond, cond_true', cond_false', W_ops, ops_nil, ops_cons, ops_guard, step_some, g_tt, g_tf, g_ft, g_ff, put_some, put_none, upd_ite, val_tmp, fr0_zero, fr0_succ, ret_ret, ret_norm, res_tmp, ex_some, val_const, val_func, vals_nil, vals_cons, d_nil, d_free, d_rd1, d_rd, d_up, d_any, same_some, up_some, all_reads, Sub.refl, x_mov, x_pick, pick_t, pick_f, x_field1, x_fieldN, x_extract, x_box, x_alloc, x_load1, x_loadN, withH_some', x_store, x_mkfunc, x_mkslice, x_slice, x_fieldAddr, fieldAt_p, x_idxArr, x_idxSl, x_append, x_there, x_len, len_slice, x_not, not_bool, x_call, x_int2, i_add, i_sub, i_mul, i_eql, i_neq, i_lss, i_leq, i_gtr, i_geq, x_plain, p_min, p_max, p_rem, p_quo, r_min, r_max, p_shl, p_or, p_and, p_andNot, eqV_i, x_bslice, x_build, res_cellN, res_cell1, valN_tmp, valN_const, if_true, if_false, Nat.le_refl, true_and, and_true, decide_true, decide_false, Bool.not_true, Bool.not_false, reduceIte, Nat.reduceEqDiff, Nat.reduceAdd, Nat.reduceMul, Nat.reduceSub, Nat.reduceLeDiff, Nat.reduceLT, hap]
    refine ⟨⟨_, _, by rw [hz], fun x e => by cases e; rfl, .inl hz⟩, ⟨hx.sub, by rw [hx.next]; omega, by rw [hx.next]; omega, hx.floor⟩, rfl, fun a k c e => by cases e; exact ⟨Nat.le_refl _, by rw [hx.next]; exact Nat.lt_succ_self _⟩⟩
  · rw [if_neg hz] at hap
    simp only [W_skip, W_ret, W_exit, W_seq, W_block, then_norm', then_exit', then_ret', block_norm', block_ret', block_exit', W_cond, cond_true', cond_false', W_ops, ops_nil, ops_cons, ops_guard, step_some, g_tt, g_tf, g_ft, g_ff, put_some, put_none, upd_ite, val_tmp, fr0_zero, fr0_succ, ret_ret, ret_norm, res_tmp, ex_some, val_const, val_func, vals_nil, vals_cons, d_nil, d_free, d_rd1, d_rd, d_up, d_any, same_some, up_some, all_reads, Sub.refl, x_mov, x_pick, pick_t, pick_f, x_field1, x_fieldN, x_extract, x_box, x_alloc, x_load1, x_loadN, withH_some', x_store, x_mkfunc, x_mkslice, x_slice, x_fieldAddr, fieldAt_p, x_idxArr, x_idxSl, x_append, x_there, x_len, len_slice, x_not, not_bool, x_call, x_int2, i_add, i_sub, i_mul, i_eql, i_neq, i_lss, i_leq, i_gtr, i_geq, x_plain, p_min, p_max, p_rem, p_quo, r_min, r_max, p_shl, p_or, p_and, p_andNot, eqV_i, x_bslice, x_build, res_cellN, res_cell1, valN_tmp, valN_const, if_true, if_false, Nat.le_refl, true_and, and_true, decide_true, decide_false, Bool.not_true, Bool.not_false, reduceIte, Nat.reduceEqDiff, Nat.reduceAdd, Nat.reduceMul, Nat.reduceSub, Nat.reduceLeDiff, Nat.reduceLT, hap]
    refine step_slice (by rw [hx.next]; omega) (by rw [allB_iff]; intro v hv; obtain ⟨i, _, rfl⟩ := List.mem_map.1 hv; rfl) fun h2 hx2 => ?_
    simp only [W_skip, W_ret, W_exit, W_seq, W_block, then_norm', then_exit', then_ret', block_norm', block_ret', block_exit', W_cond, cond_true', cond_false', W_ops, ops_nil, ops_cons, ops_guard, step_some, g_tt, g_tf, g_ft, g_ff, put_some, put_none, upd_ite, val_tmp, fr0_zero, fr0_succ, ret_ret, ret_norm, res_tmp, ex_some, val_const, val_func, vals_nil, vals_cons, d_nil, d_free, d_rd1, d_rd, d_up, d_any, same_some, up_some, all_reads, Sub.refl, x_mov, x_pick, pick_t, pick_f, x_field1, x_fieldN, x_extract, x_box, x_alloc, x_load1, x_loadN, withH_some', x_store, x_mkfunc, x_mkslice, x_slice, x_fieldAddr, fieldAt_p, x_idxArr, x_idxSl, x_append, x_there, x_len, len_slice, x_not, not_bool, x_call, x_int2, i_add, i_sub, i_mul, i_eql, i_neq, i_lss, i_leq, i_gtr, i_geq, x_plain, p_min, p_max, p_rem, p_quo, r_min, r_max, p_shl, p_or, p_and, p_andNot, eqV_i, x_bslice, x_build, res_cellN, res_cell1, valN_tmp, valN_const, if_true, if_false, Nat.le_refl, true_and, and_true, decide_true, decide_false, Bool.not_true, Bool.not_false, reduceIte, Nat.reduceEqDiff, Nat.reduceAdd, Nat.reduceMul, Nat.reduceSub, Nat.reduceLeDiff, Nat.reduceLT]
    refine ⟨⟨_, _, rfl, fun x e => by cases e; rfl, .inr ⟨_, 0, _, _, _, rfl, hx2.get, fun k j hk hj => ?_⟩⟩, ⟨hx.sub.trans hx2.sub, by rw [hx2.next, hx.next]; omega, by rw [hx2.next, hx.next]; omega, by rw [hx2.floor, hx.floor]⟩, rfl, fun a k c e => by cases e; exact ⟨by show h.next ≤ h1.next; rw [hx.next]; omega, by rw [hx2.next]; exact Nat.lt_succ_self _⟩⟩
    rw [show 0 + k * 1 + j = k by omega, List.getElem?_map, List.getElem?_range hk]
    rfl
end Go.Vm.Vat

namespace Go.Vm.Vat
open Go.Proofs
set_option linter.unusedSimpArgs false
set_option linter.unusedVariables false
set_option maxRecDepth 10000
variable {n : Nat} {h : AHeap}

theorem sl_range {x y : Int} : buildSl 2 1 [.int .i64 0, .int .i64 0] [0] h [.agg ⟨[.int .i64 x, .int .i64 y]⟩] = newSlice h [.int .i64 x, .int .i64 y] 1 1 0 := id rfl
theorem sl_samp {x y z : Int} : buildSl 3 1 [.int .i64 0, .int .i64 0, .int .i64 0] [0] h [.agg ⟨[.int .i64 x, .int .i64 y, .int .i64 z]⟩] = newSlice h [.int .i64 x, .int .i64 y, .int .i64 z] 1 1 0 := id rfl
theorem sl_one {v : Value} (hv : oneCell v = true) : buildSl 1 1 [.slice none 0 0] [0] h [v] = newSlice h [v] 1 1 0 := by
  cases v <;> first | rfl | cases hv
theorem build_samp {x y z : Int} : buildA (fun x => (#[(0, 1), (1, 2)] : Array (Nat × Nat))[x]?) ⟨[.int .i64 0, .int .i64 0, .int .i64 0]⟩ [0, 1] h [.int .i64 x, .agg ⟨[.int .i64 y, .int .i64 z]⟩] = some (.agg ⟨[.int .i64 x, .int .i64 y, .int .i64 z]⟩, h) := id rfl
abbrev nilS : Value := .slice none 0 0
theorem grew {o : Nat} {b g1 g2 : AHeap} {x : Value} {r : AObj} (k : Keep o b g1) (hk : Kept g1 g2 x) (hb : ∀ a k c, x = .slice (some a) k c → b.next ≤ a.block) (ho : o < b.next) (hout : g1.get o = some r) : Keep o b g2 ∧ g2.get o = some r :=
  ⟨hk.keep k hb, by rw [hk.old o (AHeap.lt_of_get hout) fun a k c e => by have := hb a k c e; omega]; exact hout⟩
theorem set_keep {o : Nat} {b g1 g2 : AHeap} {cs : List Value} {gr : Nat} (k : Keep o b g1) (hs : Set1 g1 g2 o cs gr) : Keep o b g2 := k.trans hs.keep

def s26 : SCode := (.seq (.ops [⟨(some 1), none, .box (T 0)⟩, ⟨(some 2), none, .alloc [(.slice none 0 0), (.slice none 0 0), (.slice none 0 0)]⟩]) (.seq (.ops [⟨(some 3), none, .alloc [(.slice none 0 0), (.slice none 0 0), (.slice none 0 0)]⟩]) (.seq (.seq (.ops [⟨(some 4), none, .mov (.const (.int .i64 (0)))⟩]) (.block 0 (.loop (.seq (.seq (.ops [⟨(some 7), none, .mov (T 4)⟩, ⟨(some 8), none, .fieldAddr 0 (T 1)⟩, ⟨(some 9), none, .load1 (T 8)⟩, ⟨(some 10), none, .len (T 9)⟩, ⟨(some 11), none, .int2 .lss (T 7) (T 10)⟩]) (.cond (T 11) .skip (.exit 0))) (.seq (.block 1 (.draw [⟨.free, ⟨(some 14), none, .fieldAddr 0 (T 3)⟩⟩, ⟨.rd, ⟨(some 15), none, .load1 (T 14)⟩⟩, ⟨.free, ⟨(some 16), none, .fieldAddr 0 (T 1)⟩⟩, ⟨.rd1, ⟨(some 17), none, .load1 (T 16)⟩⟩, ⟨.free, ⟨(some 18), none, .mov (T 4)⟩⟩, ⟨.free, ⟨(some 19), none, .idxSl 2 (T 17) (T 18)⟩⟩, ⟨.rd1, ⟨(some 20), none, .loadN 2 (T 19)⟩⟩, ⟨.up, ⟨(some 21), none, .call (.func 37) [(T 20)]⟩⟩, ⟨.up, ⟨(some 22), none, .bslice 2 1 [(.int .i64 (0)), (.int .i64 (0))] [0] [(T 21)]⟩⟩, ⟨.any, ⟨(some 23), none, .append 2 16 (T 15) (T 22)⟩⟩, ⟨.free, ⟨(some 24), none, .fieldAddr 0 (T 3)⟩⟩, ⟨.any, ⟨none, none, .store 1 (T 24) (T 23)⟩⟩])) (.ops [⟨(some 12), none, .mov (T 4)⟩, ⟨(some 13), none, .int2 .add (T 12) (.const (.int .i64 (1)))⟩, ⟨(some 4), none, .mov (T 13)⟩])))))) (.seq (.seq (.ops [⟨(some 5), none, .mov (.const (.int .i64 (0)))⟩]) (.block 2 (.loop (.seq (.seq (.ops [⟨(some 25), none, .mov (T 5)⟩, ⟨(some 26), none, .fieldAddr 1 (T 1)⟩, ⟨(some 27), none, .load1 (T 26)⟩, ⟨(some 28), none, .len (T 27)⟩, ⟨(some 29), none, .int2 .lss (T 25) (T 28)⟩]) (.cond (T 29) .skip (.exit 2))) (.seq (.block 3 (.draw [⟨.free, ⟨(some 32), none, .fieldAddr 1 (T 3)⟩⟩, ⟨.rd, ⟨(some 33), none, .load1 (T 32)⟩⟩, ⟨.free, ⟨(some 34), none, .fieldAddr 1 (T 1)⟩⟩, ⟨.rd1, ⟨(some 35), none, .load1 (T 34)⟩⟩, ⟨.free, ⟨(some 36), none, .mov (T 5)⟩⟩, ⟨.free, ⟨(some 37), none, .idxSl 1 (T 35) (T 36)⟩⟩, ⟨.rd1, ⟨(some 38), none, .load1 (T 37)⟩⟩, ⟨.up, ⟨(some 39), none, .call (.func 27) [(T 38)]⟩⟩, ⟨.up, ⟨(some 40), none, .bslice 1 1 [(.slice none 0 0)] [0] [(T 39)]⟩⟩, ⟨.any, ⟨(some 41), none, .append 1 24 (T 33) (T 40)⟩⟩, ⟨.free, ⟨(some 42), none, .fieldAddr 1 (T 3)⟩⟩, ⟨.any, ⟨none, none, .store 1 (T 42) (T 41)⟩⟩])) (.ops [⟨(some 30), none, .mov (T 5)⟩, ⟨(some 31), none, .int2 .add (T 30) (.const (.int .i64 (1)))⟩, ⟨(some 5), none, .mov (T 31)⟩])))))) (.seq (.seq (.ops [⟨(some 6), none, .mov (.const (.int .i64 (0)))⟩]) (.block 4 (.loop (.seq (.seq (.ops [⟨(some 43), none, .mov (T 6)⟩, ⟨(some 44), none, .fieldAddr 2 (T 1)⟩, ⟨(some 45), none, .load1 (T 44)⟩, ⟨(some 46), none, .len (T 45)⟩, ⟨(some 47), none, .int2 .lss (T 43) (T 46)⟩]) (.cond (T 47) .skip (.exit 4))) (.seq (.block 5 (.draw [⟨.free, ⟨(some 50), none, .fieldAddr 2 (T 3)⟩⟩, ⟨.rd, ⟨(some 51), none, .load1 (T 50)⟩⟩, ⟨.free, ⟨(some 52), none, .fieldAddr 2 (T 1)⟩⟩, ⟨.rd, ⟨(some 53), none, .load1 (T 52)⟩⟩, ⟨.free, ⟨(some 54), none, .mov (T 6)⟩⟩, ⟨.free, ⟨(some 55), none, .idxSl 3 (T 53) (T 54)⟩⟩, ⟨.free, ⟨(some 56), none, .fieldAddr 0 (T 55)⟩⟩, ⟨.rd, ⟨(some 57), none, .load1 (T 56)⟩⟩, ⟨.free, ⟨(some 58), none, .fieldAddr 2 (T 1)⟩⟩, ⟨.rd1, ⟨(some 59), none, .load1 (T 58)⟩⟩, ⟨.free, ⟨(some 60), none, .mov (T 6)⟩⟩, ⟨.free, ⟨(some 61), none, .idxSl 3 (T 59) (T 60)⟩⟩, ⟨.free, ⟨(some 62), none, .fieldAddr 1 (T 61)⟩⟩, ⟨.rd1, ⟨(some 63), none, .loadN 2 (T 62)⟩⟩, ⟨.up, ⟨(some 64), none, .call (.func 37) [(T 63)]⟩⟩, ⟨.free, ⟨(some 65), none, .build #[(0, 1), (1, 2)] [(.int .i64 (0)), (.int .i64 (0)), (.int .i64 (0))] [0, 1] [(T 57), (T 64)]⟩⟩, ⟨.up, ⟨(some 66), none, .bslice 3 1 [(.int .i64 (0)), (.int .i64 (0)), (.int .i64 (0))] [0] [(T 65)]⟩⟩, ⟨.any, ⟨(some 67), none, .append 3 24 (T 51) (T 66)⟩⟩, ⟨.free, ⟨(some 68), none, .fieldAddr 2 (T 3)⟩⟩, ⟨.any, ⟨none, none, .store 1 (T 68) (T 67)⟩⟩])) (.ops [⟨(some 48), none, .mov (T 6)⟩, ⟨(some 49), none, .int2 .add (T 48) (.const (.int .i64 (1)))⟩, ⟨(some 6), none, .mov (T 49)⟩])))))) (.seq (.ops [⟨(some 69), none, .loadN 3 (T 3)⟩, ⟨none, none, .store 3 (T 2) (T 69)⟩]) .ret))))))
theorem fok26 : FnOk Try.prog 26 70 s26 [.cellN 2 3] := ⟨Try.f26, _, Try.func26, rfl, Try.ntmps26, by kernel_rfl, by kernel_rfl⟩
theorem yard_c (hn : 10002 ≤ n) (hr : h.next + 300 < far) (hfl : h.floor ≤ h.next) {fv vv sv : Value} {Y : MY} (hy : YardR h fv vv sv Y) (hY : Thin Y) :
    ∃ F V S h', call n (.func (.func 26) #[] #[]) [.agg ⟨[fv, vv, sv]⟩] h = some (.agg ⟨[F, V, S]⟩, h') ∧ YardR h' F V S Y ∧ Made h h' 300 := by
  obtain ⟨n, rfl⟩ : ∃ p, n = p + 1 := ⟨n - 1, by omega⟩
  obtain ⟨y1, y2, y3, y4⟩ := hY
  suffices hsuf : ∃ v h', call (n + 1) (.func (.func 26) #[] #[]) [.agg ⟨[fv, vv, sv]⟩] h = some (v, h') ∧ ∃ F V S, v = .agg ⟨[F, V, S]⟩ ∧ YardR h' F V S Y ∧ Made h h' 300 by
    obtain ⟨v, h', e, F, V, S, rfl, h1, h2⟩ := hsuf
    exact ⟨F, V, S, h', e, h1, h2⟩
  refine call_any0 fok26 rfl rfl (by simp) ?_
  simp only [s26, W_seq, W_ops]
  refine ops_box (cs := [fv, vv, sv]) (by omega) rfl hy.one fun h1 hx1 => ?_
  refine ops_alloc (by rw [hx1.next]; omega) rfl fun h2 hx2 => ?_
  simp only [W_skip, W_ret, W_exit, W_seq, W_block, then_norm', then_exit', then_ret', block_norm', block_ret', block_exit', W_cond, cond_true', cond_false', W_ops, ops_nil, ops_cons, ops_guard, step_some, g_tt, g_tf, g_ft, g_ff, put_some, put_none, upd_ite, val_tmp, fr0_zero, fr0_succ, ret_ret, ret_norm, res_tmp, ex_some, val_const, val_func, vals_nil, vals_cons, d_nil, d_free, d_rd1, d_rd, d_up, d_any, same_some, up_some, all_reads, Sub.refl, x_mov, x_pick, pick_t, pick_f, x_field1, x_fieldN, x_extract, x_box, x_alloc, x_load1, x_loadN, withH_some', x_store, x_mkfunc, x_mkslice, x_slice, x_fieldAddr, fieldAt_p, x_idxArr, x_idxSl, x_append, x_there, x_len, len_slice, x_not, not_bool, x_call, x_int2, i_add, i_sub, i_mul, i_eql, i_neq, i_lss, i_leq, i_gtr, i_geq, x_plain, p_min, p_max, p_rem, p_quo, r_min, r_max, p_shl, p_or, p_and, p_andNot, eqV_i, x_bslice, x_build, res_cellN, res_cell1, valN_tmp, valN_const, if_true, if_false, Nat.le_refl, true_and, and_true, decide_true, decide_false, Bool.not_true, Bool.not_false, reduceIte, Nat.reduceEqDiff, Nat.reduceAdd, Nat.reduceMul, Nat.reduceSub, Nat.reduceLeDiff, Nat.reduceLT]
  refine step_row (by rw [hx2.next, hx1.next]; omega) rfl rfl fun h3 hx3 => ?_
  have n1 : h1.next = h.next + 1 := hx1.next
  have n2 : h2.next = h.next + 2 := by rw [hx2.next, n1]
  have n3 : h3.next = h.next + 3 := by rw [hx3.next, n2]
  have hsub : Sub All h h3 := hx1.sub.trans (hx2.sub.trans hx3.sub)
  have hbox : Row h3 h.next [fv, vv, sv] := (hx1.row.mono hx2.sub).mono hx3.sub
  have hres : h3.get (h.next + 1) = some (.row [nilS, nilS, nilS] true 0) := by
    have := hx2.get
    rw [n1] at this
    exact hx3.sub _ _ _ _ trivial this
  have hout : h3.get (h.next + 2) = some (.row [nilS, nilS, nilS] true 0) := by
    have := hx3.get
    rw [n2] at this
    exact this
  have hf3 : h3.floor = h.floor := by rw [hx3.floor, hx2.floor, hx1.floor]
  rw [n1, n2]
  clear hx1 hx2 hx3 n1 n2
  have hall : ∀ {g : AHeap}, Keep (h.next + 2) h3 g → Sub All h g := fun st i cs w gr _ hg => st.sub i cs w gr (by have := AHeap.lt_of_get hg; omega) (hsub _ _ _ _ trivial hg)
  simp only [W_skip, W_ret, W_exit, W_seq, W_block, then_norm', then_exit', then_ret', block_norm', block_ret', block_exit', W_cond, cond_true', cond_false', W_ops, ops_nil, ops_cons, ops_guard, step_some, g_tt, g_tf, g_ft, g_ff, put_some, put_none, upd_ite, val_tmp, fr0_zero, fr0_succ, ret_ret, ret_norm, res_tmp, ex_some, val_const, val_func, vals_nil, vals_cons, d_nil, d_free, d_rd1, d_rd, d_up, d_any, same_some, up_some, all_reads, Sub.refl, x_mov, x_pick, pick_t, pick_f, x_field1, x_fieldN, x_extract, x_box, x_alloc, x_load1, x_loadN, withH_some', x_store, x_mkfunc, x_mkslice, x_slice, x_fieldAddr, fieldAt_p, x_idxArr, x_idxSl, x_append, x_there, x_len, len_slice, x_not, not_bool, x_call, x_int2, i_add, i_sub, i_mul, i_eql, i_neq, i_lss, i_leq, i_gtr, i_geq, x_plain, p_min, p_max, p_rem, p_quo, r_min, r_max, p_shl, p_or, p_and, p_andNot, eqV_i, x_bslice, x_build, res_cellN, res_cell1, valN_tmp, valN_const, if_true, if_false, Nat.le_refl, true_and, and_true, decide_true, decide_false, Bool.not_true, Bool.not_false, reduceIte, Nat.reduceEqDiff, Nat.reduceAdd, Nat.reduceMul, Nat.reduceSub, Nat.reduceLeDiff, Nat.reduceLT]
  refine W_loop Y.nf (fun k f g m => (∃ F, Keep (h.next + 2) h3 g ∧ g.get (h.next + 2) = some (.row [F, nilS, nilS] true 0) ∧ GrowC h3.next g F 2 k (fun k j => .int .i64 (if j = 0 then Y.lo k else Y.hi k)) ∧ g.next ≤ h3.next + 2 * k) ∧ m = [] ∧ f 1 = .pointer (some ⟨h.next, 0, none⟩) ∧ f 2 = .pointer (some ⟨h.next + 1, 0, none⟩) ∧ f 3 = .pointer (some ⟨h.next + 2, 0, none⟩) ∧ f 4 = .int .i64 (k : Int)) (by simp; omega) ?_ ?_ ?_
  · simp only [W_skip, W_ret, W_exit, W_seq, W_block, then_norm', then_exit', then_ret', block_norm', block_ret', block_exit', W_cond, cond_true', cond_false', W_ops, ops_nil, ops_cons, ops_guard, step_some, g_tt, g_tf, g_ft, g_ff, put_some, put_none, upd_ite, val_tmp, fr0_zero, fr0_succ, ret_ret, ret_norm, res_tmp, ex_some, val_const, val_func, vals_nil, vals_cons, d_nil, d_free, d_rd1, d_rd, d_up, d_any, same_some, up_some, all_reads, Sub.refl, x_mov, x_pick, pick_t, pick_f, x_field1, x_fieldN, x_extract, x_box, x_alloc, x_load1, x_loadN, withH_some', x_store, x_mkfunc, x_mkslice, x_slice, x_fieldAddr, fieldAt_p, x_idxArr, x_idxSl, x_append, x_there, x_len, len_slice, x_not, not_bool, x_call, x_int2, i_add, i_sub, i_mul, i_eql, i_neq, i_lss, i_leq, i_gtr, i_geq, x_plain, p_min, p_max, p_rem, p_quo, r_min, r_max, p_shl, p_or, p_and, p_andNot, eqV_i, x_bslice, x_build, res_cellN, res_cell1, valN_tmp, valN_const, if_true, if_false, Nat.le_refl, true_and, and_true, decide_true, decide_false, Bool.not_true, Bool.not_false, reduceIte, Nat.reduceEqDiff, Nat.reduceAdd, Nat.reduceMul, Nat.reduceSub, Nat.reduceLeDiff, Nat.reduceLT]
    exact ⟨⟨_, Keep.refl, hout, .nil, by omega⟩, rfl⟩
  · rintro k f g m hk ⟨⟨F, st, go, gF, hgn⟩, rfl, f1, f2, f3, f4⟩
    have hk' : (k : Int) < (Y.nf : Int) := by omega
    have hw : wrapF .i64 ((k : Int) + 1) = ((k + 1 : Nat) : Int) := by rw [wrap_in (by omega) (by omega)]; rfl
    have hrow : Row g (h.next + 2) [F, nilS, nilS] := ⟨_, _, go⟩
    have hbx := hbox.keep st (by omega)
    have hfr := (hy.mono (hall st)).f
    have hup := st.up
    have hfg := st.floor
    simp only [W_skip, W_ret, W_exit, W_seq, W_block, then_norm', then_exit', then_ret', block_norm', block_ret', block_exit', W_cond, cond_true', cond_false', W_ops, ops_nil, ops_cons, ops_guard, step_some, g_tt, g_tf, g_ft, g_ff, put_some, put_none, upd_ite, val_tmp, fr0_zero, fr0_succ, ret_ret, ret_norm, res_tmp, ex_some, val_const, val_func, vals_nil, vals_cons, d_nil, d_free, d_rd1, d_rd, d_up, d_any, same_some, up_some, all_reads, Sub.refl, x_mov, x_pick, pick_t, pick_f, x_field1, x_fieldN, x_extract, x_box, x_alloc, x_load1, x_loadN, withH_some', x_store, x_mkfunc, x_mkslice, x_slice, x_fieldAddr, fieldAt_p, x_idxArr, x_idxSl, x_append, x_there, x_len, len_slice, x_not, not_bool, x_call, x_int2, i_add, i_sub, i_mul, i_eql, i_neq, i_lss, i_leq, i_gtr, i_geq, x_plain, p_min, p_max, p_rem, p_quo, r_min, r_max, p_shl, p_or, p_and, p_andNot, eqV_i, x_bslice, x_build, res_cellN, res_cell1, valN_tmp, valN_const, if_true, if_false, Nat.le_refl, true_and, and_true, decide_true, decide_false, Bool.not_true, Bool.not_false, reduceIte, Nat.reduceEqDiff, Nat.reduceAdd, Nat.reduceMul, Nat.reduceSub, Nat.reduceLeDiff, Nat.reduceLT, f1, f2, f3, f4, hbx.ld, Nat.zero_add, Nat.add_zero, List.getElem?_cons_zero, List.getElem?_cons_succ, Cells.len hfr, hk']
    refine W_draw All ?_
    simp only [W_skip, W_ret, W_exit, W_seq, W_block, then_norm', then_exit', then_ret', block_norm', block_ret', block_exit', W_cond, cond_true', cond_false', W_ops, ops_nil, ops_cons, ops_guard, step_some, g_tt, g_tf, g_ft, g_ff, put_some, put_none, upd_ite, val_tmp, fr0_zero, fr0_succ, ret_ret, ret_norm, res_tmp, ex_some, val_const, val_func, vals_nil, vals_cons, d_nil, d_free, d_rd1, d_rd, d_up, d_any, same_some, up_some, all_reads, Sub.refl, x_mov, x_pick, pick_t, pick_f, x_field1, x_fieldN, x_extract, x_box, x_alloc, x_load1, x_loadN, withH_some', x_store, x_mkfunc, x_mkslice, x_slice, x_fieldAddr, fieldAt_p, x_idxArr, x_idxSl, x_append, x_there, x_len, len_slice, x_not, not_bool, x_call, x_int2, i_add, i_sub, i_mul, i_eql, i_neq, i_lss, i_leq, i_gtr, i_geq, x_plain, p_min, p_max, p_rem, p_quo, r_min, r_max, p_shl, p_or, p_and, p_andNot, eqV_i, x_bslice, x_build, res_cellN, res_cell1, valN_tmp, valN_const, if_true, if_false, Nat.le_refl, true_and, and_true, decide_true, decide_false, Bool.not_true, Bool.not_false, reduceIte, Nat.reduceEqDiff, Nat.reduceAdd, Nat.reduceMul, Nat.reduceSub, Nat.reduceLeDiff, Nat.reduceLT, f1, f2, f3, f4, hbx.ld, hrow.ld, Nat.zero_add, Nat.add_zero, List.getElem?_cons_zero, List.getElem?_cons_succ, gF.cells.self, Cells.idx hfr hk, ranges_ld hfr hk, to_c (n := n) (h := g) (by omega) (by omega), sl_range]
    refine up_slice (by omega) rfl (fun g1 hx => hx.sub) fun g1 hx => ?_
    have hgx := hx.next
    have hgf := hx.floor
    have gF1 := gF.keep (hx.keep (o := h.next + 2)) (by omega)
    obtain ⟨F', g2, e, e', gF', hk2⟩ := gF1.append (bytes := 16) (cap := 1) (by omega) (by omega) (by omega) hx.get rfl rfl (fun j hj => by rcases j with _ | _ | j <;> simp_all <;> omega) (by simp [maxBytes]; omega) (by simp [maxBytes]; omega)
    obtain ⟨st2, go2⟩ := grew (st.trans hx.keep) hk2 (fun a k c e => (gF1.block e).1) (by omega) (hx.sub _ _ _ _ trivial go)
    have hgx2 := hk2.next
    have hgf2 := hk2.floor
    simp only [W_skip, W_ret, W_exit, W_seq, W_block, then_norm', then_exit', then_ret', block_norm', block_ret', block_exit', W_cond, cond_true', cond_false', W_ops, ops_nil, ops_cons, ops_guard, step_some, g_tt, g_tf, g_ft, g_ff, put_some, put_none, upd_ite, val_tmp, fr0_zero, fr0_succ, ret_ret, ret_norm, res_tmp, ex_some, val_const, val_func, vals_nil, vals_cons, d_nil, d_free, d_rd1, d_rd, d_up, d_any, same_some, up_some, all_reads, Sub.refl, x_mov, x_pick, pick_t, pick_f, x_field1, x_fieldN, x_extract, x_box, x_alloc, x_load1, x_loadN, withH_some', x_store, x_mkfunc, x_mkslice, x_slice, x_fieldAddr, fieldAt_p, x_idxArr, x_idxSl, x_append, x_there, x_len, len_slice, x_not, not_bool, x_call, x_int2, i_add, i_sub, i_mul, i_eql, i_neq, i_lss, i_leq, i_gtr, i_geq, x_plain, p_min, p_max, p_rem, p_quo, r_min, r_max, p_shl, p_or, p_and, p_andNot, eqV_i, x_bslice, x_build, res_cellN, res_cell1, valN_tmp, valN_const, if_true, if_false, Nat.le_refl, true_and, and_true, decide_true, decide_false, Bool.not_true, Bool.not_false, reduceIte, Nat.reduceEqDiff, Nat.reduceAdd, Nat.reduceMul, Nat.reduceSub, Nat.reduceLeDiff, Nat.reduceLT, f1, f2, f3, f4, e, Nat.add_zero]
    refine ⟨by omega, up_store (vs := [F']) rfl go2 (by omega) (by omega) (by rw [e']; rfl) (by simp [allB, gF'.one]) rfl (by simp) (fun _ _ => trivial) fun g3 hs => ?_⟩
    have hgx3 := hs.next
    simp only [W_skip, W_ret, W_exit, W_seq, W_block, then_norm', then_exit', then_ret', block_norm', block_ret', block_exit', W_cond, cond_true', cond_false', W_ops, ops_nil, ops_cons, ops_guard, step_some, g_tt, g_tf, g_ft, g_ff, put_some, put_none, upd_ite, val_tmp, fr0_zero, fr0_succ, ret_ret, ret_norm, res_tmp, ex_some, val_const, val_func, vals_nil, vals_cons, d_nil, d_free, d_rd1, d_rd, d_up, d_any, same_some, up_some, all_reads, Sub.refl, x_mov, x_pick, pick_t, pick_f, x_field1, x_fieldN, x_extract, x_box, x_alloc, x_load1, x_loadN, withH_some', x_store, x_mkfunc, x_mkslice, x_slice, x_fieldAddr, fieldAt_p, x_idxArr, x_idxSl, x_append, x_there, x_len, len_slice, x_not, not_bool, x_call, x_int2, i_add, i_sub, i_mul, i_eql, i_neq, i_lss, i_leq, i_gtr, i_geq, x_plain, p_min, p_max, p_rem, p_quo, r_min, r_max, p_shl, p_or, p_and, p_andNot, eqV_i, x_bslice, x_build, res_cellN, res_cell1, valN_tmp, valN_const, if_true, if_false, Nat.le_refl, true_and, and_true, decide_true, decide_false, Bool.not_true, Bool.not_false, reduceIte, Nat.reduceEqDiff, Nat.reduceAdd, Nat.reduceMul, Nat.reduceSub, Nat.reduceLeDiff, Nat.reduceLT, f1, f2, f3, f4, hw, Nat.add_zero]
    exact ⟨_, set_keep st2 hs, hs.get, gF'.keep hs.keep (by omega), by omega⟩
  rintro f g0 m ⟨⟨F, st0, go0, gF, hgn0⟩, rfl, f1, f2, f3, f4⟩
  have hbx0 := hbox.keep st0 (by omega)
  have hup0 := st0.up
  have hfg0 := st0.floor
  simp only [W_skip, W_ret, W_exit, W_seq, W_block, then_norm', then_exit', then_ret', block_norm', block_ret', block_exit', W_cond, cond_true', cond_false', W_ops, ops_nil, ops_cons, ops_guard, step_some, g_tt, g_tf, g_ft, g_ff, put_some, put_none, upd_ite, val_tmp, fr0_zero, fr0_succ, ret_ret, ret_norm, res_tmp, ex_some, val_const, val_func, vals_nil, vals_cons, d_nil, d_free, d_rd1, d_rd, d_up, d_any, same_some, up_some, all_reads, Sub.refl, x_mov, x_pick, pick_t, pick_f, x_field1, x_fieldN, x_extract, x_box, x_alloc, x_load1, x_loadN, withH_some', x_store, x_mkfunc, x_mkslice, x_slice, x_fieldAddr, fieldAt_p, x_idxArr, x_idxSl, x_append, x_there, x_len, len_slice, x_not, not_bool, x_call, x_int2, i_add, i_sub, i_mul, i_eql, i_neq, i_lss, i_leq, i_gtr, i_geq, x_plain, p_min, p_max, p_rem, p_quo, r_min, r_max, p_shl, p_or, p_and, p_andNot, eqV_i, x_bslice, x_build, res_cellN, res_cell1, valN_tmp, valN_const, if_true, if_false, Nat.le_refl, true_and, and_true, decide_true, decide_false, Bool.not_true, Bool.not_false, reduceIte, Nat.reduceEqDiff, Nat.reduceAdd, Nat.reduceMul, Nat.reduceSub, Nat.reduceLeDiff, Nat.reduceLT, f1, f2, f3, f4, hbx0.ld, Nat.zero_add, Nat.add_zero, List.getElem?_cons_zero, List.getElem?_cons_succ, Cells.len (hy.mono (hall st0)).f, Int.lt_irrefl]
  clear f4
  refine W_loop Y.nv (fun k f g m => (∃ (V : Value) (r : Nat → Value), Keep (h.next + 2) g0 g ∧ g.get (h.next + 2) = some (.row [F, V, nilS] true 0) ∧ GrowC g0.next g V 1 k (fun k _ => r k) ∧ (∀ i, i < k → Ints g (r i) (Y.cnt i) (Y.q i) ∧ ∀ a m c, r i = .slice (some a) m c → h.next + 3 ≤ a.block ∧ a.block < g.next ∧ ∀ b m c, V = .slice (some b) m c → a.block ≠ b.block) ∧ g.next ≤ g0.next + 4 * k) ∧ m = [] ∧ f 1 = .pointer (some ⟨h.next, 0, none⟩) ∧ f 2 = .pointer (some ⟨h.next + 1, 0, none⟩) ∧ f 3 = .pointer (some ⟨h.next + 2, 0, none⟩) ∧ f 5 = .int .i64 (k : Int)) (by simp; omega) ?_ ?_ ?_
  · simp only [W_skip, W_ret, W_exit, W_seq, W_block, then_norm', then_exit', then_ret', block_norm', block_ret', block_exit', W_cond, cond_true', cond_false', W_ops, ops_nil, ops_cons, ops_guard, step_some, g_tt, g_tf, g_ft, g_ff, put_some, put_none, upd_ite, val_tmp, fr0_zero, fr0_succ, ret_ret, ret_norm, res_tmp, ex_some, val_const, val_func, vals_nil, vals_cons, d_nil, d_free, d_rd1, d_rd, d_up, d_any, same_some, up_some, all_reads, Sub.refl, x_mov, x_pick, pick_t, pick_f, x_field1, x_fieldN, x_extract, x_box, x_alloc, x_load1, x_loadN, withH_some', x_store, x_mkfunc, x_mkslice, x_slice, x_fieldAddr, fieldAt_p, x_idxArr, x_idxSl, x_append, x_there, x_len, len_slice, x_not, not_bool, x_call, x_int2, i_add, i_sub, i_mul, i_eql, i_neq, i_lss, i_leq, i_gtr, i_geq, x_plain, p_min, p_max, p_rem, p_quo, r_min, r_max, p_shl, p_or, p_and, p_andNot, eqV_i, x_bslice, x_build, res_cellN, res_cell1, valN_tmp, valN_const, if_true, if_false, Nat.le_refl, true_and, and_true, decide_true, decide_false, Bool.not_true, Bool.not_false, reduceIte, Nat.reduceEqDiff, Nat.reduceAdd, Nat.reduceMul, Nat.reduceSub, Nat.reduceLeDiff, Nat.reduceLT, f1, f2, f3]
    exact ⟨⟨_, fun _ => nilS, Keep.refl, go0, .nil, fun _ hi => by omega, by omega⟩, rfl⟩
  · rintro k f g m hk ⟨⟨V, r, st, go, gV, hr', hgn⟩, rfl, f1, f2, f3, f5⟩
    have hk' : (k : Int) < (Y.nv : Int) := by omega
    have hw : wrapF .i64 ((k : Int) + 1) = ((k + 1 : Nat) : Int) := by rw [wrap_in (by omega) (by omega)]; rfl
    have hrow : Row g (h.next + 2) [F, V, nilS] := ⟨_, _, go⟩
    have hbx := hbx0.keep st (by omega)
    obtain ⟨rr, hrw, hq⟩ := (hy.mono (hall (st0.trans st))).v
    have hup := st.up
    have hfg := st.floor
    obtain ⟨l, gl, el, hl, hm, hl1, hlb⟩ := list_c (n := n) (h := g) (by omega) (by omega) (hq k hk) (y4 k hk)
    have hml := hm.next
    have hmu := hm.up
    have hmf := hm.floor
    simp only [W_skip, W_ret, W_exit, W_seq, W_block, then_norm', then_exit', then_ret', block_norm', block_ret', block_exit', W_cond, cond_true', cond_false', W_ops, ops_nil, ops_cons, ops_guard, step_some, g_tt, g_tf, g_ft, g_ff, put_some, put_none, upd_ite, val_tmp, fr0_zero, fr0_succ, ret_ret, ret_norm, res_tmp, ex_some, val_const, val_func, vals_nil, vals_cons, d_nil, d_free, d_rd1, d_rd, d_up, d_any, same_some, up_some, all_reads, Sub.refl, x_mov, x_pick, pick_t, pick_f, x_field1, x_fieldN, x_extract, x_box, x_alloc, x_load1, x_loadN, withH_some', x_store, x_mkfunc, x_mkslice, x_slice, x_fieldAddr, fieldAt_p, x_idxArr, x_idxSl, x_append, x_there, x_len, len_slice, x_not, not_bool, x_call, x_int2, i_add, i_sub, i_mul, i_eql, i_neq, i_lss, i_leq, i_gtr, i_geq, x_plain, p_min, p_max, p_rem, p_quo, r_min, r_max, p_shl, p_or, p_and, p_andNot, eqV_i, x_bslice, x_build, res_cellN, res_cell1, valN_tmp, valN_const, if_true, if_false, Nat.le_refl, true_and, and_true, decide_true, decide_false, Bool.not_true, Bool.not_false, reduceIte, Nat.reduceEqDiff, Nat.reduceAdd, Nat.reduceMul, Nat.reduceSub, Nat.reduceLeDiff, Nat.reduceLT, f1, f2, f3, f5, hbx.ld, Nat.zero_add, Nat.add_zero, List.getElem?_cons_zero, List.getElem?_cons_succ, Cells.len hrw, hk']
    refine W_draw All ?_
    simp only [W_skip, W_ret, W_exit, W_seq, W_block, then_norm', then_exit', then_ret', block_norm', block_ret', block_exit', W_cond, cond_true', cond_false', W_ops, ops_nil, ops_cons, ops_guard, step_some, g_tt, g_tf, g_ft, g_ff, put_some, put_none, upd_ite, val_tmp, fr0_zero, fr0_succ, ret_ret, ret_norm, res_tmp, ex_some, val_const, val_func, vals_nil, vals_cons, d_nil, d_free, d_rd1, d_rd, d_up, d_any, same_some, up_some, all_reads, Sub.refl, x_mov, x_pick, pick_t, pick_f, x_field1, x_fieldN, x_extract, x_box, x_alloc, x_load1, x_loadN, withH_some', x_store, x_mkfunc, x_mkslice, x_slice, x_fieldAddr, fieldAt_p, x_idxArr, x_idxSl, x_append, x_there, x_len, len_slice, x_not, not_bool, x_call, x_int2, i_add, i_sub, i_mul, i_eql, i_neq, i_lss, i_leq, i_gtr, i_geq, x_plain, p_min, p_max, p_rem, p_quo, r_min, r_max, p_shl, p_or, p_and, p_andNot, eqV_i, x_bslice, x_build, res_cellN, res_cell1, valN_tmp, valN_const, if_true, if_false, Nat.le_refl, true_and, and_true, decide_true, decide_false, Bool.not_true, Bool.not_false, reduceIte, Nat.reduceEqDiff, Nat.reduceAdd, Nat.reduceMul, Nat.reduceSub, Nat.reduceLeDiff, Nat.reduceLT, f1, f2, f3, f5, hbx.ld, hrow.ld, Nat.zero_add, Nat.add_zero, List.getElem?_cons_zero, List.getElem?_cons_succ, gV.cells.self, Cells.idx hrw hk, Cells.ld hrw hk Nat.zero_lt_one, el, sl_one hl1]
    refine ⟨⟨hmu, hm.sub⟩, up_slice (by omega) (by simp [allB, hl1]) (fun g1 hx => hm.sub.trans hx.sub) fun g1 hx => ?_⟩
    have hgx := hx.next
    have hgf := hx.floor
    have kl : Keep (h.next + 2) g g1 := ⟨fun i cs w gr hi hg => hx.sub _ _ _ _ trivial (hm.sub _ _ _ _ trivial hg), by omega, by omega⟩
    have gV1 := gV.keep kl (by omega)
    have gV2 : GrowC g0.next g1 V 1 k (fun i _ => if i = k then l else r i) := by
      obtain ⟨cs, c1, c2, c3⟩ := gV1
      exact ⟨cs, c1, c2, fun i j hi hj => by rw [c3 i j hi hj]; show some (r i) = some (if i = k then l else r i); rw [if_neg (by omega)]⟩
    have hnew : ∀ j, j < 1 → [l][j]? = some ((fun i _ => if i = k then l else r i : Nat → Nat → Value) k j) := by
      intro j hj
      have : j = 0 := by omega
      subst this
      simp
    obtain ⟨V', g2, e, e', gV', hk2⟩ := gV2.append (bytes := 24) (cap := 1) (by omega) (by omega) (by omega) hx.get rfl (by simp [allB, hl1]) hnew (by simp [maxBytes]; omega) (by simp [maxBytes]; omega)
    have go1 : g1.get (h.next + 2) = some (.row [F, V, nilS] true 0) := hx.sub _ _ _ _ trivial (hm.sub _ _ _ _ trivial go)
    obtain ⟨st2, go2⟩ := grew (st.trans kl) hk2 (fun a k c e => (gV1.block e).1) (by omega) go1
    have hgx2 := hk2.next
    have hgf2 := hk2.floor
    simp only [W_skip, W_ret, W_exit, W_seq, W_block, then_norm', then_exit', then_ret', block_norm', block_ret', block_exit', W_cond, cond_true', cond_false', W_ops, ops_nil, ops_cons, ops_guard, step_some, g_tt, g_tf, g_ft, g_ff, put_some, put_none, upd_ite, val_tmp, fr0_zero, fr0_succ, ret_ret, ret_norm, res_tmp, ex_some, val_const, val_func, vals_nil, vals_cons, d_nil, d_free, d_rd1, d_rd, d_up, d_any, same_some, up_some, all_reads, Sub.refl, x_mov, x_pick, pick_t, pick_f, x_field1, x_fieldN, x_extract, x_box, x_alloc, x_load1, x_loadN, withH_some', x_store, x_mkfunc, x_mkslice, x_slice, x_fieldAddr, fieldAt_p, x_idxArr, x_idxSl, x_append, x_there, x_len, len_slice, x_not, not_bool, x_call, x_int2, i_add, i_sub, i_mul, i_eql, i_neq, i_lss, i_leq, i_gtr, i_geq, x_plain, p_min, p_max, p_rem, p_quo, r_min, r_max, p_shl, p_or, p_and, p_andNot, eqV_i, x_bslice, x_build, res_cellN, res_cell1, valN_tmp, valN_const, if_true, if_false, Nat.le_refl, true_and, and_true, decide_true, decide_false, Bool.not_true, Bool.not_false, reduceIte, Nat.reduceEqDiff, Nat.reduceAdd, Nat.reduceMul, Nat.reduceSub, Nat.reduceLeDiff, Nat.reduceLT, f1, f2, f3, f5, e, Nat.add_zero, Nat.zero_add]
    refine ⟨by omega, up_store (vs := [V']) rfl go2 (by omega) (by omega) (by rw [e']; rfl) (by simp [allB, gV'.one]) rfl (by simp) (fun _ _ => trivial) fun g3 hs => ?_⟩
    have hgx3 := hs.next
    simp only [W_skip, W_ret, W_exit, W_seq, W_block, then_norm', then_exit', then_ret', block_norm', block_ret', block_exit', W_cond, cond_true', cond_false', W_ops, ops_nil, ops_cons, ops_guard, step_some, g_tt, g_tf, g_ft, g_ff, put_some, put_none, upd_ite, val_tmp, fr0_zero, fr0_succ, ret_ret, ret_norm, res_tmp, ex_some, val_const, val_func, vals_nil, vals_cons, d_nil, d_free, d_rd1, d_rd, d_up, d_any, same_some, up_some, all_reads, Sub.refl, x_mov, x_pick, pick_t, pick_f, x_field1, x_fieldN, x_extract, x_box, x_alloc, x_load1, x_loadN, withH_some', x_store, x_mkfunc, x_mkslice, x_slice, x_fieldAddr, fieldAt_p, x_idxArr, x_idxSl, x_append, x_there, x_len, len_slice, x_not, not_bool, x_call, x_int2, i_add, i_sub, i_mul, i_eql, i_neq, i_lss, i_leq, i_gtr, i_geq, x_plain, p_min, p_max, p_rem, p_quo, r_min, r_max, p_shl, p_or, p_and, p_andNot, eqV_i, x_bslice, x_build, res_cellN, res_cell1, valN_tmp, valN_const, if_true, if_false, Nat.le_refl, true_and, and_true, decide_true, decide_false, Bool.not_true, Bool.not_false, reduceIte, Nat.reduceEqDiff, Nat.reduceAdd, Nat.reduceMul, Nat.reduceSub, Nat.reduceLeDiff, Nat.reduceLT, f1, f2, f3, f5, hw, Nat.add_zero]
    refine ⟨V', fun i => if i = k then l else r i, set_keep st2 hs, hs.get, gV'.keep hs.keep (by omega), ?_, by omega⟩
    intro i hi
    by_cases hik : i = k
    · subst hik
      dsimp only
      rw [if_pos rfl]
      refine ⟨?_, fun a m c ea => ?_⟩
      · have q1 : Ints g1 l (Y.cnt i) (Y.q i) := Cells.mono hl hx.sub
        have q2 : Ints g2 l (Y.cnt i) (Y.q i) := Cells.kept q1 hk2 fun a k c ea b k' c' eb => by
          have := (hlb a k c ea).1
          have := (gV.block eb).2
          omega
        exact Cells.keep q2 hs.keep fun a k c ea => by have := (hlb a k c ea).1; omega
      · obtain ⟨b1, b2⟩ := hlb a m c ea
        refine ⟨by omega, by omega, fun b m c eb => ?_⟩
        rw [e'] at eb
        cases eb
        show a.block ≠ g1.next
        omega
    · dsimp only
      rw [if_neg hik]
      obtain ⟨r1, r2⟩ := hr' i (by omega)
      refine ⟨?_, fun a m c ea => ?_⟩
      · have q1 : Ints g1 (r i) (Y.cnt i) (Y.q i) := Cells.keep r1 kl fun a k c ea => by have := (r2 a k c ea).1; omega
        have q2 : Ints g2 (r i) (Y.cnt i) (Y.q i) := Cells.kept q1 hk2 fun a k c ea b k' c' eb => (r2 a k c ea).2.2 b k' c' eb
        exact Cells.keep q2 hs.keep fun a k c ea => by have := (r2 a k c ea).1; omega
      · obtain ⟨b1, b2, b3⟩ := r2 a m c ea
        refine ⟨by omega, by omega, fun b m c eb => ?_⟩
        rw [e'] at eb
        cases eb
        show a.block ≠ g1.next
        omega
  rintro f g4 m ⟨⟨V, r, st4, go4, gV, hr4, hgn4⟩, rfl, f1, f2, f3, f5⟩
  have st4h := st0.trans st4
  have hbx4 := hbx0.keep st4 (by omega)
  have hup4 := st4.up
  have hfg4 := st4.floor
  obtain ⟨rr, hrw, hq⟩ := (hy.mono (hall st4h)).v
  simp only [W_skip, W_ret, W_exit, W_seq, W_block, then_norm', then_exit', then_ret', block_norm', block_ret', block_exit', W_cond, cond_true', cond_false', W_ops, ops_nil, ops_cons, ops_guard, step_some, g_tt, g_tf, g_ft, g_ff, put_some, put_none, upd_ite, val_tmp, fr0_zero, fr0_succ, ret_ret, ret_norm, res_tmp, ex_some, val_const, val_func, vals_nil, vals_cons, d_nil, d_free, d_rd1, d_rd, d_up, d_any, same_some, up_some, all_reads, Sub.refl, x_mov, x_pick, pick_t, pick_f, x_field1, x_fieldN, x_extract, x_box, x_alloc, x_load1, x_loadN, withH_some', x_store, x_mkfunc, x_mkslice, x_slice, x_fieldAddr, fieldAt_p, x_idxArr, x_idxSl, x_append, x_there, x_len, len_slice, x_not, not_bool, x_call, x_int2, i_add, i_sub, i_mul, i_eql, i_neq, i_lss, i_leq, i_gtr, i_geq, x_plain, p_min, p_max, p_rem, p_quo, r_min, r_max, p_shl, p_or, p_and, p_andNot, eqV_i, x_bslice, x_build, res_cellN, res_cell1, valN_tmp, valN_const, if_true, if_false, Nat.le_refl, true_and, and_true, decide_true, decide_false, Bool.not_true, Bool.not_false, reduceIte, Nat.reduceEqDiff, Nat.reduceAdd, Nat.reduceMul, Nat.reduceSub, Nat.reduceLeDiff, Nat.reduceLT, f1, f2, f3, f5, hbx4.ld, Nat.zero_add, Nat.add_zero, List.getElem?_cons_zero, List.getElem?_cons_succ, Cells.len hrw, Int.lt_irrefl]
  clear f5
  refine W_loop Y.ns (fun k f g m => (∃ (S : Value), Keep (h.next + 2) g4 g ∧ g.get (h.next + 2) = some (.row [F, V, S] true 0) ∧ GrowC g4.next g S 3 k (fun k j => .int .i64 (if j = 0 then Y.sv k else if j = 1 then Y.slo k else Y.shi k)) ∧ g.next ≤ g4.next + 2 * k) ∧ m = [] ∧ f 1 = .pointer (some ⟨h.next, 0, none⟩) ∧ f 2 = .pointer (some ⟨h.next + 1, 0, none⟩) ∧ f 3 = .pointer (some ⟨h.next + 2, 0, none⟩) ∧ f 6 = .int .i64 (k : Int)) (by simp; omega) ?_ ?_ ?_
  · simp only [W_skip, W_ret, W_exit, W_seq, W_block, then_norm', then_exit', then_ret', block_norm', block_ret', block_exit', W_cond, cond_true', cond_false', W_ops, ops_nil, ops_cons, ops_guard, step_some, g_tt, g_tf, g_ft, g_ff, put_some, put_none, upd_ite, val_tmp, fr0_zero, fr0_succ, ret_ret, ret_norm, res_tmp, ex_some, val_const, val_func, vals_nil, vals_cons, d_nil, d_free, d_rd1, d_rd, d_up, d_any, same_some, up_some, all_reads, Sub.refl, x_mov, x_pick, pick_t, pick_f, x_field1, x_fieldN, x_extract, x_box, x_alloc, x_load1, x_loadN, withH_some', x_store, x_mkfunc, x_mkslice, x_slice, x_fieldAddr, fieldAt_p, x_idxArr, x_idxSl, x_append, x_there, x_len, len_slice, x_not, not_bool, x_call, x_int2, i_add, i_sub, i_mul, i_eql, i_neq, i_lss, i_leq, i_gtr, i_geq, x_plain, p_min, p_max, p_rem, p_quo, r_min, r_max, p_shl, p_or, p_and, p_andNot, eqV_i, x_bslice, x_build, res_cellN, res_cell1, valN_tmp, valN_const, if_true, if_false, Nat.le_refl, true_and, and_true, decide_true, decide_false, Bool.not_true, Bool.not_false, reduceIte, Nat.reduceEqDiff, Nat.reduceAdd, Nat.reduceMul, Nat.reduceSub, Nat.reduceLeDiff, Nat.reduceLT, f1, f2, f3]
    exact ⟨⟨_, Keep.refl, go4, .nil, by omega⟩, rfl⟩
  · rintro k f g m hk ⟨⟨S, st, go, gS, hgn⟩, rfl, f1, f2, f3, f6⟩
    have hk' : (k : Int) < (Y.ns : Int) := by omega
    have hw : wrapF .i64 ((k : Int) + 1) = ((k + 1 : Nat) : Int) := by rw [wrap_in (by omega) (by omega)]; rfl
    have hrow : Row g (h.next + 2) [F, V, S] := ⟨_, _, go⟩
    have hbx := hbx4.keep st (by omega)
    have hfr := (hy.mono (hall (st4h.trans st))).s
    have hup := st.up
    have hfg := st.floor
    have hl2 : loadAgg 2 g (ptrO sv 3 k 1) = some (.agg ⟨[.int .i64 (Y.slo k), .int .i64 (Y.shi k)]⟩) := by rw [Cells.ldN hfr hk (by omega) (by omega)]; simp [List.range_succ]
    simp only [W_skip, W_ret, W_exit, W_seq, W_block, then_norm', then_exit', then_ret', block_norm', block_ret', block_exit', W_cond, cond_true', cond_false', W_ops, ops_nil, ops_cons, ops_guard, step_some, g_tt, g_tf, g_ft, g_ff, put_some, put_none, upd_ite, val_tmp, fr0_zero, fr0_succ, ret_ret, ret_norm, res_tmp, ex_some, val_const, val_func, vals_nil, vals_cons, d_nil, d_free, d_rd1, d_rd, d_up, d_any, same_some, up_some, all_reads, Sub.refl, x_mov, x_pick, pick_t, pick_f, x_field1, x_fieldN, x_extract, x_box, x_alloc, x_load1, x_loadN, withH_some', x_store, x_mkfunc, x_mkslice, x_slice, x_fieldAddr, fieldAt_p, x_idxArr, x_idxSl, x_append, x_there, x_len, len_slice, x_not, not_bool, x_call, x_int2, i_add, i_sub, i_mul, i_eql, i_neq, i_lss, i_leq, i_gtr, i_geq, x_plain, p_min, p_max, p_rem, p_quo, r_min, r_max, p_shl, p_or, p_and, p_andNot, eqV_i, x_bslice, x_build, res_cellN, res_cell1, valN_tmp, valN_const, if_true, if_false, Nat.le_refl, true_and, and_true, decide_true, decide_false, Bool.not_true, Bool.not_false, reduceIte, Nat.reduceEqDiff, Nat.reduceAdd, Nat.reduceMul, Nat.reduceSub, Nat.reduceLeDiff, Nat.reduceLT, f1, f2, f3, f6, hbx.ld, Nat.zero_add, Nat.add_zero, List.getElem?_cons_zero, List.getElem?_cons_succ, Cells.len hfr, hk']
    refine W_draw All ?_
    simp only [W_skip, W_ret, W_exit, W_seq, W_block, then_norm', then_exit', then_ret', block_norm', block_ret', block_exit', W_cond, cond_true', cond_false', W_ops, ops_nil, ops_cons, ops_guard, step_some, g_tt, g_tf, g_ft, g_ff, put_some, put_none, upd_ite, val_tmp, fr0_zero, fr0_succ, ret_ret, ret_norm, res_tmp, ex_some, val_const, val_func, vals_nil, vals_cons, d_nil, d_free, d_rd1, d_rd, d_up, d_any, same_some, up_some, all_reads, Sub.refl, x_mov, x_pick, pick_t, pick_f, x_field1, x_fieldN, x_extract, x_box, x_alloc, x_load1, x_loadN, withH_some', x_store, x_mkfunc, x_mkslice, x_slice, x_fieldAddr, fieldAt_p, x_idxArr, x_idxSl, x_append, x_there, x_len, len_slice, x_not, not_bool, x_call, x_int2, i_add, i_sub, i_mul, i_eql, i_neq, i_lss, i_leq, i_gtr, i_geq, x_plain, p_min, p_max, p_rem, p_quo, r_min, r_max, p_shl, p_or, p_and, p_andNot, eqV_i, x_bslice, x_build, res_cellN, res_cell1, valN_tmp, valN_const, if_true, if_false, Nat.le_refl, true_and, and_true, decide_true, decide_false, Bool.not_true, Bool.not_false, reduceIte, Nat.reduceEqDiff, Nat.reduceAdd, Nat.reduceMul, Nat.reduceSub, Nat.reduceLeDiff, Nat.reduceLT, f1, f2, f3, f6, hbx.ld, hrow.ld, Nat.zero_add, Nat.add_zero, List.getElem?_cons_zero, List.getElem?_cons_succ, gS.cells.self, Cells.self hfr, Cells.idx hfr hk, Cells.fld hfr hk, Cells.ld hfr hk (show 0 < 3 by omega), hl2, to_c (n := n) (h := g) (by omega) (by omega), build_samp, sl_samp]
    refine up_slice (by omega) rfl (fun g1 hx => hx.sub) fun g1 hx => ?_
    have hgx := hx.next
    have hgf := hx.floor
    have gS1 := gS.keep (hx.keep (o := h.next + 2)) (by omega)
    obtain ⟨S', g2, e, e', gS', hk2⟩ := gS1.append (bytes := 24) (cap := 1) (by omega) (by omega) (by omega) hx.get rfl rfl (fun j hj => by rcases j with _ | _ | _ | j <;> simp_all <;> omega) (by simp [maxBytes]; omega) (by simp [maxBytes]; omega)
    obtain ⟨st2, go2⟩ := grew (st.trans hx.keep) hk2 (fun a k c e => (gS1.block e).1) (by omega) (hx.sub _ _ _ _ trivial go)
    have hgx2 := hk2.next
    have hgf2 := hk2.floor
    simp only [W_skip, W_ret, W_exit, W_seq, W_block, then_norm', then_exit', then_ret', block_norm', block_ret', block_exit', W_cond, cond_true', cond_false', W_ops, ops_nil, ops_cons, ops_guard, step_some, g_tt, g_tf, g_ft, g_ff, put_some, put_none, upd_ite, val_tmp, fr0_zero, fr0_succ, ret_ret, ret_norm, res_tmp, ex_some, val_const, val_func, vals_nil, vals_cons, d_nil, d_free, d_rd1, d_rd, d_up, d_any, same_some, up_some, all_reads, Sub.refl, x_mov, x_pick, pick_t, pick_f, x_field1, x_fieldN, x_extract, x_box, x_alloc, x_load1, x_loadN, withH_some', x_store, x_mkfunc, x_mkslice, x_slice, x_fieldAddr, fieldAt_p, x_idxArr, x_idxSl, x_append, x_there, x_len, len_slice, x_not, not_bool, x_call, x_int2, i_add, i_sub, i_mul, i_eql, i_neq, i_lss, i_leq, i_gtr, i_geq, x_plain, p_min, p_max, p_rem, p_quo, r_min, r_max, p_shl, p_or, p_and, p_andNot, eqV_i, x_bslice, x_build, res_cellN, res_cell1, valN_tmp, valN_const, if_true, if_false, Nat.le_refl, true_and, and_true, decide_true, decide_false, Bool.not_true, Bool.not_false, reduceIte, Nat.reduceEqDiff, Nat.reduceAdd, Nat.reduceMul, Nat.reduceSub, Nat.reduceLeDiff, Nat.reduceLT, f1, f2, f3, f6, e, Nat.add_zero, Nat.zero_add]
    refine ⟨by omega, up_store (vs := [S']) rfl go2 (by omega) (by omega) (by rw [e']; rfl) (by simp [allB, gS'.one]) rfl (by simp) (fun _ _ => trivial) fun g3 hs => ?_⟩
    have hgx3 := hs.next
    simp only [W_skip, W_ret, W_exit, W_seq, W_block, then_norm', then_exit', then_ret', block_norm', block_ret', block_exit', W_cond, cond_true', cond_false', W_ops, ops_nil, ops_cons, ops_guard, step_some, g_tt, g_tf, g_ft, g_ff, put_some, put_none, upd_ite, val_tmp, fr0_zero, fr0_succ, ret_ret, ret_norm, res_tmp, ex_some, val_const, val_func, vals_nil, vals_cons, d_nil, d_free, d_rd1, d_rd, d_up, d_any, same_some, up_some, all_reads, Sub.refl, x_mov, x_pick, pick_t, pick_f, x_field1, x_fieldN, x_extract, x_box, x_alloc, x_load1, x_loadN, withH_some', x_store, x_mkfunc, x_mkslice, x_slice, x_fieldAddr, fieldAt_p, x_idxArr, x_idxSl, x_append, x_there, x_len, len_slice, x_not, not_bool, x_call, x_int2, i_add, i_sub, i_mul, i_eql, i_neq, i_lss, i_leq, i_gtr, i_geq, x_plain, p_min, p_max, p_rem, p_quo, r_min, r_max, p_shl, p_or, p_and, p_andNot, eqV_i, x_bslice, x_build, res_cellN, res_cell1, valN_tmp, valN_const, if_true, if_false, Nat.le_refl, true_and, and_true, decide_true, decide_false, Bool.not_true, Bool.not_false, reduceIte, Nat.reduceEqDiff, Nat.reduceAdd, Nat.reduceMul, Nat.reduceSub, Nat.reduceLeDiff, Nat.reduceLT, f1, f2, f3, f6, hw, Nat.add_zero]
    exact ⟨_, set_keep st2 hs, hs.get, gS'.keep hs.keep (by omega), by omega⟩
  rintro f g m ⟨⟨S, st, go, gS, hgn⟩, rfl, f1, f2, f3, f6⟩
  have stH := st4h.trans st
  have hbx := hbx4.keep st (by omega)
  have hup := st.up
  have hfg := st.floor
  have hfr := (hy.mono (hall stH)).s
  have hrow : Row g (h.next + 2) [F, V, S] := ⟨_, _, go⟩
  have hrs : g.get (h.next + 1) = some (.row [nilS, nilS, nilS] true 0) := stH.sub _ _ _ _ (by omega) hres
  have hF : Ranges g F Y.nf Y.lo Y.hi := ((gF.keep st4 (by omega)).keep st (by omega)).cells
  have hV := (gV.keep st (by omega)).cells
  have hS := gS.cells
  have hq' : ∀ i, i < Y.nv → Ints g (r i) (Y.cnt i) (Y.q i) := fun i hi => Cells.keep (hr4 i hi).1 st fun a k c ea => by have := ((hr4 i hi).2 a k c ea).1; omega
  simp only [W_skip, W_ret, W_exit, W_seq, W_block, then_norm', then_exit', then_ret', block_norm', block_ret', block_exit', W_cond, cond_true', cond_false', W_ops, ops_nil, ops_cons, ops_guard, step_some, g_tt, g_tf, g_ft, g_ff, put_some, put_none, upd_ite, val_tmp, fr0_zero, fr0_succ, ret_ret, ret_norm, res_tmp, ex_some, val_const, val_func, vals_nil, vals_cons, d_nil, d_free, d_rd1, d_rd, d_up, d_any, same_some, up_some, all_reads, Sub.refl, x_mov, x_pick, pick_t, pick_f, x_field1, x_fieldN, x_extract, x_box, x_alloc, x_load1, x_loadN, withH_some', x_store, x_mkfunc, x_mkslice, x_slice, x_fieldAddr, fieldAt_p, x_idxArr, x_idxSl, x_append, x_there, x_len, len_slice, x_not, not_bool, x_call, x_int2, i_add, i_sub, i_mul, i_eql, i_neq, i_lss, i_leq, i_gtr, i_geq, x_plain, p_min, p_max, p_rem, p_quo, r_min, r_max, p_shl, p_or, p_and, p_andNot, eqV_i, x_bslice, x_build, res_cellN, res_cell1, valN_tmp, valN_const, if_true, if_false, Nat.le_refl, true_and, and_true, decide_true, decide_false, Bool.not_true, Bool.not_false, reduceIte, Nat.reduceEqDiff, Nat.reduceAdd, Nat.reduceMul, Nat.reduceSub, Nat.reduceLeDiff, Nat.reduceLT, f1, f2, f3, f6, hbx.ld, Nat.zero_add, Nat.add_zero, List.getElem?_cons_zero, List.getElem?_cons_succ, Cells.len hfr, Int.lt_irrefl, hrow.ldN 0 3 (by simp) (by simp), List.drop_zero, List.take_succ_cons, List.take_zero]
  refine step_store (vs := [F, V, S]) rfl hrs (by omega) (by omega) rfl (by simp [allB, Cells.one hF, Cells.one hV, Cells.one hS]) rfl (by simp) fun g' hs => ?_
  have hld := hs.row.ldN 0 3 (by simp [splice]) (by simp [splice])
  simp only [W_skip, W_ret, W_exit, W_seq, W_block, then_norm', then_exit', then_ret', block_norm', block_ret', block_exit', W_cond, cond_true', cond_false', W_ops, ops_nil, ops_cons, ops_guard, step_some, g_tt, g_tf, g_ft, g_ff, put_some, put_none, upd_ite, val_tmp, fr0_zero, fr0_succ, ret_ret, ret_norm, res_tmp, ex_some, val_const, val_func, vals_nil, vals_cons, d_nil, d_free, d_rd1, d_rd, d_up, d_any, same_some, up_some, all_reads, Sub.refl, x_mov, x_pick, pick_t, pick_f, x_field1, x_fieldN, x_extract, x_box, x_alloc, x_load1, x_loadN, withH_some', x_store, x_mkfunc, x_mkslice, x_slice, x_fieldAddr, fieldAt_p, x_idxArr, x_idxSl, x_append, x_there, x_len, len_slice, x_not, not_bool, x_call, x_int2, i_add, i_sub, i_mul, i_eql, i_neq, i_lss, i_leq, i_gtr, i_geq, x_plain, p_min, p_max, p_rem, p_quo, r_min, r_max, p_shl, p_or, p_and, p_andNot, eqV_i, x_bslice, x_build, res_cellN, res_cell1, valN_tmp, valN_const, if_true, if_false, Nat.le_refl, true_and, and_true, decide_true, decide_false, Bool.not_true, Bool.not_false, reduceIte, Nat.reduceEqDiff, Nat.reduceAdd, Nat.reduceMul, Nat.reduceSub, Nat.reduceLeDiff, Nat.reduceLT, f1, f2, f3, f6, hld, splice, List.take_zero, List.drop_zero, List.nil_append, List.length_cons, List.length_nil, List.drop_succ_cons, List.drop_nil, List.append_nil, List.take_succ_cons]
  have hks : Keep (h.next + 1) g g' := hs.keep
  have hgx := hs.next
  have hgf := hs.floor
  refine ⟨F, V, S, rfl, ⟨?_, ⟨r, ?_, fun i hi => ?_⟩, ?_⟩, ⟨fun i cs w gr _ hg => ?_, by omega, by omega, by omega⟩⟩
  · exact Cells.keep hF hks fun a k c ea => by have := (gF.block ea).1; omega
  · exact Cells.keep hV hks fun a k c ea => by have := (gV.block ea).1; omega
  · exact Cells.keep (hq' i hi) hks fun a k c ea => by have := ((hr4 i hi).2 a k c ea).1; omega
  · exact Cells.keep hS hks fun a k c ea => by have := (gS.block ea).1; omega
  · exact hks.sub _ _ _ _ (by have := AHeap.lt_of_get hg; omega) (hall stH _ _ _ _ trivial hg)
end Go.Vm.Vat

namespace Go.Vm.Vat
open Go.Proofs
set_option linter.unusedSimpArgs false
set_option linter.unusedVariables false
set_option maxRecDepth 10000
variable {n : Nat} {h : AHeap}

def s117 : SCode := (.seq (.ops [⟨(some 2), none, .box (T 0)⟩, ⟨(some 4), none, .mov (.const (.bool false))⟩]) (.seq (.ops [⟨(some 5), none, .fieldAddr 0 (T 2)⟩, ⟨(some 6), none, .load1 (T 5)⟩, ⟨(some 7), none, .int2 .leq (.const (.int .i64 (0))) (T 6)⟩, ⟨(some 8), none, .mov (T 7)⟩, ⟨(some 9), (some (8, true)), .fieldAddr 0 (T 2)⟩, ⟨(some 10), (some (8, true)), .load1 (T 9)⟩, ⟨(some 11), (some (8, true)), .fieldAddr 1 (T 2)⟩, ⟨(some 12), (some (8, true)), .load1 (T 11)⟩, ⟨(some 13), (some (8, true)), .int2 .leq (T 10) (T 12)⟩, ⟨(some 14), none, .pick (T 8) (T 13) (.const (.bool false))⟩, ⟨(some 15), none, .mov (T 14)⟩, ⟨(some 16), (some (15, true)), .fieldAddr 1 (T 2)⟩, ⟨(some 17), (some (15, true)), .load1 (T 16)⟩, ⟨(some 18), (some (15, true)), .mov (T 1)⟩, ⟨(some 19), (some (15, true)), .int2 .leq (T 17) (T 18)⟩, ⟨(some 20), none, .pick (T 15) (T 19) (.const (.bool false))⟩, ⟨(some 4), none, .mov (T 20)⟩]) .ret))
theorem fok117 : FnOk Try.prog 117 21 s117 [.tmp 4] := ⟨Try.f117, _, Try.func117, rfl, Try.ntmps117, by kernel_rfl, by kernel_rfl⟩
theorem isUpTo_c (hn : 1 ≤ n) (hr : h.next < far) (lo hi m : Int) : call n (.func (.func 117) #[] #[]) [.agg ⟨[.int .i64 lo, .int .i64 hi]⟩, .int .i64 m] h = some (.bool (decide (0 ≤ lo ∧ lo ≤ hi ∧ hi ≤ m)), h) := by
  obtain ⟨n, rfl⟩ : ∃ p, n = p + 1 := ⟨n - 1, by omega⟩
  refine call_plain0 fok117 rfl rfl (by simp) rfl ?_
  simp only [s117, W_seq, W_ops]
  refine ops_box (cs := [.int .i64 lo, .int .i64 hi]) (by exact hr) rfl rfl fun h1 hb => ?_
  by_cases c1 : 0 ≤ lo <;> by_cases c2 : lo ≤ hi <;> by_cases c3 : hi ≤ m <;> simp only [W_skip, W_ret, W_exit, W_seq, W_block, then_norm', then_exit', then_ret', block_norm', block_ret', block_exit', W_cond, cond_true', cond_false', W_ops, ops_nil, ops_cons, ops_guard, step_some, g_tt, g_tf, g_ft, g_ff, put_some, put_none, upd_ite, val_tmp, fr0_zero, fr0_succ, ret_ret, ret_norm, res_tmp, ex_some, val_const, val_func, vals_nil, vals_cons, d_nil, d_free, d_rd1, d_rd, d_up, d_any, same_some, up_some, all_reads, Sub.refl, x_mov, x_pick, pick_t, pick_f, x_field1, x_fieldN, x_extract, x_box, x_alloc, x_load1, x_loadN, withH_some', x_store, x_mkfunc, x_mkslice, x_slice, x_fieldAddr, fieldAt_p, x_idxArr, x_idxSl, x_append, x_there, x_len, len_slice, x_not, not_bool, x_call, x_int2, i_add, i_sub, i_mul, i_eql, i_neq, i_lss, i_leq, i_gtr, i_geq, x_plain, p_min, p_max, p_rem, p_quo, r_min, r_max, p_shl, p_or, p_and, p_andNot, eqV_i, x_bslice, x_build, res_cellN, res_cell1, valN_tmp, valN_const, if_true, if_false, Nat.le_refl, true_and, and_true, decide_true, decide_false, Bool.not_true, Bool.not_false, reduceIte, Nat.reduceEqDiff, Nat.reduceAdd, Nat.reduceMul, Nat.reduceSub, Nat.reduceLeDiff, Nat.reduceLT, hb.ld, Nat.zero_add, List.getElem?_cons_zero, List.getElem?_cons_succ, c1, c2, c3, and_self, and_false, false_and]

def s113 : SCode := (.seq (.ops [⟨(some 2), none, .box (T 0)⟩, ⟨(some 4), none, .mov (.const (.bool false))⟩]) (.seq (.ops [⟨(some 5), none, .fieldAddr 0 (T 2)⟩, ⟨(some 6), none, .load1 (T 5)⟩, ⟨(some 7), none, .mov (T 1)⟩, ⟨(some 8), none, .int2 .leq (T 6) (T 7)⟩, ⟨(some 9), none, .mov (T 8)⟩, ⟨(some 10), (some (9, true)), .mov (T 1)⟩, ⟨(some 11), (some (9, true)), .fieldAddr 1 (T 2)⟩, ⟨(some 12), (some (9, true)), .load1 (T 11)⟩, ⟨(some 13), (some (9, true)), .int2 .leq (T 10) (T 12)⟩, ⟨(some 14), none, .pick (T 9) (T 13) (.const (.bool false))⟩, ⟨(some 4), none, .mov (T 14)⟩]) .ret))
theorem fok113 : FnOk Try.prog 113 15 s113 [.tmp 4] := ⟨Try.f113, _, Try.func113, rfl, Try.ntmps113, by kernel_rfl, by kernel_rfl⟩
theorem has_c (hn : 1 ≤ n) (hr : h.next < far) (lo hi m : Int) : call n (.func (.func 113) #[] #[]) [.agg ⟨[.int .i64 lo, .int .i64 hi]⟩, .int .i64 m] h = some (.bool (decide (lo ≤ m ∧ m ≤ hi)), h) := by
  obtain ⟨n, rfl⟩ : ∃ p, n = p + 1 := ⟨n - 1, by omega⟩
  refine call_plain0 fok113 rfl rfl (by simp) rfl ?_
  simp only [s113, W_seq, W_ops]
  refine ops_box (cs := [.int .i64 lo, .int .i64 hi]) (by exact hr) rfl rfl fun h1 hb => ?_
  by_cases c1 : lo ≤ m <;> by_cases c2 : m ≤ hi <;> simp only [W_skip, W_ret, W_exit, W_seq, W_block, then_norm', then_exit', then_ret', block_norm', block_ret', block_exit', W_cond, cond_true', cond_false', W_ops, ops_nil, ops_cons, ops_guard, step_some, g_tt, g_tf, g_ft, g_ff, put_some, put_none, upd_ite, val_tmp, fr0_zero, fr0_succ, ret_ret, ret_norm, res_tmp, ex_some, val_const, val_func, vals_nil, vals_cons, d_nil, d_free, d_rd1, d_rd, d_up, d_any, same_some, up_some, all_reads, Sub.refl, x_mov, x_pick, pick_t, pick_f, x_field1, x_fieldN, x_extract, x_box, x_alloc, x_load1, x_loadN, withH_some', x_store, x_mkfunc, x_mkslice, x_slice, x_fieldAddr, fieldAt_p, x_idxArr, x_idxSl, x_append, x_there, x_len, len_slice, x_not, not_bool, x_call, x_int2, i_add, i_sub, i_mul, i_eql, i_neq, i_lss, i_leq, i_gtr, i_geq, x_plain, p_min, p_max, p_rem, p_quo, r_min, r_max, p_shl, p_or, p_and, p_andNot, eqV_i, x_bslice, x_build, res_cellN, res_cell1, valN_tmp, valN_const, if_true, if_false, Nat.le_refl, true_and, and_true, decide_true, decide_false, Bool.not_true, Bool.not_false, reduceIte, Nat.reduceEqDiff, Nat.reduceAdd, Nat.reduceMul, Nat.reduceSub, Nat.reduceLeDiff, Nat.reduceLT, hb.ld, Nat.zero_add, List.getElem?_cons_zero, List.getElem?_cons_succ, c1, c2, and_self, and_false, false_and]

def s82 : SCode := (.seq (.ops [⟨(some 1), none, .box (T 0)⟩, ⟨(some 2), none, .mov (.const (.bool false))⟩]) (.seq (.ops [⟨(some 3), none, .loadN 2 (T 1)⟩, ⟨(some 4), none, .call (.func 117) [(T 3), (.const (.int .i64 (20)))]⟩, ⟨(some 2), none, .mov (T 4)⟩]) .ret))
theorem fok82 : FnOk Try.prog 82 5 s82 [.tmp 2] := ⟨Try.f82, _, Try.func82, rfl, Try.ntmps82, by kernel_rfl, by kernel_rfl⟩
theorem isField_c (hn : 2 ≤ n) (hr : h.next + 1 < far) (lo hi : Int) : call n (.func (.func 82) #[] #[]) [.agg ⟨[.int .i64 lo, .int .i64 hi]⟩] h = some (.bool (decide (0 ≤ lo ∧ lo ≤ hi ∧ hi ≤ 20)), h) := by
  obtain ⟨n, rfl⟩ : ∃ p, n = p + 1 := ⟨n - 1, by omega⟩
  refine call_plain0 fok82 rfl rfl (by simp) rfl ?_
  have hr : h.shutAll.next + 1 < far := hr
  generalize h.shutAll = h at hr
  simp only [s82, W_seq, W_ops]
  refine ops_box (cs := [.int .i64 lo, .int .i64 hi]) (by omega) rfl rfl fun h1 hb => ?_
  have hr1 : h1.next < far := by rw [hb.next]; exact hr
  simp only [W_skip, W_ret, W_exit, W_seq, W_block, then_norm', then_exit', then_ret', block_norm', block_ret', block_exit', W_cond, cond_true', cond_false', W_ops, ops_nil, ops_cons, ops_guard, step_some, g_tt, g_tf, g_ft, g_ff, put_some, put_none, upd_ite, val_tmp, fr0_zero, fr0_succ, ret_ret, ret_norm, res_tmp, ex_some, val_const, val_func, vals_nil, vals_cons, d_nil, d_free, d_rd1, d_rd, d_up, d_any, same_some, up_some, all_reads, Sub.refl, x_mov, x_pick, pick_t, pick_f, x_field1, x_fieldN, x_extract, x_box, x_alloc, x_load1, x_loadN, withH_some', x_store, x_mkfunc, x_mkslice, x_slice, x_fieldAddr, fieldAt_p, x_idxArr, x_idxSl, x_append, x_there, x_len, len_slice, x_not, not_bool, x_call, x_int2, i_add, i_sub, i_mul, i_eql, i_neq, i_lss, i_leq, i_gtr, i_geq, x_plain, p_min, p_max, p_rem, p_quo, r_min, r_max, p_shl, p_or, p_and, p_andNot, eqV_i, x_bslice, x_build, res_cellN, res_cell1, valN_tmp, valN_const, if_true, if_false, Nat.le_refl, true_and, and_true, decide_true, decide_false, Bool.not_true, Bool.not_false, reduceIte, Nat.reduceEqDiff, Nat.reduceAdd, Nat.reduceMul, Nat.reduceSub, Nat.reduceLeDiff, Nat.reduceLT, hb.ldN 0 2 (by simp) (by simp), List.drop_zero, List.take_succ_cons, List.take_zero, isUpTo_c (n := n) (by omega) hr1]

def s118 : SCode := (.seq (.ops [⟨(some 2), none, .mov (.const (.bool false))⟩]) (.seq (.ops [⟨(some 3), none, .mov (T 0)⟩, ⟨(some 4), none, .int2 .leq (.const (.int .i64 (0))) (T 3)⟩, ⟨(some 5), none, .mov (T 4)⟩, ⟨(some 6), (some (5, true)), .mov (T 0)⟩, ⟨(some 7), (some (5, true)), .int2 .leq (T 6) (.const (.int .i64 (9)))⟩, ⟨(some 8), none, .pick (T 5) (T 7) (.const (.bool false))⟩, ⟨(some 2), none, .mov (T 8)⟩]) .ret))
theorem fok118 : FnOk Try.prog 118 9 s118 [.tmp 2] := ⟨Try.f118, _, Try.func118, rfl, Try.ntmps118, by kernel_rfl, by kernel_rfl⟩
theorem isBundles_c (hn : 1 ≤ n) (m : Int) : call n (.func (.func 118) #[] #[]) [.int .i64 m] h = some (.bool (decide (0 ≤ m ∧ m ≤ 9)), h) := by
  obtain ⟨n, rfl⟩ : ∃ p, n = p + 1 := ⟨n - 1, by omega⟩
  refine call_plain0 fok118 rfl rfl (by simp) rfl ?_
  by_cases c1 : 0 ≤ m <;> by_cases c2 : m ≤ 9 <;> simp only [W_skip, W_ret, W_exit, W_seq, W_block, then_norm', then_exit', then_ret', block_norm', block_ret', block_exit', W_cond, cond_true', cond_false', W_ops, ops_nil, ops_cons, ops_guard, step_some, g_tt, g_tf, g_ft, g_ff, put_some, put_none, upd_ite, val_tmp, fr0_zero, fr0_succ, ret_ret, ret_norm, res_tmp, ex_some, val_const, val_func, vals_nil, vals_cons, d_nil, d_free, d_rd1, d_rd, d_up, d_any, same_some, up_some, all_reads, Sub.refl, x_mov, x_pick, pick_t, pick_f, x_field1, x_fieldN, x_extract, x_box, x_alloc, x_load1, x_loadN, withH_some', x_store, x_mkfunc, x_mkslice, x_slice, x_fieldAddr, fieldAt_p, x_idxArr, x_idxSl, x_append, x_there, x_len, len_slice, x_not, not_bool, x_call, x_int2, i_add, i_sub, i_mul, i_eql, i_neq, i_lss, i_leq, i_gtr, i_geq, x_plain, p_min, p_max, p_rem, p_quo, r_min, r_max, p_shl, p_or, p_and, p_andNot, eqV_i, x_bslice, x_build, res_cellN, res_cell1, valN_tmp, valN_const, if_true, if_false, Nat.le_refl, true_and, and_true, decide_true, decide_false, Bool.not_true, Bool.not_false, reduceIte, Nat.reduceEqDiff, Nat.reduceAdd, Nat.reduceMul, Nat.reduceSub, Nat.reduceLeDiff, Nat.reduceLT, s118, c1, c2, and_self, and_false, false_and]

/-- what is asked of a condition that 'every' is handed -/
def Cond (n : Nat) (h : AHeap) (k : Nat) (ok : Value) (m : Nat) (elem : Nat → Value) (p : Nat → Prop) : Prop :=
  ∀ g, Sub All h g → g.next ≤ h.next + k → ∀ i, i < m → ∃ b, (b = true ↔ p i) ∧ call n ok [elem i] g = some (.bool b, g)
def s103 : SCode := (.seq (.ops [⟨(some 4), none, .mov (.const (.bool false))⟩]) (.seq (.seq (.ops [⟨(some 7), none, .mov (T 0)⟩, ⟨(some 8), none, .len (T 7)⟩, ⟨(some 9), none, .mov (.const (.int .i64 (0)))⟩]) (.block 0 (.loop (.seq (.ops [⟨(some 10), none, .int2 .lss (T 9) (T 8)⟩]) (.seq (.cond (T 10) .skip (.exit 0)) (.seq (.block 1 (.seq (.ops [⟨(some 11), none, .idxSl 1 (T 7) (T 9)⟩, ⟨(some 12), none, .load1 (T 11)⟩, ⟨(some 6), none, .mov (T 12)⟩]) (.seq (.ops [⟨(some 13), none, .mov (T 1)⟩, ⟨(some 14), none, .mov (T 6)⟩, ⟨(some 15), none, .call (T 13) [(T 14)]⟩, ⟨(some 16), none, .not (T 15)⟩]) (.cond (T 16) (.seq (.ops [⟨(some 4), none, .mov (.const (.bool false))⟩]) .ret) .skip)))) (.ops [⟨(some 17), none, .int2 .add (T 9) (.const (.int .i64 (1)))⟩, ⟨(some 9), none, .mov (T 17)⟩]))))))) (.seq (.ops [⟨(some 4), none, .mov (.const (.bool true))⟩]) .ret)))
theorem fok103 : FnOk Try.prog 103 18 s103 [.tmp 4] := ⟨Try.f103, _, Try.func103, rfl, Try.ntmps103, by kernel_rfl, by kernel_rfl⟩
open Classical in
theorem everyInt_c (hn : 10001 ≤ n) {v ok : Value} {m : Nat} {a : Nat → Int} {p : Nat → Prop} (hv : Ints h v m a) (hm : m ≤ 9000) (hok : Cond (n - 1) h.shutAll 0 ok m (fun i => .int .i64 (a i)) p) :
    call n (.func (.func 103) #[] #[]) [v, ok] h = some (.bool (decide (∀ i, i < m → p i)), h) := by
  obtain ⟨n, rfl⟩ : ∃ p, n = p + 1 := ⟨n - 1, by omega⟩
  refine call_plain0 fok103 rfl rfl (by simp) rfl ?_
  have hv := Cells.shut hv
  rw [Nat.add_sub_cancel] at hok
  generalize h.shutAll = h at hv hok
  simp only [W_skip, W_ret, W_exit, W_seq, W_block, then_norm', then_exit', then_ret', block_norm', block_ret', block_exit', W_cond, cond_true', cond_false', W_ops, ops_nil, ops_cons, ops_guard, step_some, g_tt, g_tf, g_ft, g_ff, put_some, put_none, upd_ite, val_tmp, fr0_zero, fr0_succ, ret_ret, ret_norm, res_tmp, ex_some, val_const, val_func, vals_nil, vals_cons, d_nil, d_free, d_rd1, d_rd, d_up, d_any, same_some, up_some, all_reads, Sub.refl, x_mov, x_pick, pick_t, pick_f, x_field1, x_fieldN, x_extract, x_box, x_alloc, x_load1, x_loadN, withH_some', x_store, x_mkfunc, x_mkslice, x_slice, x_fieldAddr, fieldAt_p, x_idxArr, x_idxSl, x_append, x_there, x_len, len_slice, x_not, not_bool, x_call, x_int2, i_add, i_sub, i_mul, i_eql, i_neq, i_lss, i_leq, i_gtr, i_geq, x_plain, p_min, p_max, p_rem, p_quo, r_min, r_max, p_shl, p_or, p_and, p_andNot, eqV_i, x_bslice, x_build, res_cellN, res_cell1, valN_tmp, valN_const, if_true, if_false, Nat.le_refl, true_and, and_true, decide_true, decide_false, Bool.not_true, Bool.not_false, reduceIte, Nat.reduceEqDiff, Nat.reduceAdd, Nat.reduceMul, Nat.reduceSub, Nat.reduceLeDiff, Nat.reduceLT, s103, hv.len]
  refine W_loop m (fun k f g m' => g = h ∧ m' = [] ∧ f 1 = ok ∧ f 7 = v ∧ f 8 = .int .i64 (m : Int) ∧ f 9 = .int .i64 (k : Int) ∧ ∀ i, i < k → p i) (by simp; omega) ?_ ?_ ?_
  · simp only [W_skip, W_ret, W_exit, W_seq, W_block, then_norm', then_exit', then_ret', block_norm', block_ret', block_exit', W_cond, cond_true', cond_false', W_ops, ops_nil, ops_cons, ops_guard, step_some, g_tt, g_tf, g_ft, g_ff, put_some, put_none, upd_ite, val_tmp, fr0_zero, fr0_succ, ret_ret, ret_norm, res_tmp, ex_some, val_const, val_func, vals_nil, vals_cons, d_nil, d_free, d_rd1, d_rd, d_up, d_any, same_some, up_some, all_reads, Sub.refl, x_mov, x_pick, pick_t, pick_f, x_field1, x_fieldN, x_extract, x_box, x_alloc, x_load1, x_loadN, withH_some', x_store, x_mkfunc, x_mkslice, x_slice, x_fieldAddr, fieldAt_p, x_idxArr, x_idxSl, x_append, x_there, x_len, len_slice, x_not, not_bool, x_call, x_int2, i_add, i_sub, i_mul, i_eql, i_neq, i_lss, i_leq, i_gtr, i_geq, x_plain, p_min, p_max, p_rem, p_quo, r_min, r_max, p_shl, p_or, p_and, p_andNot, eqV_i, x_bslice, x_build, res_cellN, res_cell1, valN_tmp, valN_const, if_true, if_false, Nat.le_refl, true_and, and_true, decide_true, decide_false, Bool.not_true, Bool.not_false, reduceIte, Nat.reduceEqDiff, Nat.reduceAdd, Nat.reduceMul, Nat.reduceSub, Nat.reduceLeDiff, Nat.reduceLT, Nat.not_lt_zero, false_implies, implies_true]
    trivial
  · rintro k f g m' hk ⟨rfl, rfl, f1, f7, f8, f9, hlt⟩
    have hk' : (k : Int) < (m : Int) := by omega
    have hw : wrapF .i64 ((k : Int) + 1) = ((k + 1 : Nat) : Int) := by rw [wrap_in (by omega) (by omega)]; rfl
    obtain ⟨b, hb, e⟩ := hok g Sub.refl (by omega) k hk
    cases b with
    | true =>
      have hp : p k := hb.1 rfl
      simp only [W_skip, W_ret, W_exit, W_seq, W_block, then_norm', then_exit', then_ret', block_norm', block_ret', block_exit', W_cond, cond_true', cond_false', W_ops, ops_nil, ops_cons, ops_guard, step_some, g_tt, g_tf, g_ft, g_ff, put_some, put_none, upd_ite, val_tmp, fr0_zero, fr0_succ, ret_ret, ret_norm, res_tmp, ex_some, val_const, val_func, vals_nil, vals_cons, d_nil, d_free, d_rd1, d_rd, d_up, d_any, same_some, up_some, all_reads, Sub.refl, x_mov, x_pick, pick_t, pick_f, x_field1, x_fieldN, x_extract, x_box, x_alloc, x_load1, x_loadN, withH_some', x_store, x_mkfunc, x_mkslice, x_slice, x_fieldAddr, fieldAt_p, x_idxArr, x_idxSl, x_append, x_there, x_len, len_slice, x_not, not_bool, x_call, x_int2, i_add, i_sub, i_mul, i_eql, i_neq, i_lss, i_leq, i_gtr, i_geq, x_plain, p_min, p_max, p_rem, p_quo, r_min, r_max, p_shl, p_or, p_and, p_andNot, eqV_i, x_bslice, x_build, res_cellN, res_cell1, valN_tmp, valN_const, if_true, if_false, Nat.le_refl, true_and, and_true, decide_true, decide_false, Bool.not_true, Bool.not_false, reduceIte, Nat.reduceEqDiff, Nat.reduceAdd, Nat.reduceMul, Nat.reduceSub, Nat.reduceLeDiff, Nat.reduceLT, f1, f7, f8, f9, hk', hv.idx hk, hv.ld hk Nat.zero_lt_one, e, hw]
      intro j hj
      by_cases ej : j = k
      · subst ej; exact hp
      · exact hlt j (by omega)
    | false =>
      have hp : ¬ ∀ i, i < m → p i := fun h => by have := hb.2 (h k hk); cases this
      simp only [W_skip, W_ret, W_exit, W_seq, W_block, then_norm', then_exit', then_ret', block_norm', block_ret', block_exit', W_cond, cond_true', cond_false', W_ops, ops_nil, ops_cons, ops_guard, step_some, g_tt, g_tf, g_ft, g_ff, put_some, put_none, upd_ite, val_tmp, fr0_zero, fr0_succ, ret_ret, ret_norm, res_tmp, ex_some, val_const, val_func, vals_nil, vals_cons, d_nil, d_free, d_rd1, d_rd, d_up, d_any, same_some, up_some, all_reads, Sub.refl, x_mov, x_pick, pick_t, pick_f, x_field1, x_fieldN, x_extract, x_box, x_alloc, x_load1, x_loadN, withH_some', x_store, x_mkfunc, x_mkslice, x_slice, x_fieldAddr, fieldAt_p, x_idxArr, x_idxSl, x_append, x_there, x_len, len_slice, x_not, not_bool, x_call, x_int2, i_add, i_sub, i_mul, i_eql, i_neq, i_lss, i_leq, i_gtr, i_geq, x_plain, p_min, p_max, p_rem, p_quo, r_min, r_max, p_shl, p_or, p_and, p_andNot, eqV_i, x_bslice, x_build, res_cellN, res_cell1, valN_tmp, valN_const, if_true, if_false, Nat.le_refl, true_and, and_true, decide_true, decide_false, Bool.not_true, Bool.not_false, reduceIte, Nat.reduceEqDiff, Nat.reduceAdd, Nat.reduceMul, Nat.reduceSub, Nat.reduceLeDiff, Nat.reduceLT, f1, f7, f8, f9, hk', hv.idx hk, hv.ld hk Nat.zero_lt_one, e, hw, hp]
  · rintro f g m' ⟨rfl, rfl, f1, f7, f8, f9, hlt⟩
    simp only [W_skip, W_ret, W_exit, W_seq, W_block, then_norm', then_exit', then_ret', block_norm', block_ret', block_exit', W_cond, cond_true', cond_false', W_ops, ops_nil, ops_cons, ops_guard, step_some, g_tt, g_tf, g_ft, g_ff, put_some, put_none, upd_ite, val_tmp, fr0_zero, fr0_succ, ret_ret, ret_norm, res_tmp, ex_some, val_const, val_func, vals_nil, vals_cons, d_nil, d_free, d_rd1, d_rd, d_up, d_any, same_some, up_some, all_reads, Sub.refl, x_mov, x_pick, pick_t, pick_f, x_field1, x_fieldN, x_extract, x_box, x_alloc, x_load1, x_loadN, withH_some', x_store, x_mkfunc, x_mkslice, x_slice, x_fieldAddr, fieldAt_p, x_idxArr, x_idxSl, x_append, x_there, x_len, len_slice, x_not, not_bool, x_call, x_int2, i_add, i_sub, i_mul, i_eql, i_neq, i_lss, i_leq, i_gtr, i_geq, x_plain, p_min, p_max, p_rem, p_quo, r_min, r_max, p_shl, p_or, p_and, p_andNot, eqV_i, x_bslice, x_build, res_cellN, res_cell1, valN_tmp, valN_const, if_true, if_false, Nat.le_refl, true_and, and_true, decide_true, decide_false, Bool.not_true, Bool.not_false, reduceIte, Nat.reduceEqDiff, Nat.reduceAdd, Nat.reduceMul, Nat.reduceSub, Nat.reduceLeDiff, Nat.reduceLT, f1, f7, f8, f9, Int.lt_irrefl, eq_true hlt]
end Go.Vm.Vat
