/- Texts of the proofs of this seat, put together: VatV7, VatIter, VatOpen. -/
import Derived.Test.YtnibceeoejeimaaPk6

namespace Go.Vm.Vat
open Go.Proofs
set_option linter.unusedSimpArgs false
set_option linter.unusedVariables false
set_option maxRecDepth 10000
variable {n : Nat} {h : AHeap}

theorem blueN_congr {b c q : Nat → Int} : ∀ i, (∀ k, k < i → b k = c k) → blueN b q i = blueN c q i
  | 0, _ => rfl
  | i + 1, hc => by simp only [blueN]; rw [blueN_congr i fun k hk => hc k (by omega), hc i (by omega)]
theorem blueN_upto {b q : Nat → Int} {nf : Nat} : blueN (upto nf b) q nf = blueN b q nf := blueN_congr nf fun k hk => by simp [upto, hk]
/-- a list of n numbers of which the first k are there -/
def mix (n k : Nat) (a : Nat → Int) : List Value := (List.range n).map fun i => .int .i64 (if i < k then a i else 0)
theorem mix_len {n k : Nat} {a : Nat → Int} : (mix n k a).length = n := by simp [mix]
theorem mix_get {n k i : Nat} {a : Nat → Int} (hi : i < n) : (mix n k a)[i]? = some (.int .i64 (if i < k then a i else 0)) := by
  rw [mix, List.getElem?_map, List.getElem?_range hi]; rfl
theorem mix_one {n k : Nat} {a : Nat → Int} : allB oneCell (mix n k a) = true := by rw [allB_iff]; intro v hv; obtain ⟨i, _, rfl⟩ := List.mem_map.1 hv; rfl
theorem mix_splice {n k : Nat} {a : Nat → Int} (hk : k < n) : splice (mix n k a) k [.int .i64 (a k)] = mix n (k + 1) a := by
  apply List.ext_getElem?
  intro i
  by_cases hi : i < n
  · rw [mix_get hi]
    simp only [splice]
    by_cases h1 : i < k
    · rw [List.getElem?_append_left (by simp [mix_len]; omega), List.getElem?_take, if_pos h1, mix_get hi, if_pos h1, if_pos (by omega)]
    · rw [List.getElem?_append_right (by simp [mix_len]; omega)]
      have e : (List.take k (mix n k a)).length = k := by simp [mix_len]; omega
      rw [e]
      by_cases h2 : i = k
      · subst h2
        simp
      · rw [List.getElem?_append_right (by simp; omega), List.getElem?_drop]
        simp only [List.length_cons, List.length_nil]
        rw [show k + (0 + 1) + (i - k - (0 + 1)) = i by omega, mix_get hi, if_neg h1, if_neg (by omega)]
  · rw [List.getElem?_eq_none (by simp [splice, mix_len]; omega), List.getElem?_eq_none (by rw [mix_len]; omega)]
theorem repl_mix {n : Nat} {a : Nat → Int} : repl [.int .i64 0] n = mix n 0 a := by
  have : ∀ n, repl [(.int .i64 0 : Value)] n = List.replicate n (.int .i64 0) := by
    intro n
    induction n with
    | zero => rfl
    | succ n ih => simp [repl, ih, List.replicate_succ]
  rw [this, mix]
  apply List.ext_getElem?
  intro i
  by_cases hi : i < n
  · rw [List.getElem?_replicate, if_pos hi, List.getElem?_map, List.getElem?_range hi]; simp
  · rw [List.getElem?_eq_none (by simp; omega), List.getElem?_eq_none (by simp; omega)]
theorem make_ints {s : Nat} {z : List Value} {m : Nat} (hm : m ≤ 1000) : makeSl s 8 z h (.int .i64 (m : Int)) (.int .i64 (m : Int)) = newSlice h (repl z m) m m 0 := by
  show (bif Nat.ble m m && Nat.ble (m * 8) maxBytes && Nat.ble m maxBytes then newSlice h (repl z m) m m 0 else none) = _
  have e1 : Nat.ble m m = true := ble_iff.2 (Nat.le_refl _)
  have e2 : Nat.ble (m * 8) maxBytes = true := ble_iff.2 (by simp [maxBytes]; omega)
  have e3 : Nat.ble m maxBytes = true := ble_iff.2 (by simp [maxBytes]; omega)
  rw [e1, e2, e3]; rfl
theorem idxSl_p {k m c o : Nat} (hk : k < m) : indexSl 1 (.slice (some ⟨o, 0, none⟩) m c) (.int .i64 (k : Int)) = some (.pointer (some ⟨o, k, none⟩)) := by
  show placeAt ⟨o, 0, none⟩ (Int.ofNat k) m 1 = _
  unfold placeAt
  simp only [blt_iff.2 hk, cond_true, Nat.mul_one, Nat.zero_add]
theorem ex0 {x y : Value} : extractA 0 (.tuple ⟨[x, y]⟩) h = some (x, h) := id rfl
theorem ex1 {x y : Value} : extractA 1 (.tuple ⟨[x, y]⟩) h = some (y, h) := id rfl
theorem ret_tt {a b : Nat} {f : Fr} : resV f h [.tmp a, .tmp b] = some (.tuple ⟨[f a, f b]⟩) := id rfl

/-- what Play answers -/
def PlayR (h : AHeap) (Y : MY) (nb : Nat) (b : Nat → Int) (v : Value) (h' : AHeap) : Prop := Made h h' 50 ∧
      ((faultN Y ≠ 0 ∧ v = .tuple ⟨[nilS, .int .i64 (faultN Y)]⟩) ∨ (faultN Y = 0 ∧ ¬ AreB Y nb b ∧ v = .tuple ⟨[nilS, .int .i64 2]⟩) ∨
        (faultN Y = 0 ∧ AreB Y nb b ∧ ∃ l, v = .tuple ⟨[l, .int .i64 0]⟩ ∧ Ints h' l Y.nv fun k => blueN b (Y.q k) Y.nf))
theorem good_of {Y : MY} (hf : faultN Y = 0) : Good Y := by
  unfold faultN at hf
  by_cases h1 : SizesOk Y
  · rw [if_neg (by simpa using h1)] at hf
    by_cases h2 : FieldsOk Y ∧ VatsOk Y ∧ SampsOk Y
    · exact ⟨h1, h2.1, h2.2.1, h2.2.2⟩
    · rw [if_neg h2] at hf; cases hf
  · rw [if_pos h1] at hf; cases hf
def s25 : SCode := (.seq (.ops [⟨(some 2), none, .box (T 0)⟩, ⟨(some 4), none, .mov (.const (.slice none 0 0))⟩, ⟨(some 5), none, .mov (.const (.int .i64 (0)))⟩]) (.seq (.seq (.ops [⟨(some 12), none, .loadN 3 (T 2)⟩, ⟨(some 13), none, .call (.func 30) [(T 12)]⟩, ⟨(some 6), none, .mov (T 13)⟩]) (.seq (.ops [⟨(some 14), none, .mov (T 6)⟩, ⟨(some 15), none, .int2 .neq (T 14) (.const (.int .i64 (0)))⟩]) (.cond (T 15) (.seq (.ops [⟨(some 16), none, .mov (T 6)⟩, ⟨(some 4), none, .mov (.const (.slice none 0 0))⟩, ⟨(some 5), none, .mov (T 16)⟩]) .ret) .skip))) (.seq (.ops [⟨(some 17), none, .loadN 3 (T 2)⟩, ⟨(some 18), none, .build #[(0, 3), (3, 1)] [(.slice none 0 0), (.slice none 0 0), (.slice none 0 0), (.slice none 0 0)] [0] [(T 17)]⟩, ⟨(some 7), none, .alloc [(.slice none 0 0), (.slice none 0 0), (.slice none 0 0), (.slice none 0 0)]⟩, ⟨none, none, .store 4 (T 7) (T 18)⟩]) (.seq (.ops [⟨(some 20), none, .loadN 4 (T 7)⟩, ⟨(some 21), none, .mov (T 1)⟩, ⟨(some 22), none, .call (.func 76) [(T 20), (T 21)]⟩, ⟨(some 19), none, .mov (T 22)⟩, ⟨(some 23), none, .extract 0 (T 19)⟩, ⟨(some 24), none, .extract 1 (T 19)⟩, ⟨(some 8), none, .alloc [(.int .i64 (0)), (.int .i64 (0)), (.int .i64 (0)), (.int .i64 (0)), (.int .i64 (0))]⟩, ⟨none, none, .store 5 (T 8) (T 23)⟩, ⟨(some 9), none, .mov (T 24)⟩]) (.seq (.seq (.ops [⟨(some 25), none, .mov (T 9)⟩, ⟨(some 26), none, .not (T 25)⟩]) (.cond (T 26) (.seq (.ops [⟨(some 4), none, .mov (.const (.slice none 0 0))⟩, ⟨(some 5), none, .mov (.const (.int .i64 (2)))⟩]) .ret) .skip)) (.seq (.ops [⟨(some 27), none, .fieldAddr 0 (T 7)⟩, ⟨(some 28), none, .fieldAddr 1 (T 27)⟩, ⟨(some 29), none, .load1 (T 28)⟩, ⟨(some 30), none, .len (T 29)⟩, ⟨(some 31), none, .mkslice 1 8 [(.int .i64 (0))] (T 30) (T 30)⟩, ⟨(some 10), none, .mov (T 31)⟩]) (.seq (.seq (.ops [⟨(some 32), none, .fieldAddr 0 (T 7)⟩, ⟨(some 33), none, .fieldAddr 1 (T 32)⟩, ⟨(some 34), none, .load1 (T 33)⟩, ⟨(some 35), none, .len (T 34)⟩, ⟨(some 36), none, .mov (.const (.int .i64 (0)))⟩]) (.block 0 (.loop (.seq (.ops [⟨(some 37), none, .int2 .lss (T 36) (T 35)⟩]) (.seq (.cond (T 37) .skip (.exit 0)) (.seq (.block 1 (.seq (.ops [⟨(some 38), none, .mov (T 36)⟩, ⟨(some 11), none, .mov (T 38)⟩]) (.ops [⟨(some 39), none, .mov (T 10)⟩, ⟨(some 40), none, .mov (T 11)⟩, ⟨(some 41), none, .loadN 4 (T 7)⟩, ⟨(some 42), none, .loadN 5 (T 8)⟩, ⟨(some 43), none, .mov (T 11)⟩, ⟨(some 44), none, .call (.func 77) [(T 41), (T 42), (T 43)]⟩, ⟨(some 45), none, .idxSl 1 (T 39) (T 40)⟩, ⟨none, none, .store 1 (T 45) (T 44)⟩]))) (.ops [⟨(some 46), none, .int2 .add (T 36) (.const (.int .i64 (1)))⟩, ⟨(some 36), none, .mov (T 46)⟩]))))))) (.seq (.ops [⟨(some 47), none, .mov (T 10)⟩, ⟨(some 4), none, .mov (T 47)⟩, ⟨(some 5), none, .mov (.const (.int .i64 (0)))⟩]) .ret))))))))
theorem fok25 : FnOk Try.prog 25 48 s25 [.tmp 4, .tmp 5] := ⟨Try.f25, _, Try.func25, rfl, Try.ntmps25, by kernel_rfl, by kernel_rfl⟩
theorem play_c (hn : 10005 ≤ n) (hr : h.next + 200 < far) (hfl : h.floor ≤ h.next) {F V S vb : Value} {Y : MY} {nb : Nat} {b : Nat → Int} (hy : YardR h F V S Y) (hY : Thin Y) (hb : Ints h vb nb b) (hl : nb ≤ 30) :
    ∃ v h', call n (.func (.func 25) #[] #[]) [.agg ⟨[F, V, S]⟩, vb] h = some (v, h') ∧ PlayR h Y nb b v h' := by
  obtain ⟨n, rfl⟩ : ∃ p, n = p + 1 := ⟨n - 1, by omega⟩
  refine call_any0 fok25 rfl rfl (by simp) ?_
  simp only [s25, W_seq, W_ops]
  refine ops_box (cs := [F, V, S]) (by omega) rfl hy.one fun g1 hx1 => ?_
  have n1 := hx1.next
  have f1 := hx1.floor
  have hy1 := hy.mono hx1.sub
  have w1 := hx1.row.whole (n := 3) rfl
  have ec := checkYard_c (n := n) (h := g1) (by omega) (by omega) hy1 hY
  by_cases hf : faultN Y = 0
  case neg =>
    simp only [W_skip, W_ret, W_exit, W_seq, W_block, then_norm', then_exit', then_ret', block_norm', block_ret', block_exit', W_cond, cond_true', cond_false', W_ops, ops_nil, ops_cons, ops_guard, step_some, g_tt, g_tf, g_ft, g_ff, put_some, put_none, upd_ite, val_tmp, fr0_zero, fr0_succ, ret_ret, ret_norm, res_tmp, ex_some, val_const, val_func, vals_nil, vals_cons, d_nil, d_free, d_rd1, d_rd, d_up, d_any, same_some, up_some, all_reads, Sub.refl, x_mov, x_pick, pick_t, pick_f, x_field1, x_fieldN, x_extract, x_box, x_alloc, x_load1, x_loadN, withH_some', x_store, x_mkfunc, x_mkslice, x_slice, x_fieldAddr, fieldAt_p, x_idxArr, x_idxSl, x_append, x_there, x_len, len_slice, x_not, not_bool, x_call, x_int2, i_add, i_sub, i_mul, i_eql, i_neq, i_lss, i_leq, i_gtr, i_geq, x_plain, p_min, p_max, p_rem, p_quo, r_min, r_max, p_shl, p_or, p_and, p_andNot, eqV_i, x_bslice, x_build, res_cellN, res_cell1, valN_tmp, valN_const, if_true, if_false, Nat.le_refl, true_and, and_true, decide_true, decide_false, Bool.not_true, Bool.not_false, reduceIte, Nat.reduceEqDiff, Nat.reduceAdd, Nat.reduceMul, Nat.reduceSub, Nat.reduceLeDiff, Nat.reduceLT, w1, ec, hf, ret_tt]
    exact ⟨⟨hx1.sub, by omega, by omega, f1⟩, .inl ⟨hf, rfl⟩⟩
  have hG := good_of hf
  obtain ⟨z1, z2, z3⟩ := hG.sz
  have ho4 : allB oneCell [F, V, S, .slice none 0 0] = true := by have := hy.one; simp [allB] at this ⊢; simp [this]; rfl
  simp only [W_skip, W_ret, W_exit, W_seq, W_block, then_norm', then_exit', then_ret', block_norm', block_ret', block_exit', W_cond, cond_true', cond_false', W_ops, ops_nil, ops_cons, ops_guard, step_some, g_tt, g_tf, g_ft, g_ff, put_some, put_none, upd_ite, val_tmp, fr0_zero, fr0_succ, ret_ret, ret_norm, res_tmp, ex_some, val_const, val_func, vals_nil, vals_cons, d_nil, d_free, d_rd1, d_rd, d_up, d_any, same_some, up_some, all_reads, Sub.refl, x_mov, x_pick, pick_t, pick_f, x_field1, x_fieldN, x_extract, x_box, x_alloc, x_load1, x_loadN, withH_some', x_store, x_mkfunc, x_mkslice, x_slice, x_fieldAddr, fieldAt_p, x_idxArr, x_idxSl, x_append, x_there, x_len, len_slice, x_not, not_bool, x_call, x_int2, i_add, i_sub, i_mul, i_eql, i_neq, i_lss, i_leq, i_gtr, i_geq, x_plain, p_min, p_max, p_rem, p_quo, r_min, r_max, p_shl, p_or, p_and, p_andNot, eqV_i, x_bslice, x_build, res_cellN, res_cell1, valN_tmp, valN_const, if_true, if_false, Nat.le_refl, true_and, and_true, decide_true, decide_false, Bool.not_true, Bool.not_false, reduceIte, Nat.reduceEqDiff, Nat.reduceAdd, Nat.reduceMul, Nat.reduceSub, Nat.reduceLeDiff, Nat.reduceLT, w1, ec, hf, build_work]
  refine step_new (vs := [F, V, S, .slice none 0 0]) (by omega) (by omega) rfl (by simp only [W_skip, W_ret, W_exit, W_seq, W_block, then_norm', then_exit', then_ret', block_norm', block_ret', block_exit', W_cond, cond_true', cond_false', W_ops, ops_nil, ops_cons, ops_guard, step_some, g_tt, g_tf, g_ft, g_ff, put_some, put_none, upd_ite, val_tmp, fr0_zero, fr0_succ, ret_ret, ret_norm, res_tmp, ex_some, val_const, val_func, vals_nil, vals_cons, d_nil, d_free, d_rd1, d_rd, d_up, d_any, same_some, up_some, all_reads, Sub.refl, x_mov, x_pick, pick_t, pick_f, x_field1, x_fieldN, x_extract, x_box, x_alloc, x_load1, x_loadN, withH_some', x_store, x_mkfunc, x_mkslice, x_slice, x_fieldAddr, fieldAt_p, x_idxArr, x_idxSl, x_append, x_there, x_len, len_slice, x_not, not_bool, x_call, x_int2, i_add, i_sub, i_mul, i_eql, i_neq, i_lss, i_leq, i_gtr, i_geq, x_plain, p_min, p_max, p_rem, p_quo, r_min, r_max, p_shl, p_or, p_and, p_andNot, eqV_i, x_bslice, x_build, res_cellN, res_cell1, valN_tmp, valN_const, if_true, if_false, Nat.le_refl, true_and, and_true, decide_true, decide_false, Bool.not_true, Bool.not_false, reduceIte, Nat.reduceEqDiff, Nat.reduceAdd, Nat.reduceMul, Nat.reduceSub, Nat.reduceLeDiff, Nat.reduceLT]; rfl) ho4 rfl rfl fun g2 hx2 => ?_
  have n2 := hx2.next
  have f2 := hx2.floor
  have hy2 := hy1.mono hx2.sub
  have hb2 := Cells.mono (Cells.mono hb hx1.sub) hx2.sub
  have w2 := hx2.row.whole (n := 4) rfl
  have hs2 : Sub All h g2 := hx1.sub.trans hx2.sub
  obtain ⟨t0, t1⟩ := toBlues_c (n := n) (h := g2) (by omega) (by omega) hy2.f ho4 hb2 hl z1
  by_cases hB : AreB Y nb b
  case neg =>
    have e := t0 fun h => hB ⟨h.1, fun k hk => h.2 k (by rw [← h.1]; exact hk)⟩
    simp only [W_skip, W_ret, W_exit, W_seq, W_block, then_norm', then_exit', then_ret', block_norm', block_ret', block_exit', W_cond, cond_true', cond_false', W_ops, ops_nil, ops_cons, ops_guard, step_some, g_tt, g_tf, g_ft, g_ff, put_some, put_none, upd_ite, val_tmp, fr0_zero, fr0_succ, ret_ret, ret_norm, res_tmp, ex_some, val_const, val_func, vals_nil, vals_cons, d_nil, d_free, d_rd1, d_rd, d_up, d_any, same_some, up_some, all_reads, Sub.refl, x_mov, x_pick, pick_t, pick_f, x_field1, x_fieldN, x_extract, x_box, x_alloc, x_load1, x_loadN, withH_some', x_store, x_mkfunc, x_mkslice, x_slice, x_fieldAddr, fieldAt_p, x_idxArr, x_idxSl, x_append, x_there, x_len, len_slice, x_not, not_bool, x_call, x_int2, i_add, i_sub, i_mul, i_eql, i_neq, i_lss, i_leq, i_gtr, i_geq, x_plain, p_min, p_max, p_rem, p_quo, r_min, r_max, p_shl, p_or, p_and, p_andNot, eqV_i, x_bslice, x_build, res_cellN, res_cell1, valN_tmp, valN_const, if_true, if_false, Nat.le_refl, true_and, and_true, decide_true, decide_false, Bool.not_true, Bool.not_false, reduceIte, Nat.reduceEqDiff, Nat.reduceAdd, Nat.reduceMul, Nat.reduceSub, Nat.reduceLeDiff, Nat.reduceLT, w2, e, ex0, ex1]
    refine step_new (vs := arr (upto 0 b)) (by omega) (by omega) rfl (by simp only [W_skip, W_ret, W_exit, W_seq, W_block, then_norm', then_exit', then_ret', block_norm', block_ret', block_exit', W_cond, cond_true', cond_false', W_ops, ops_nil, ops_cons, ops_guard, step_some, g_tt, g_tf, g_ft, g_ff, put_some, put_none, upd_ite, val_tmp, fr0_zero, fr0_succ, ret_ret, ret_norm, res_tmp, ex_some, val_const, val_func, vals_nil, vals_cons, d_nil, d_free, d_rd1, d_rd, d_up, d_any, same_some, up_some, all_reads, Sub.refl, x_mov, x_pick, pick_t, pick_f, x_field1, x_fieldN, x_extract, x_box, x_alloc, x_load1, x_loadN, withH_some', x_store, x_mkfunc, x_mkslice, x_slice, x_fieldAddr, fieldAt_p, x_idxArr, x_idxSl, x_append, x_there, x_len, len_slice, x_not, not_bool, x_call, x_int2, i_add, i_sub, i_mul, i_eql, i_neq, i_lss, i_leq, i_gtr, i_geq, x_plain, p_min, p_max, p_rem, p_quo, r_min, r_max, p_shl, p_or, p_and, p_andNot, eqV_i, x_bslice, x_build, res_cellN, res_cell1, valN_tmp, valN_const, if_true, if_false, Nat.le_refl, true_and, and_true, decide_true, decide_false, Bool.not_true, Bool.not_false, reduceIte, Nat.reduceEqDiff, Nat.reduceAdd, Nat.reduceMul, Nat.reduceSub, Nat.reduceLeDiff, Nat.reduceLT]; rfl) arr_one arr_len rfl fun g3 hx3 => ?_
    have n3 := hx3.next
    have f3 := hx3.floor
    simp only [W_skip, W_ret, W_exit, W_seq, W_block, then_norm', then_exit', then_ret', block_norm', block_ret', block_exit', W_cond, cond_true', cond_false', W_ops, ops_nil, ops_cons, ops_guard, step_some, g_tt, g_tf, g_ft, g_ff, put_some, put_none, upd_ite, val_tmp, fr0_zero, fr0_succ, ret_ret, ret_norm, res_tmp, ex_some, val_const, val_func, vals_nil, vals_cons, d_nil, d_free, d_rd1, d_rd, d_up, d_any, same_some, up_some, all_reads, Sub.refl, x_mov, x_pick, pick_t, pick_f, x_field1, x_fieldN, x_extract, x_box, x_alloc, x_load1, x_loadN, withH_some', x_store, x_mkfunc, x_mkslice, x_slice, x_fieldAddr, fieldAt_p, x_idxArr, x_idxSl, x_append, x_there, x_len, len_slice, x_not, not_bool, x_call, x_int2, i_add, i_sub, i_mul, i_eql, i_neq, i_lss, i_leq, i_gtr, i_geq, x_plain, p_min, p_max, p_rem, p_quo, r_min, r_max, p_shl, p_or, p_and, p_andNot, eqV_i, x_bslice, x_build, res_cellN, res_cell1, valN_tmp, valN_const, if_true, if_false, Nat.le_refl, true_and, and_true, decide_true, decide_false, Bool.not_true, Bool.not_false, reduceIte, Nat.reduceEqDiff, Nat.reduceAdd, Nat.reduceMul, Nat.reduceSub, Nat.reduceLeDiff, Nat.reduceLT, ret_tt]
    exact ⟨⟨hs2.trans hx3.sub, by omega, by omega, by omega⟩, .inr (.inl ⟨hf, hB, rfl⟩)⟩
  have e := t1 ⟨hB.1, fun k hk => hB.2 k (by rw [hB.1]; exact hk)⟩
  simp only [W_skip, W_ret, W_exit, W_seq, W_block, then_norm', then_exit', then_ret', block_norm', block_ret', block_exit', W_cond, cond_true', cond_false', W_ops, ops_nil, ops_cons, ops_guard, step_some, g_tt, g_tf, g_ft, g_ff, put_some, put_none, upd_ite, val_tmp, fr0_zero, fr0_succ, ret_ret, ret_norm, res_tmp, ex_some, val_const, val_func, vals_nil, vals_cons, d_nil, d_free, d_rd1, d_rd, d_up, d_any, same_some, up_some, all_reads, Sub.refl, x_mov, x_pick, pick_t, pick_f, x_field1, x_fieldN, x_extract, x_box, x_alloc, x_load1, x_loadN, withH_some', x_store, x_mkfunc, x_mkslice, x_slice, x_fieldAddr, fieldAt_p, x_idxArr, x_idxSl, x_append, x_there, x_len, len_slice, x_not, not_bool, x_call, x_int2, i_add, i_sub, i_mul, i_eql, i_neq, i_lss, i_leq, i_gtr, i_geq, x_plain, p_min, p_max, p_rem, p_quo, r_min, r_max, p_shl, p_or, p_and, p_andNot, eqV_i, x_bslice, x_build, res_cellN, res_cell1, valN_tmp, valN_const, if_true, if_false, Nat.le_refl, true_and, and_true, decide_true, decide_false, Bool.not_true, Bool.not_false, reduceIte, Nat.reduceEqDiff, Nat.reduceAdd, Nat.reduceMul, Nat.reduceSub, Nat.reduceLeDiff, Nat.reduceLT, w2, e, ex0, ex1]
  refine step_new (vs := arr (upto Y.nf b)) (by omega) (by omega) rfl (by simp only [W_skip, W_ret, W_exit, W_seq, W_block, then_norm', then_exit', then_ret', block_norm', block_ret', block_exit', W_cond, cond_true', cond_false', W_ops, ops_nil, ops_cons, ops_guard, step_some, g_tt, g_tf, g_ft, g_ff, put_some, put_none, upd_ite, val_tmp, fr0_zero, fr0_succ, ret_ret, ret_norm, res_tmp, ex_some, val_const, val_func, vals_nil, vals_cons, d_nil, d_free, d_rd1, d_rd, d_up, d_any, same_some, up_some, all_reads, Sub.refl, x_mov, x_pick, pick_t, pick_f, x_field1, x_fieldN, x_extract, x_box, x_alloc, x_load1, x_loadN, withH_some', x_store, x_mkfunc, x_mkslice, x_slice, x_fieldAddr, fieldAt_p, x_idxArr, x_idxSl, x_append, x_there, x_len, len_slice, x_not, not_bool, x_call, x_int2, i_add, i_sub, i_mul, i_eql, i_neq, i_lss, i_leq, i_gtr, i_geq, x_plain, p_min, p_max, p_rem, p_quo, r_min, r_max, p_shl, p_or, p_and, p_andNot, eqV_i, x_bslice, x_build, res_cellN, res_cell1, valN_tmp, valN_const, if_true, if_false, Nat.le_refl, true_and, and_true, decide_true, decide_false, Bool.not_true, Bool.not_false, reduceIte, Nat.reduceEqDiff, Nat.reduceAdd, Nat.reduceMul, Nat.reduceSub, Nat.reduceLeDiff, Nat.reduceLT]; rfl) arr_one arr_len rfl fun g3 hx3 => ?_
  have n3 := hx3.next
  have f3 := hx3.floor
  have hy3 := hy2.mono hx3.sub
  have r2 := hx2.row.mono hx3.sub
  obtain ⟨rr, hrw, hq⟩ := hy3.v
  simp only [W_skip, W_ret, W_exit, W_seq, W_block, then_norm', then_exit', then_ret', block_norm', block_ret', block_exit', W_cond, cond_true', cond_false', W_ops, ops_nil, ops_cons, ops_guard, step_some, g_tt, g_tf, g_ft, g_ff, put_some, put_none, upd_ite, val_tmp, fr0_zero, fr0_succ, ret_ret, ret_norm, res_tmp, ex_some, val_const, val_func, vals_nil, vals_cons, d_nil, d_free, d_rd1, d_rd, d_up, d_any, same_some, up_some, all_reads, Sub.refl, x_mov, x_pick, pick_t, pick_f, x_field1, x_fieldN, x_extract, x_box, x_alloc, x_load1, x_loadN, withH_some', x_store, x_mkfunc, x_mkslice, x_slice, x_fieldAddr, fieldAt_p, x_idxArr, x_idxSl, x_append, x_there, x_len, len_slice, x_not, not_bool, x_call, x_int2, i_add, i_sub, i_mul, i_eql, i_neq, i_lss, i_leq, i_gtr, i_geq, x_plain, p_min, p_max, p_rem, p_quo, r_min, r_max, p_shl, p_or, p_and, p_andNot, eqV_i, x_bslice, x_build, res_cellN, res_cell1, valN_tmp, valN_const, if_true, if_false, Nat.le_refl, true_and, and_true, decide_true, decide_false, Bool.not_true, Bool.not_false, reduceIte, Nat.reduceEqDiff, Nat.reduceAdd, Nat.reduceMul, Nat.reduceSub, Nat.reduceLeDiff, Nat.reduceLT, r2.ld, Nat.zero_add, List.getElem?_cons_zero, List.getElem?_cons_succ, Cells.len hrw, make_ints (m := Y.nv) (by omega), repl_mix (n := Y.nv) (a := fun k => blueN b (Y.q k) Y.nf)]
  refine step_slice (by omega) mix_one fun g4 hx4 => ?_
  have n4 := hx4.next
  have f4 := hx4.floor
  have hy4 := hy3.mono hx4.sub
  have r24 := r2.mono hx4.sub
  have r34 := hx3.row.mono hx4.sub
  simp only [W_skip, W_ret, W_exit, W_seq, W_block, then_norm', then_exit', then_ret', block_norm', block_ret', block_exit', W_cond, cond_true', cond_false', W_ops, ops_nil, ops_cons, ops_guard, step_some, g_tt, g_tf, g_ft, g_ff, put_some, put_none, upd_ite, val_tmp, fr0_zero, fr0_succ, ret_ret, ret_norm, res_tmp, ex_some, val_const, val_func, vals_nil, vals_cons, d_nil, d_free, d_rd1, d_rd, d_up, d_any, same_some, up_some, all_reads, Sub.refl, x_mov, x_pick, pick_t, pick_f, x_field1, x_fieldN, x_extract, x_box, x_alloc, x_load1, x_loadN, withH_some', x_store, x_mkfunc, x_mkslice, x_slice, x_fieldAddr, fieldAt_p, x_idxArr, x_idxSl, x_append, x_there, x_len, len_slice, x_not, not_bool, x_call, x_int2, i_add, i_sub, i_mul, i_eql, i_neq, i_lss, i_leq, i_gtr, i_geq, x_plain, p_min, p_max, p_rem, p_quo, r_min, r_max, p_shl, p_or, p_and, p_andNot, eqV_i, x_bslice, x_build, res_cellN, res_cell1, valN_tmp, valN_const, if_true, if_false, Nat.le_refl, true_and, and_true, decide_true, decide_false, Bool.not_true, Bool.not_false, reduceIte, Nat.reduceEqDiff, Nat.reduceAdd, Nat.reduceMul, Nat.reduceSub, Nat.reduceLeDiff, Nat.reduceLT, r24.ld, Nat.zero_add, List.getElem?_cons_zero, List.getElem?_cons_succ, Cells.len (Cells.mono hrw hx4.sub)]
  refine W_loop Y.nv (fun k f g m => (Keep g3.next g4 g ∧ g.get g3.next = some (.row (mix Y.nv k fun k => blueN b (Y.q k) Y.nf) true 0) ∧ g.next = g4.next) ∧ m = [] ∧ f 7 = .pointer (some ⟨g1.next, 0, none⟩) ∧ f 8 = .pointer (some ⟨g2.next, 0, none⟩) ∧ f 10 = .slice (some ⟨g3.next, 0, none⟩) Y.nv Y.nv ∧ f 35 = .int .i64 (Y.nv : Int) ∧ f 36 = .int .i64 (k : Int)) (by simp; omega) ?_ ?_ ?_
  · simp only [W_skip, W_ret, W_exit, W_seq, W_block, then_norm', then_exit', then_ret', block_norm', block_ret', block_exit', W_cond, cond_true', cond_false', W_ops, ops_nil, ops_cons, ops_guard, step_some, g_tt, g_tf, g_ft, g_ff, put_some, put_none, upd_ite, val_tmp, fr0_zero, fr0_succ, ret_ret, ret_norm, res_tmp, ex_some, val_const, val_func, vals_nil, vals_cons, d_nil, d_free, d_rd1, d_rd, d_up, d_any, same_some, up_some, all_reads, Sub.refl, x_mov, x_pick, pick_t, pick_f, x_field1, x_fieldN, x_extract, x_box, x_alloc, x_load1, x_loadN, withH_some', x_store, x_mkfunc, x_mkslice, x_slice, x_fieldAddr, fieldAt_p, x_idxArr, x_idxSl, x_append, x_there, x_len, len_slice, x_not, not_bool, x_call, x_int2, i_add, i_sub, i_mul, i_eql, i_neq, i_lss, i_leq, i_gtr, i_geq, x_plain, p_min, p_max, p_rem, p_quo, r_min, r_max, p_shl, p_or, p_and, p_andNot, eqV_i, x_bslice, x_build, res_cellN, res_cell1, valN_tmp, valN_const, if_true, if_false, Nat.le_refl, true_and, and_true, decide_true, decide_false, Bool.not_true, Bool.not_false, reduceIte, Nat.reduceEqDiff, Nat.reduceAdd, Nat.reduceMul, Nat.reduceSub, Nat.reduceLeDiff, Nat.reduceLT]
    exact ⟨⟨Keep.refl, hx4.get⟩, rfl⟩
  · rintro k f g m hk ⟨⟨st, go, gn⟩, rfl, f7, f8, f10, f35, f36⟩
    have hk' : (k : Int) < (Y.nv : Int) := by omega
    have hw : wrapF .i64 ((k : Int) + 1) = ((k + 1 : Nat) : Int) := by rw [wrap_in (by omega) (by omega)]; rfl
    have hfg := st.floor
    have s34 : Sub All g3 g := fun i cs w gr _ hg => st.sub _ _ _ _ (by have := AHeap.lt_of_get hg; omega) (hx4.sub _ _ _ _ trivial hg)
    have hyg := hy3.mono s34
    have q7 := (r2.mono s34).whole (n := 4) rfl
    have q8 := (hx3.row.mono s34).whole arr_len
    obtain ⟨v1, v2⟩ := hG.v k hk
    have ei := inVat_c (n := n) (h := g) (b := upto Y.nf b) (F := F) (S := S) (T := .slice none 0 0) (at_ := k) (by omega) (by omega) hyg.v ho4 hk v1 z1 (fun i hi => by simp only [upto, hi, if_true]; exact hB.range hG.f i (by rw [hB.1]; exact hi)) (fun i hi => v2 i (by rw [v1]; exact hi))
    rw [blueN_upto] at ei
    simp only [W_skip, W_ret, W_exit, W_seq, W_block, then_norm', then_exit', then_ret', block_norm', block_ret', block_exit', W_cond, cond_true', cond_false', W_ops, ops_nil, ops_cons, ops_guard, step_some, g_tt, g_tf, g_ft, g_ff, put_some, put_none, upd_ite, val_tmp, fr0_zero, fr0_succ, ret_ret, ret_norm, res_tmp, ex_some, val_const, val_func, vals_nil, vals_cons, d_nil, d_free, d_rd1, d_rd, d_up, d_any, same_some, up_some, all_reads, Sub.refl, x_mov, x_pick, pick_t, pick_f, x_field1, x_fieldN, x_extract, x_box, x_alloc, x_load1, x_loadN, withH_some', x_store, x_mkfunc, x_mkslice, x_slice, x_fieldAddr, fieldAt_p, x_idxArr, x_idxSl, x_append, x_there, x_len, len_slice, x_not, not_bool, x_call, x_int2, i_add, i_sub, i_mul, i_eql, i_neq, i_lss, i_leq, i_gtr, i_geq, x_plain, p_min, p_max, p_rem, p_quo, r_min, r_max, p_shl, p_or, p_and, p_andNot, eqV_i, x_bslice, x_build, res_cellN, res_cell1, valN_tmp, valN_const, if_true, if_false, Nat.le_refl, true_and, and_true, decide_true, decide_false, Bool.not_true, Bool.not_false, reduceIte, Nat.reduceEqDiff, Nat.reduceAdd, Nat.reduceMul, Nat.reduceSub, Nat.reduceLeDiff, Nat.reduceLT, f7, f8, f10, f35, f36, hk', q7, q8, ei, idxSl_p hk]
    refine step_store (vs := [.int .i64 (blueN b (Y.q k) Y.nf)]) rfl go (by omega) (by omega) rfl rfl rfl (by rw [mix_len]; omega) fun g5 hs => ?_
    have h5 := hs.get
    rw [mix_splice (a := fun k => blueN b (Y.q k) Y.nf) hk] at h5
    simp only [W_skip, W_ret, W_exit, W_seq, W_block, then_norm', then_exit', then_ret', block_norm', block_ret', block_exit', W_cond, cond_true', cond_false', W_ops, ops_nil, ops_cons, ops_guard, step_some, g_tt, g_tf, g_ft, g_ff, put_some, put_none, upd_ite, val_tmp, fr0_zero, fr0_succ, ret_ret, ret_norm, res_tmp, ex_some, val_const, val_func, vals_nil, vals_cons, d_nil, d_free, d_rd1, d_rd, d_up, d_any, same_some, up_some, all_reads, Sub.refl, x_mov, x_pick, pick_t, pick_f, x_field1, x_fieldN, x_extract, x_box, x_alloc, x_load1, x_loadN, withH_some', x_store, x_mkfunc, x_mkslice, x_slice, x_fieldAddr, fieldAt_p, x_idxArr, x_idxSl, x_append, x_there, x_len, len_slice, x_not, not_bool, x_call, x_int2, i_add, i_sub, i_mul, i_eql, i_neq, i_lss, i_leq, i_gtr, i_geq, x_plain, p_min, p_max, p_rem, p_quo, r_min, r_max, p_shl, p_or, p_and, p_andNot, eqV_i, x_bslice, x_build, res_cellN, res_cell1, valN_tmp, valN_const, if_true, if_false, Nat.le_refl, true_and, and_true, decide_true, decide_false, Bool.not_true, Bool.not_false, reduceIte, Nat.reduceEqDiff, Nat.reduceAdd, Nat.reduceMul, Nat.reduceSub, Nat.reduceLeDiff, Nat.reduceLT, f7, f8, f10, f35, f36, hw]
    exact ⟨set_keep st hs, h5, by rw [hs.next, gn]⟩
  · rintro f g m ⟨⟨st, go, gn⟩, rfl, f7, f8, f10, f35, f36⟩
    simp only [W_skip, W_ret, W_exit, W_seq, W_block, then_norm', then_exit', then_ret', block_norm', block_ret', block_exit', W_cond, cond_true', cond_false', W_ops, ops_nil, ops_cons, ops_guard, step_some, g_tt, g_tf, g_ft, g_ff, put_some, put_none, upd_ite, val_tmp, fr0_zero, fr0_succ, ret_ret, ret_norm, res_tmp, ex_some, val_const, val_func, vals_nil, vals_cons, d_nil, d_free, d_rd1, d_rd, d_up, d_any, same_some, up_some, all_reads, Sub.refl, x_mov, x_pick, pick_t, pick_f, x_field1, x_fieldN, x_extract, x_box, x_alloc, x_load1, x_loadN, withH_some', x_store, x_mkfunc, x_mkslice, x_slice, x_fieldAddr, fieldAt_p, x_idxArr, x_idxSl, x_append, x_there, x_len, len_slice, x_not, not_bool, x_call, x_int2, i_add, i_sub, i_mul, i_eql, i_neq, i_lss, i_leq, i_gtr, i_geq, x_plain, p_min, p_max, p_rem, p_quo, r_min, r_max, p_shl, p_or, p_and, p_andNot, eqV_i, x_bslice, x_build, res_cellN, res_cell1, valN_tmp, valN_const, if_true, if_false, Nat.le_refl, true_and, and_true, decide_true, decide_false, Bool.not_true, Bool.not_false, reduceIte, Nat.reduceEqDiff, Nat.reduceAdd, Nat.reduceMul, Nat.reduceSub, Nat.reduceLeDiff, Nat.reduceLT, f7, f8, f10, f35, f36, Int.lt_irrefl, ret_tt]
    refine ⟨⟨fun i cs w gr _ hg => st.sub _ _ _ _ (by have := AHeap.lt_of_get hg; omega) (hx4.sub _ _ _ _ trivial (hx3.sub _ _ _ _ trivial (hs2 _ _ _ _ trivial hg))), by omega, by omega, by have := st.floor; omega⟩, .inr (.inr ⟨hf, hB, _, rfl, ?_⟩)⟩
    refine ⟨_, _, rfl, fun x e => by cases e; rfl, .inr ⟨_, 0, _, _, _, rfl, go, fun k j hk hj => ?_⟩⟩
    rw [show 0 + k * 1 + j = k by omega, mix_get hk, if_pos hk]
end Go.Vm.Vat

namespace Go.Vm.Vat
open Go.Proofs
set_option linter.unusedSimpArgs false
set_option linter.unusedVariables false
set_option maxRecDepth 10000
variable {n : Nat} {h : AHeap}

/-! ### The iterator over all blues: each way to fill the fields that are left, in order, is handed to 'yield' -/
/-- all ways to fill d fields from i on, in order -/
def enumB (lo hi : Nat → Int) : Nat → Nat → (Nat → Int) → List (Nat → Int)
  | 0, _, c => [c]
  | d + 1, i, c => (List.range (hi i - lo i + 1).toNat).flatMap fun (k : Nat) => enumB lo hi d (i + 1) fun j => if j = i then lo i + (k : Int) else c j
theorem enumB_congr {lo hi : Nat → Int} : ∀ (d i : Nat) (c c' : Nat → Int), (∀ j, j < i ∨ i + d ≤ j → c j = c' j) → enumB lo hi d i c = enumB lo hi d i c'
  | 0, i, c, c', hc => by
    have : c = c' := funext fun j => hc j (by omega)
    rw [this]
  | d + 1, i, c, c', hc => by
    simp only [enumB]
    congr 1
    funext k
    refine enumB_congr d (i + 1) _ _ fun j hj => ?_
    by_cases e : j = i
    · simp [e]
    · simp only [e, if_false]
      exact hc j (by omega)
/-- the first i are in their ranges; there are no more than nf -/
def OkB (nf : Nat) (lo hi : Nat → Int) (i : Nat) (c : Nat → Int) : Prop := (∀ j, j < i → lo j ≤ c j ∧ c j ≤ hi j) ∧ ∀ j, nf ≤ j → c j = 0
/-- what comes of a list that is handed over one by one, until it is refused -/
def runL {σ α : Type} (step : σ → α → σ × Bool) : σ → List α → σ × Bool
  | s, [] => (s, true)
  | s, x :: l => if (step s x).2 then runL step (step s x).1 l else ((step s x).1, false)
theorem runL_append {σ α : Type} {step : σ → α → σ × Bool} : ∀ (l1 l2 : List α) (s : σ), runL step s (l1 ++ l2) = if (runL step s l1).2 then runL step (runL step s l1).1 l2 else runL step s l1
  | [], l2, s => by simp [runL]
  | x :: l1, l2, s => by
    simp only [List.cons_append, runL]
    by_cases e : (step s x).2 = true
    · simp only [e, if_true]; exact runL_append l1 l2 _
    · simp [e]
theorem arr_splice {k : Nat} {c : Nat → Int} {x : Int} (hk : k < 5) : splice (arr c) k [.int .i64 x] = arr fun j => if j = k then x else c j := by
  obtain rfl | rfl | rfl | rfl | rfl : k = 0 ∨ k = 1 ∨ k = 2 ∨ k = 3 ∨ k = 4 := by omega
  all_goals simp [splice, arr, List.range_succ]

section
variable {σ : Type}
/-- the iterator's own rows -/
structure It (pw py pc : Nat) (W : List Value) (yv cv F : Value) (nf : Nat) (lo hi : Nat → Int) (g : AHeap) : Prop where
  w : Row g pw W
  y : Row g py [yv]
  c : Row g pc [cv]
  f : Ranges g F nf lo hi
theorem It.set {pw py pc pb gr : Nat} {W cs : List Value} {yv cv F : Value} {nf : Nat} {lo hi : Nat → Int} {g g' : AHeap} (hi' : It pw py pc W yv cv F nf lo hi g) (hs : Set1 g g' pb cs gr) (h1 : pw ≠ pb) (h2 : py ≠ pb) (h3 : pc ≠ pb)
    (hF : ∀ a k cap, F = .slice (some a) k cap → a.block ≠ pb ∨ nf = 0) : It pw py pc W yv cv F nf lo hi g' := by
  refine ⟨hi'.w.keep hs.keep h1, hi'.y.keep hs.keep h2, hi'.c.keep hs.keep h3, ?_⟩
  obtain ⟨a, cap, e, hsp, h0 | ⟨b, o, cs, w, gr, rfl, e1, e2⟩⟩ := hi'.f
  · exact ⟨a, cap, e, hsp, .inl h0⟩
  · rcases hF _ _ _ e with h4 | h4
    · exact ⟨_, cap, e, hsp, .inr ⟨b, o, cs, w, gr, rfl, hs.keep.sub _ _ _ _ h4 e1, e2⟩⟩
    · exact ⟨_, cap, e, hsp, .inl h4⟩
def chooseV (pw py pb pc : Nat) : Value := .func (.func 122) ⟨[]⟩ ⟨[.pointer (some ⟨pw, 0, none⟩), .pointer (some ⟨py, 0, none⟩), .pointer (some ⟨pb, 0, none⟩), .pointer (some ⟨pc, 0, none⟩)]⟩
theorem part_flat {α : Type} (f : Nat → List α) {k m : Nat} (hk : k < m) : ∃ l, (List.range m).flatMap f = (List.range k).flatMap f ++ (f k ++ l) := by
  refine ⟨((List.range (m - (k + 1))).map (k + 1 + ·)).flatMap f, ?_⟩
  have : List.range m = List.range k ++ ([k] ++ (List.range (m - (k + 1))).map (k + 1 + ·)) := by
    have h1 := List.range_add (n := k + 1) (m := m - (k + 1))
    rw [show k + 1 + (m - (k + 1)) = m by omega] at h1
    rw [h1, List.range_succ, List.append_assoc]
  rw [this, List.flatMap_append, List.flatMap_append]
  simp

def s122 : SCode := (.seq (.ops [⟨(some 6), none, .mov (.const (.bool false))⟩]) (.seq (.seq (.ops [⟨(some 8), none, .mov (T 0)⟩, ⟨(some 9), none, .fieldAddr 0 (T 1)⟩, ⟨(some 10), none, .fieldAddr 0 (T 9)⟩, ⟨(some 11), none, .load1 (T 10)⟩, ⟨(some 12), none, .len (T 11)⟩, ⟨(some 13), none, .int2 .eql (T 8) (T 12)⟩]) (.cond (T 13) (.seq (.ops [⟨(some 14), none, .load1 (T 2)⟩, ⟨(some 15), none, .loadN 5 (T 3)⟩, ⟨(some 16), none, .call (T 14) [(T 15)]⟩, ⟨(some 6), none, .mov (T 16)⟩]) .ret) .skip)) (.seq (.seq (.ops [⟨(some 17), none, .fieldAddr 0 (T 1)⟩, ⟨(some 18), none, .fieldAddr 0 (T 17)⟩, ⟨(some 19), none, .load1 (T 18)⟩, ⟨(some 20), none, .mov (T 0)⟩, ⟨(some 21), none, .idxSl 2 (T 19) (T 20)⟩, ⟨(some 22), none, .fieldAddr 0 (T 21)⟩, ⟨(some 23), none, .load1 (T 22)⟩, ⟨(some 7), none, .mov (T 23)⟩]) (.block 0 (.loop (.seq (.seq (.ops [⟨(some 24), none, .mov (T 7)⟩, ⟨(some 25), none, .fieldAddr 0 (T 1)⟩, ⟨(some 26), none, .fieldAddr 0 (T 25)⟩, ⟨(some 27), none, .load1 (T 26)⟩, ⟨(some 28), none, .mov (T 0)⟩, ⟨(some 29), none, .idxSl 2 (T 27) (T 28)⟩, ⟨(some 30), none, .fieldAddr 1 (T 29)⟩, ⟨(some 31), none, .load1 (T 30)⟩, ⟨(some 32), none, .int2 .leq (T 24) (T 31)⟩]) (.cond (T 32) .skip (.exit 0))) (.seq (.block 1 (.seq (.ops [⟨(some 35), none, .mov (T 0)⟩, ⟨(some 36), none, .mov (T 7)⟩, ⟨(some 37), none, .idxArr 5 1 (T 3) (T 35)⟩, ⟨none, none, .store 1 (T 37) (T 36)⟩]) (.seq (.ops [⟨(some 38), none, .load1 (T 4)⟩, ⟨(some 39), none, .mov (T 0)⟩, ⟨(some 40), none, .int2 .add (T 39) (.const (.int .i64 (1)))⟩, ⟨(some 41), none, .call (T 38) [(T 40)]⟩, ⟨(some 42), none, .not (T 41)⟩]) (.cond (T 42) (.seq (.ops [⟨(some 6), none, .mov (.const (.bool false))⟩]) .ret) .skip)))) (.ops [⟨(some 33), none, .mov (T 7)⟩, ⟨(some 34), none, .int2 .add (T 33) (.const (.int .i64 (1)))⟩, ⟨(some 7), none, .mov (T 34)⟩])))))) (.seq (.ops [⟨(some 6), none, .mov (.const (.bool true))⟩]) .ret))))
theorem fok122 : FnOk Try.prog 122 43 s122 [.tmp 6] := ⟨Try.f122, _, Try.func122, rfl, Try.ntmps122, by kernel_rfl, by kernel_rfl⟩
theorem choose_c (step : σ → (Nat → Int) → σ × Bool) (J : σ → AHeap → Prop) {pw py pb pc K N0 fl : Nat} {F V S T yv : Value} {nf : Nat} {lo hi : Nat → Int} (hsz : nf ≤ 5) (hv : ∀ k, k < nf → 0 ≤ lo k ∧ lo k ≤ hi k ∧ hi k ≤ 20)
    (d1 : pw ≠ pb) (d2 : py ≠ pb) (d3 : pc ≠ pb) (hF : ∀ a k cap, F = .slice (some a) k cap → a.block ≠ pb ∨ nf = 0) (hfl : fl ≤ pb) (hN : 10002 ≤ N0)
    (hJ : ∀ s g g' cs, J s g → Set1 g g' pb cs 0 → J s g')
    (hY : ∀ n g s c, N0 ≤ n → It pw py pc [F, V, S, T] yv (chooseV pw py pb pc) F nf lo hi g → g.get pb = some (.row (arr c) true 0) → OkB nf lo hi nf c → J s g → g.floor = fl → g.next + K < far →
      ∃ g', call n yv [.agg ⟨arr c⟩] g = some (.bool (step s c).2, g') ∧ J (step s c).1 g' ∧ It pw py pc [F, V, S, T] yv (chooseV pw py pb pc) F nf lo hi g' ∧ g'.get pb = some (.row (arr c) true 0) ∧ g'.floor = fl ∧ g'.next ≤ g.next + K) :
    ∀ (d i n : Nat) (g : AHeap) (s : σ) (c : Nat → Int), i + d = nf → N0 + d + 1 ≤ n → It pw py pc [F, V, S, T] yv (chooseV pw py pb pc) F nf lo hi g → g.get pb = some (.row (arr c) true 0) → OkB nf lo hi i c → J s g → g.floor = fl → g.next + K * (enumB lo hi d i c).length < far →
      ∃ g', call n (chooseV pw py pb pc) [.int .i64 (i : Int)] g = some (.bool (runL step s (enumB lo hi d i c)).2, g') ∧ J (runL step s (enumB lo hi d i c)).1 g' ∧ It pw py pc [F, V, S, T] yv (chooseV pw py pb pc) F nf lo hi g' ∧
        (∃ c', g'.get pb = some (.row (arr c') true 0) ∧ ∀ j, j < i ∨ i + d ≤ j → c' j = c j) ∧ g'.floor = fl ∧ g'.next ≤ g.next + K * (enumB lo hi d i c).length := by
  intro d
  induction d with
  | zero =>
    intro i n g s c hi' hn hit hb hok hj hfg hr
    obtain ⟨n, rfl⟩ : ∃ p, n = p + 1 := ⟨n - 1, by omega⟩
    simp only [enumB, List.length_singleton, Nat.mul_one] at hr ⊢
    obtain ⟨g', e, q1, q2, q3, q4, q5⟩ := hY n g s c (by omega) hit hb (show OkB nf lo hi nf c from (show i = nf by omega) ▸ hok) hj hfg hr
    have hin : (i : Int) = (nf : Int) := by omega
    have hbr : Row g pb (arr c) := ⟨_, _, hb⟩
    suffices hs : ∃ v g1, call (n + 1) (chooseV pw py pb pc) [.int .i64 (i : Int)] g = some (v, g1) ∧ v = .bool (step s c).2 ∧ g1 = g' by
      obtain ⟨v, g1, e1, rfl, rfl⟩ := hs
      have hrun : runL step s [c] = step s c := by
        simp only [runL]
        by_cases e : (step s c).2 = true
        · simp only [e, if_true]; exact (Prod.ext rfl e.symm)
        · simp only [e, Bool.false_eq_true, if_false]; exact (Prod.ext rfl (by simpa using (Bool.eq_false_iff.2 e).symm))
      rw [hrun]
      exact ⟨_, e1, q1, q2, ⟨c, q3, fun _ _ => rfl⟩, q4, q5⟩
    refine call_any (xs := []) (ys := [.pointer (some ⟨pw, 0, none⟩), .pointer (some ⟨py, 0, none⟩), .pointer (some ⟨pb, 0, none⟩), .pointer (some ⟨pc, 0, none⟩)]) fok122 rfl rfl (by simp) ?_
    simp only [W_skip, W_ret, W_exit, W_seq, W_block, then_norm', then_exit', then_ret', block_norm', block_ret', block_exit', W_cond, cond_true', cond_false', W_ops, ops_nil, ops_cons, ops_guard, step_some, g_tt, g_tf, g_ft, g_ff, put_some, put_none, upd_ite, val_tmp, fr0_zero, fr0_succ, ret_ret, ret_norm, res_tmp, ex_some, val_const, val_func, vals_nil, vals_cons, d_nil, d_free, d_rd1, d_rd, d_up, d_any, same_some, up_some, all_reads, Sub.refl, x_mov, x_pick, pick_t, pick_f, x_field1, x_fieldN, x_extract, x_box, x_alloc, x_load1, x_loadN, withH_some', x_store, x_mkfunc, x_mkslice, x_slice, x_fieldAddr, fieldAt_p, x_idxArr, x_idxSl, x_append, x_there, x_len, len_slice, x_not, not_bool, x_call, x_int2, i_add, i_sub, i_mul, i_eql, i_neq, i_lss, i_leq, i_gtr, i_geq, x_plain, p_min, p_max, p_rem, p_quo, r_min, r_max, p_shl, p_or, p_and, p_andNot, eqV_i, x_bslice, x_build, res_cellN, res_cell1, valN_tmp, valN_const, if_true, if_false, Nat.le_refl, true_and, and_true, decide_true, decide_false, Bool.not_true, Bool.not_false, reduceIte, Nat.reduceEqDiff, Nat.reduceAdd, Nat.reduceMul, Nat.reduceSub, Nat.reduceLeDiff, Nat.reduceLT, s122, List.cons_append, List.nil_append, hit.w.ld, hit.y.ld, hbr.whole arr_len, Nat.zero_add, List.getElem?_cons_zero, List.getElem?_cons_succ, Cells.len hit.f, hin, e]
  | succ d ih =>
    intro i n g s c hi' hn hit hb hok hj hfg hr
    obtain ⟨n, rfl⟩ : ∃ p, n = p + 1 := ⟨n - 1, by omega⟩
    have hin : ¬ (i : Int) = (nf : Int) := by omega
    have hk : i < nf := by omega
    obtain ⟨v1, v2, v3⟩ := hv i hk
    suffices hs : ∃ v g1, call (n + 1) (chooseV pw py pb pc) [.int .i64 (i : Int)] g = some (v, g1) ∧ v = .bool (runL step s (enumB lo hi (d + 1) i c)).2 ∧ J (runL step s (enumB lo hi (d + 1) i c)).1 g1 ∧ It pw py pc [F, V, S, T] yv (chooseV pw py pb pc) F nf lo hi g1 ∧
        (∃ c', g1.get pb = some (.row (arr c') true 0) ∧ ∀ j, j < i ∨ i + (d + 1) ≤ j → c' j = c j) ∧ g1.floor = fl ∧ g1.next ≤ g.next + K * (enumB lo hi (d + 1) i c).length by
      obtain ⟨v, g1, e1, rfl, h2⟩ := hs
      exact ⟨g1, e1, h2⟩
    refine call_any (xs := []) (ys := [.pointer (some ⟨pw, 0, none⟩), .pointer (some ⟨py, 0, none⟩), .pointer (some ⟨pb, 0, none⟩), .pointer (some ⟨pc, 0, none⟩)]) fok122 rfl rfl (by simp) ?_
    have hl1 : loadCell g (ptrO F 2 i 0) = some (.int .i64 (lo i)) := Cells.ld hit.f hk (by omega)
    simp only [W_skip, W_ret, W_exit, W_seq, W_block, then_norm', then_exit', then_ret', block_norm', block_ret', block_exit', W_cond, cond_true', cond_false', W_ops, ops_nil, ops_cons, ops_guard, step_some, g_tt, g_tf, g_ft, g_ff, put_some, put_none, upd_ite, val_tmp, fr0_zero, fr0_succ, ret_ret, ret_norm, res_tmp, ex_some, val_const, val_func, vals_nil, vals_cons, d_nil, d_free, d_rd1, d_rd, d_up, d_any, same_some, up_some, all_reads, Sub.refl, x_mov, x_pick, pick_t, pick_f, x_field1, x_fieldN, x_extract, x_box, x_alloc, x_load1, x_loadN, withH_some', x_store, x_mkfunc, x_mkslice, x_slice, x_fieldAddr, fieldAt_p, x_idxArr, x_idxSl, x_append, x_there, x_len, len_slice, x_not, not_bool, x_call, x_int2, i_add, i_sub, i_mul, i_eql, i_neq, i_lss, i_leq, i_gtr, i_geq, x_plain, p_min, p_max, p_rem, p_quo, r_min, r_max, p_shl, p_or, p_and, p_andNot, eqV_i, x_bslice, x_build, res_cellN, res_cell1, valN_tmp, valN_const, if_true, if_false, Nat.le_refl, true_and, and_true, decide_true, decide_false, Bool.not_true, Bool.not_false, reduceIte, Nat.reduceEqDiff, Nat.reduceAdd, Nat.reduceMul, Nat.reduceSub, Nat.reduceLeDiff, Nat.reduceLT, s122, List.cons_append, List.nil_append, hit.w.ld, Nat.zero_add, List.getElem?_cons_zero, List.getElem?_cons_succ, Cells.len hit.f, hin, Cells.idx hit.f hk, Cells.fld hit.f hk, hl1]
    let part : Nat → List (Nat → Int) := fun k => enumB lo hi d (i + 1) fun j => if j = i then lo i + (k : Int) else c j
    have hen : enumB lo hi (d + 1) i c = (List.range (hi i - lo i + 1).toNat).flatMap part := rfl
    have hm : ((hi i - lo i + 1).toNat : Int) = hi i - lo i + 1 := Int.toNat_of_nonneg (by omega)
    rw [hen] at hr ⊢
    generalize hmm : (hi i - lo i + 1).toNat = m at hm hr
    refine W_loop m (fun k f g1 ms => (It pw py pc [F, V, S, T] yv (chooseV pw py pb pc) F nf lo hi g1 ∧ (∃ c', g1.get pb = some (.row (arr c') true 0) ∧ ∀ j, j < i ∨ i + (d + 1) ≤ j → c' j = c j) ∧ J (runL step s ((List.range k).flatMap part)).1 g1 ∧ (runL step s ((List.range k).flatMap part)).2 = true ∧
      g1.floor = fl ∧ g1.next ≤ g.next + K * ((List.range k).flatMap part).length) ∧ ms = [] ∧ f 0 = .int .i64 (i : Int) ∧ f 1 = .pointer (some ⟨pw, 0, none⟩) ∧ f 3 = .pointer (some ⟨pb, 0, none⟩) ∧ f 4 = .pointer (some ⟨pc, 0, none⟩) ∧ f 7 = .int .i64 (lo i + (k : Int))) (by simp; omega) ?_ ?_ ?_
    · simp only [W_skip, W_ret, W_exit, W_seq, W_block, then_norm', then_exit', then_ret', block_norm', block_ret', block_exit', W_cond, cond_true', cond_false', W_ops, ops_nil, ops_cons, ops_guard, step_some, g_tt, g_tf, g_ft, g_ff, put_some, put_none, upd_ite, val_tmp, fr0_zero, fr0_succ, ret_ret, ret_norm, res_tmp, ex_some, val_const, val_func, vals_nil, vals_cons, d_nil, d_free, d_rd1, d_rd, d_up, d_any, same_some, up_some, all_reads, Sub.refl, x_mov, x_pick, pick_t, pick_f, x_field1, x_fieldN, x_extract, x_box, x_alloc, x_load1, x_loadN, withH_some', x_store, x_mkfunc, x_mkslice, x_slice, x_fieldAddr, fieldAt_p, x_idxArr, x_idxSl, x_append, x_there, x_len, len_slice, x_not, not_bool, x_call, x_int2, i_add, i_sub, i_mul, i_eql, i_neq, i_lss, i_leq, i_gtr, i_geq, x_plain, p_min, p_max, p_rem, p_quo, r_min, r_max, p_shl, p_or, p_and, p_andNot, eqV_i, x_bslice, x_build, res_cellN, res_cell1, valN_tmp, valN_const, if_true, if_false, Nat.le_refl, true_and, and_true, decide_true, decide_false, Bool.not_true, Bool.not_false, reduceIte, Nat.reduceEqDiff, Nat.reduceAdd, Nat.reduceMul, Nat.reduceSub, Nat.reduceLeDiff, Nat.reduceLT, Int.natCast_zero, Int.add_zero]
      simp only [List.range_zero, List.flatMap_nil, runL, List.length_nil, Nat.mul_zero, Nat.add_zero, Nat.le_refl, and_true]
      exact ⟨hit, ⟨c, hb, fun _ _ => rfl⟩, hj, trivial, hfg⟩
    · rintro k f g1 ms hkm ⟨⟨it1, ⟨c', hb1, hc'⟩, hj1, hr1, hf1, hn1⟩, rfl, f0, f1, f3, f4, f7⟩
      have hle : lo i + (k : Int) ≤ hi i := by omega
      have hl2 : loadCell g1 (ptrO F 2 i 1) = some (.int .i64 (hi i)) := Cells.ld it1.f hk (by omega)
      have hlt := AHeap.lt_of_get hb1
      obtain ⟨rest, hpart⟩ := part_flat part hkm
      have hlen : ((List.range m).flatMap part).length = ((List.range k).flatMap part).length + ((part k).length + rest.length) := by rw [hpart]; simp
      have hK : K * ((List.range m).flatMap part).length = K * ((List.range k).flatMap part).length + (K * (part k).length + K * rest.length) := by rw [hlen, Nat.mul_add, Nat.mul_add]
      simp only [W_skip, W_ret, W_exit, W_seq, W_block, then_norm', then_exit', then_ret', block_norm', block_ret', block_exit', W_cond, cond_true', cond_false', W_ops, ops_nil, ops_cons, ops_guard, step_some, g_tt, g_tf, g_ft, g_ff, put_some, put_none, upd_ite, val_tmp, fr0_zero, fr0_succ, ret_ret, ret_norm, res_tmp, ex_some, val_const, val_func, vals_nil, vals_cons, d_nil, d_free, d_rd1, d_rd, d_up, d_any, same_some, up_some, all_reads, Sub.refl, x_mov, x_pick, pick_t, pick_f, x_field1, x_fieldN, x_extract, x_box, x_alloc, x_load1, x_loadN, withH_some', x_store, x_mkfunc, x_mkslice, x_slice, x_fieldAddr, fieldAt_p, x_idxArr, x_idxSl, x_append, x_there, x_len, len_slice, x_not, not_bool, x_call, x_int2, i_add, i_sub, i_mul, i_eql, i_neq, i_lss, i_leq, i_gtr, i_geq, x_plain, p_min, p_max, p_rem, p_quo, r_min, r_max, p_shl, p_or, p_and, p_andNot, eqV_i, x_bslice, x_build, res_cellN, res_cell1, valN_tmp, valN_const, if_true, if_false, Nat.le_refl, true_and, and_true, decide_true, decide_false, Bool.not_true, Bool.not_false, reduceIte, Nat.reduceEqDiff, Nat.reduceAdd, Nat.reduceMul, Nat.reduceSub, Nat.reduceLeDiff, Nat.reduceLT, f0, f1, f3, f4, f7, it1.w.ld, Nat.zero_add, List.getElem?_cons_zero, List.getElem?_cons_succ, Cells.idx it1.f hk, Cells.fld it1.f hk, hl2, hle, idxArr_p (l := 5) (k := i) (by omega)]
      refine step_store (vs := [.int .i64 (lo i + (k : Int))]) rfl hb1 (by omega) (by omega) rfl rfl rfl (by rw [arr_len]; simp; omega) fun g2 hs => ?_
      have hb2 := hs.get
      rw [arr_splice (by omega)] at hb2
      have it2 := it1.set hs d1 d2 d3 hF
      have hw : wrapF .i64 ((i : Int) + 1) = ((i + 1 : Nat) : Int) := by rw [wrap_in (by omega) (by omega)]; rfl
      have hcg : enumB lo hi d (i + 1) (fun j => if j = i then lo i + (k : Int) else c' j) = part k := enumB_congr d (i + 1) _ _ fun j hj => by
        by_cases e : j = i
        · simp [e]
        · simp only [e, if_false]; exact hc' j (by omega)
      have hnx := hs.next
      have hok2 : OkB nf lo hi (i + 1) (fun j => if j = i then lo i + (k : Int) else c' j) := by
        refine ⟨fun j hj => ?_, fun j hj => ?_⟩
        · by_cases e : j = i
          · subst e; simp only [if_true]; omega
          · simp only [e, if_false]; rw [hc' j (by omega)]; exact hok.1 j (by omega)
        · have e : ¬ j = i := by omega
          simp only [e, if_false]; rw [hc' j (by omega)]; exact hok.2 j hj
      obtain ⟨g3, e, j3, it3, ⟨c3, hb3, hc3⟩, fl3, n3⟩ := ih (i + 1) n g2 _ _ (by omega) (by omega) it2 hb2 hok2 (hJ _ _ _ _ hj1 hs) (by rw [hs.floor, hf1]) (by rw [hcg]; omega)
      rw [hcg] at e j3 n3
      have hw2 : wrapF .i64 (lo i + (k : Int) + 1) = lo i + ((k + 1 : Nat) : Int) := by rw [wrap_in (by omega) (by omega)]; omega
      have hc3' : ∀ j, j < i ∨ i + (d + 1) ≤ j → c3 j = c j := fun j hj => by
        rw [hc3 j (by omega), if_neg (by omega)]; exact hc' j hj
      by_cases hq : (runL step (runL step s ((List.range k).flatMap part)).1 (part k)).2 = true
      · have hrun : runL step s ((List.range (k + 1)).flatMap part) = runL step (runL step s ((List.range k).flatMap part)).1 (part k) := by
          rw [List.range_succ, List.flatMap_append, runL_append, hr1, if_pos rfl]; simp
        have hl3 : ((List.range (k + 1)).flatMap part).length = ((List.range k).flatMap part).length + (part k).length := by rw [List.range_succ, List.flatMap_append, List.length_append]; simp
        rw [hq] at e
        simp only [W_skip, W_ret, W_exit, W_seq, W_block, then_norm', then_exit', then_ret', block_norm', block_ret', block_exit', W_cond, cond_true', cond_false', W_ops, ops_nil, ops_cons, ops_guard, step_some, g_tt, g_tf, g_ft, g_ff, put_some, put_none, upd_ite, val_tmp, fr0_zero, fr0_succ, ret_ret, ret_norm, res_tmp, ex_some, val_const, val_func, vals_nil, vals_cons, d_nil, d_free, d_rd1, d_rd, d_up, d_any, same_some, up_some, all_reads, Sub.refl, x_mov, x_pick, pick_t, pick_f, x_field1, x_fieldN, x_extract, x_box, x_alloc, x_load1, x_loadN, withH_some', x_store, x_mkfunc, x_mkslice, x_slice, x_fieldAddr, fieldAt_p, x_idxArr, x_idxSl, x_append, x_there, x_len, len_slice, x_not, not_bool, x_call, x_int2, i_add, i_sub, i_mul, i_eql, i_neq, i_lss, i_leq, i_gtr, i_geq, x_plain, p_min, p_max, p_rem, p_quo, r_min, r_max, p_shl, p_or, p_and, p_andNot, eqV_i, x_bslice, x_build, res_cellN, res_cell1, valN_tmp, valN_const, if_true, if_false, Nat.le_refl, true_and, and_true, decide_true, decide_false, Bool.not_true, Bool.not_false, reduceIte, Nat.reduceEqDiff, Nat.reduceAdd, Nat.reduceMul, Nat.reduceSub, Nat.reduceLeDiff, Nat.reduceLT, f0, f1, f3, f4, f7, it2.c.ld, Nat.zero_add, List.getElem?_cons_zero, List.getElem?_cons_succ, hw, e, hw2]
        rw [hrun, hl3, Nat.mul_add]
        exact ⟨it3, ⟨c3, hb3, hc3'⟩, j3, hq, fl3, by omega⟩
      · have hq' : (runL step (runL step s ((List.range k).flatMap part)).1 (part k)).2 = false := by simpa using hq
        have hrun : runL step s ((List.range m).flatMap part) = runL step (runL step s ((List.range k).flatMap part)).1 (part k) := by
          rw [hpart, runL_append, hr1, if_pos rfl, runL_append, hq', if_neg (by simp)]
        rw [hq'] at e
        simp only [W_skip, W_ret, W_exit, W_seq, W_block, then_norm', then_exit', then_ret', block_norm', block_ret', block_exit', W_cond, cond_true', cond_false', W_ops, ops_nil, ops_cons, ops_guard, step_some, g_tt, g_tf, g_ft, g_ff, put_some, put_none, upd_ite, val_tmp, fr0_zero, fr0_succ, ret_ret, ret_norm, res_tmp, ex_some, val_const, val_func, vals_nil, vals_cons, d_nil, d_free, d_rd1, d_rd, d_up, d_any, same_some, up_some, all_reads, Sub.refl, x_mov, x_pick, pick_t, pick_f, x_field1, x_fieldN, x_extract, x_box, x_alloc, x_load1, x_loadN, withH_some', x_store, x_mkfunc, x_mkslice, x_slice, x_fieldAddr, fieldAt_p, x_idxArr, x_idxSl, x_append, x_there, x_len, len_slice, x_not, not_bool, x_call, x_int2, i_add, i_sub, i_mul, i_eql, i_neq, i_lss, i_leq, i_gtr, i_geq, x_plain, p_min, p_max, p_rem, p_quo, r_min, r_max, p_shl, p_or, p_and, p_andNot, eqV_i, x_bslice, x_build, res_cellN, res_cell1, valN_tmp, valN_const, if_true, if_false, Nat.le_refl, true_and, and_true, decide_true, decide_false, Bool.not_true, Bool.not_false, reduceIte, Nat.reduceEqDiff, Nat.reduceAdd, Nat.reduceMul, Nat.reduceSub, Nat.reduceLeDiff, Nat.reduceLT, f0, f1, f3, f4, f7, it2.c.ld, Nat.zero_add, List.getElem?_cons_zero, List.getElem?_cons_succ, hw, e]
        rw [hrun, hq']
        exact ⟨rfl, j3, it3, ⟨c3, hb3, hc3'⟩, fl3, by omega⟩
    · rintro f g1 ms ⟨⟨it1, ⟨c', hb1, hc'⟩, hj1, hr1, hf1, hn1⟩, rfl, f0, f1, f3, f4, f7⟩
      have hle : ¬ lo i + (m : Int) ≤ hi i := by omega
      have hl2 : loadCell g1 (ptrO F 2 i 1) = some (.int .i64 (hi i)) := Cells.ld it1.f hk (by omega)
      simp only [W_skip, W_ret, W_exit, W_seq, W_block, then_norm', then_exit', then_ret', block_norm', block_ret', block_exit', W_cond, cond_true', cond_false', W_ops, ops_nil, ops_cons, ops_guard, step_some, g_tt, g_tf, g_ft, g_ff, put_some, put_none, upd_ite, val_tmp, fr0_zero, fr0_succ, ret_ret, ret_norm, res_tmp, ex_some, val_const, val_func, vals_nil, vals_cons, d_nil, d_free, d_rd1, d_rd, d_up, d_any, same_some, up_some, all_reads, Sub.refl, x_mov, x_pick, pick_t, pick_f, x_field1, x_fieldN, x_extract, x_box, x_alloc, x_load1, x_loadN, withH_some', x_store, x_mkfunc, x_mkslice, x_slice, x_fieldAddr, fieldAt_p, x_idxArr, x_idxSl, x_append, x_there, x_len, len_slice, x_not, not_bool, x_call, x_int2, i_add, i_sub, i_mul, i_eql, i_neq, i_lss, i_leq, i_gtr, i_geq, x_plain, p_min, p_max, p_rem, p_quo, r_min, r_max, p_shl, p_or, p_and, p_andNot, eqV_i, x_bslice, x_build, res_cellN, res_cell1, valN_tmp, valN_const, if_true, if_false, Nat.le_refl, true_and, and_true, decide_true, decide_false, Bool.not_true, Bool.not_false, reduceIte, Nat.reduceEqDiff, Nat.reduceAdd, Nat.reduceMul, Nat.reduceSub, Nat.reduceLeDiff, Nat.reduceLT, f0, f1, f3, f4, f7, it1.w.ld, Nat.zero_add, List.getElem?_cons_zero, List.getElem?_cons_succ, Cells.idx it1.f hk, Cells.fld it1.f hk, hl2, hle]
      exact ⟨by rw [hr1], hj1, it1, ⟨c', hb1, hc'⟩, hf1, hn1⟩

/-- what lay before lies as it did -/
structure Old (g g1 : AHeap) (k : Nat) : Prop where
  old : ∀ i, i < g.next → g1.get i = g.get i
  next : g1.next = g.next + k
  floor : g1.floor = g.floor
theorem Old.sub {g g1 : AHeap} {k : Nat} (ho : Old g g1 k) : Sub All g g1 := fun i cs w gr _ hg => by rw [ho.old i (AHeap.lt_of_get hg)]; exact hg
def s121 : SCode := (.seq (.ops [⟨(some 2), none, .box (T 0)⟩]) (.seq (.ops [⟨(some 3), none, .alloc [(.int .i64 (0)), (.int .i64 (0)), (.int .i64 (0)), (.int .i64 (0)), (.int .i64 (0))]⟩]) (.seq (.ops [⟨(some 4), none, .alloc [.nilFunc]⟩]) (.seq (.ops [⟨(some 5), none, .mkfunc 122 [] [(T 1), (T 2), (T 3), (T 4)]⟩, ⟨none, none, .store 1 (T 4) (T 5)⟩]) (.ops [⟨(some 6), none, .load1 (T 4)⟩, ⟨(some 7), none, .call (T 6) [(.const (.int .i64 (0)))]⟩])))))
theorem fok121 : FnOk Try.prog 121 8 s121 [] := ⟨Try.f121, _, Try.func121, rfl, Try.ntmps121, by kernel_rfl, by kernel_rfl⟩
theorem iter_c (step : σ → (Nat → Int) → σ × Bool) (J : σ → AHeap → Prop) {g : AHeap} {pw K N0 n : Nat} {F V S T yv : Value} {nf : Nat} {lo hi : Nat → Int} (s : σ) (hsz : nf ≤ 5) (hv : ∀ k, k < nf → 0 ≤ lo k ∧ lo k ≤ hi k ∧ hi k ≤ 20)
    (hw : Row g pw [F, V, S, T]) (hf : Ranges g F nf lo hi) (hyv : oneCell yv = true) (hfl : g.floor ≤ g.next) (hN : 10002 ≤ N0) (hn : N0 + 7 ≤ n)
    (hJ : ∀ s g1 g' cs, J s g1 → Set1 g1 g' (g.next + 1) cs 0 → J s g')
    (hJ0 : ∀ g3, Old g g3 3 → J s g3)
    (hY : ∀ n g1 s c, N0 ≤ n → It pw g.next (g.next + 2) [F, V, S, T] yv (chooseV pw g.next (g.next + 1) (g.next + 2)) F nf lo hi g1 → g1.get (g.next + 1) = some (.row (arr c) true 0) → OkB nf lo hi nf c → J s g1 → g1.floor = g.floor → g1.next + K < far →
      ∃ g', call n yv [.agg ⟨arr c⟩] g1 = some (.bool (step s c).2, g') ∧ J (step s c).1 g' ∧ It pw g.next (g.next + 2) [F, V, S, T] yv (chooseV pw g.next (g.next + 1) (g.next + 2)) F nf lo hi g' ∧ g'.get (g.next + 1) = some (.row (arr c) true 0) ∧ g'.floor = g.floor ∧ g'.next ≤ g1.next + K)
    (hr : g.next + 3 + K * (enumB lo hi nf 0 fun _ => 0).length < far) :
    ∃ v g', call n (.func (.func 121) ⟨[]⟩ ⟨[.pointer (some ⟨pw, 0, none⟩)]⟩) [yv] g = some (v, g') ∧ J (runL step s (enumB lo hi nf 0 fun _ => 0)).1 g' ∧ g'.floor = g.floor ∧ g'.next ≤ g.next + 3 + K * (enumB lo hi nf 0 fun _ => 0).length := by
  obtain ⟨n, rfl⟩ : ∃ p, n = p + 1 := ⟨n - 1, by omega⟩
  refine call_any (xs := []) (ys := [.pointer (some ⟨pw, 0, none⟩)]) fok121 rfl rfl (by simp) ?_
  simp only [s121, List.cons_append, List.nil_append, W_seq, W_ops]
  refine ops_box (cs := [yv]) (by omega) (by simp only [W_skip, W_ret, W_exit, W_seq, W_block, then_norm', then_exit', then_ret', block_norm', block_ret', block_exit', W_cond, cond_true', cond_false', W_ops, ops_nil, ops_cons, ops_guard, step_some, g_tt, g_tf, g_ft, g_ff, put_some, put_none, upd_ite, val_tmp, fr0_zero, fr0_succ, ret_ret, ret_norm, res_tmp, ex_some, val_const, val_func, vals_nil, vals_cons, d_nil, d_free, d_rd1, d_rd, d_up, d_any, same_some, up_some, all_reads, Sub.refl, x_mov, x_pick, pick_t, pick_f, x_field1, x_fieldN, x_extract, x_box, x_alloc, x_load1, x_loadN, withH_some', x_store, x_mkfunc, x_mkslice, x_slice, x_fieldAddr, fieldAt_p, x_idxArr, x_idxSl, x_append, x_there, x_len, len_slice, x_not, not_bool, x_call, x_int2, i_add, i_sub, i_mul, i_eql, i_neq, i_lss, i_leq, i_gtr, i_geq, x_plain, p_min, p_max, p_rem, p_quo, r_min, r_max, p_shl, p_or, p_and, p_andNot, eqV_i, x_bslice, x_build, res_cellN, res_cell1, valN_tmp, valN_const, if_true, if_false, Nat.le_refl, true_and, and_true, decide_true, decide_false, Bool.not_true, Bool.not_false, reduceIte, Nat.reduceEqDiff, Nat.reduceAdd, Nat.reduceMul, Nat.reduceSub, Nat.reduceLeDiff, Nat.reduceLT]; cases yv <;> first | rfl | cases hyv) (by simp [allB, hyv]) fun g1 hx1 => ?_
  have n1 := hx1.next
  have f1 := hx1.floor
  simp only [W_skip, W_ret, W_exit, W_seq, W_block, then_norm', then_exit', then_ret', block_norm', block_ret', block_exit', W_cond, cond_true', cond_false', W_ops, ops_nil, ops_cons, ops_guard, step_some, g_tt, g_tf, g_ft, g_ff, put_some, put_none, upd_ite, val_tmp, fr0_zero, fr0_succ, ret_ret, ret_norm, res_tmp, ex_some, val_const, val_func, vals_nil, vals_cons, d_nil, d_free, d_rd1, d_rd, d_up, d_any, same_some, up_some, all_reads, Sub.refl, x_mov, x_pick, pick_t, pick_f, x_field1, x_fieldN, x_extract, x_box, x_alloc, x_load1, x_loadN, withH_some', x_store, x_mkfunc, x_mkslice, x_slice, x_fieldAddr, fieldAt_p, x_idxArr, x_idxSl, x_append, x_there, x_len, len_slice, x_not, not_bool, x_call, x_int2, i_add, i_sub, i_mul, i_eql, i_neq, i_lss, i_leq, i_gtr, i_geq, x_plain, p_min, p_max, p_rem, p_quo, r_min, r_max, p_shl, p_or, p_and, p_andNot, eqV_i, x_bslice, x_build, res_cellN, res_cell1, valN_tmp, valN_const, if_true, if_false, Nat.le_refl, true_and, and_true, decide_true, decide_false, Bool.not_true, Bool.not_false, reduceIte, Nat.reduceEqDiff, Nat.reduceAdd, Nat.reduceMul, Nat.reduceSub, Nat.reduceLeDiff, Nat.reduceLT]
  refine step_row (cs := arr fun _ => 0) (by omega) rfl arr_one fun g2 hx2 => ?_
  have n2 := hx2.next
  have f2 := hx2.floor
  simp only [W_skip, W_ret, W_exit, W_seq, W_block, then_norm', then_exit', then_ret', block_norm', block_ret', block_exit', W_cond, cond_true', cond_false', W_ops, ops_nil, ops_cons, ops_guard, step_some, g_tt, g_tf, g_ft, g_ff, put_some, put_none, upd_ite, val_tmp, fr0_zero, fr0_succ, ret_ret, ret_norm, res_tmp, ex_some, val_const, val_func, vals_nil, vals_cons, d_nil, d_free, d_rd1, d_rd, d_up, d_any, same_some, up_some, all_reads, Sub.refl, x_mov, x_pick, pick_t, pick_f, x_field1, x_fieldN, x_extract, x_box, x_alloc, x_load1, x_loadN, withH_some', x_store, x_mkfunc, x_mkslice, x_slice, x_fieldAddr, fieldAt_p, x_idxArr, x_idxSl, x_append, x_there, x_len, len_slice, x_not, not_bool, x_call, x_int2, i_add, i_sub, i_mul, i_eql, i_neq, i_lss, i_leq, i_gtr, i_geq, x_plain, p_min, p_max, p_rem, p_quo, r_min, r_max, p_shl, p_or, p_and, p_andNot, eqV_i, x_bslice, x_build, res_cellN, res_cell1, valN_tmp, valN_const, if_true, if_false, Nat.le_refl, true_and, and_true, decide_true, decide_false, Bool.not_true, Bool.not_false, reduceIte, Nat.reduceEqDiff, Nat.reduceAdd, Nat.reduceMul, Nat.reduceSub, Nat.reduceLeDiff, Nat.reduceLT]
  refine step_row (cs := [.nilFunc]) (by omega) rfl rfl fun g3 hx3 => ?_
  have n3 := hx3.next
  have f3 := hx3.floor
  have hpw : pw < g.next := by obtain ⟨w, gr, e⟩ := hw; exact AHeap.lt_of_get e
  simp only [W_skip, W_ret, W_exit, W_seq, W_block, then_norm', then_exit', then_ret', block_norm', block_ret', block_exit', W_cond, cond_true', cond_false', W_ops, ops_nil, ops_cons, ops_guard, step_some, g_tt, g_tf, g_ft, g_ff, put_some, put_none, upd_ite, val_tmp, fr0_zero, fr0_succ, ret_ret, ret_norm, res_tmp, ex_some, val_const, val_func, vals_nil, vals_cons, d_nil, d_free, d_rd1, d_rd, d_up, d_any, same_some, up_some, all_reads, Sub.refl, x_mov, x_pick, pick_t, pick_f, x_field1, x_fieldN, x_extract, x_box, x_alloc, x_load1, x_loadN, withH_some', x_store, x_mkfunc, x_mkslice, x_slice, x_fieldAddr, fieldAt_p, x_idxArr, x_idxSl, x_append, x_there, x_len, len_slice, x_not, not_bool, x_call, x_int2, i_add, i_sub, i_mul, i_eql, i_neq, i_lss, i_leq, i_gtr, i_geq, x_plain, p_min, p_max, p_rem, p_quo, r_min, r_max, p_shl, p_or, p_and, p_andNot, eqV_i, x_bslice, x_build, res_cellN, res_cell1, valN_tmp, valN_const, if_true, if_false, Nat.le_refl, true_and, and_true, decide_true, decide_false, Bool.not_true, Bool.not_false, reduceIte, Nat.reduceEqDiff, Nat.reduceAdd, Nat.reduceMul, Nat.reduceSub, Nat.reduceLeDiff, Nat.reduceLT]
  have e1 : g1.next = g.next + 1 := n1
  have e2 : g2.next = g.next + 2 := by omega
  rw [e1, e2]
  refine step_store (b := g.next + 2) (gr := 0) (vs := [chooseV pw g.next (g.next + 1) (g.next + 2)]) rfl (by have := hx3.get; rw [e2] at this; exact this) (by omega) (by omega) rfl rfl rfl (by simp) fun g4 hs => ?_
  have hc4 := hs.row
  have hs4 : ∀ i, i < g.next + 2 → g4.get i = g2.get i := fun i hi => by rw [hs.old i (by omega), hx3.old i (by omega)]
  have hb4 : g4.get (g.next + 1) = some (.row (arr fun _ => 0) true 0) := by
    rw [hs4 _ (by omega)]; have := hx2.get; rw [e1] at this; exact this
  have hy4 : g4.get g.next = some (.row [yv] true 0) := by
    rw [hs4 _ (by omega), hx2.old _ (by omega)]; exact hx1.get
  have ho4 : Old g g4 3 := ⟨fun i hi => by rw [hs4 i (by omega), hx2.old i (by omega), hx1.old i hi], by have := hs.next; omega, by have := hs.floor; omega⟩
  have hF : ∀ a k cap, F = .slice (some a) k cap → a.block ≠ g.next + 1 ∨ nf = 0 := by
    intro a k cap e
    obtain ⟨a', cap', e', _, h0 | ⟨b, o, cs, w, gr, e2, e3, _⟩⟩ := hf
    · exact .inr h0
    · left
      rw [e] at e'
      cases e'
      cases e2
      have := AHeap.lt_of_get e3
      show b ≠ _
      omega
  have hit : It pw g.next (g.next + 2) [F, V, S, T] yv (chooseV pw g.next (g.next + 1) (g.next + 2)) F nf lo hi g4 := ⟨hw.mono ho4.sub, ⟨_, _, hy4⟩, by simpa [splice] using hc4, Cells.mono hf ho4.sub⟩
  have hch := choose_c step J (pw := pw) (py := g.next) (pb := g.next + 1) (pc := g.next + 2) (K := K) (N0 := N0) (fl := g.floor) (F := F) (V := V) (S := S) (T := T) (yv := yv) (nf := nf) (lo := lo) (hi := hi) hsz hv (by omega) (by omega) (by omega) hF (by omega) hN hJ hY nf 0 n g4 s (fun _ => 0) (by omega) (by omega) hit hb4 ⟨fun j hj => by omega, fun _ _ => rfl⟩ (hJ0 _ ho4) ho4.floor (by have := ho4.next; omega)
  obtain ⟨g5, q1, q2, q3, q4, q5, q6⟩ := hch
  have hl : loadCell g4 (.pointer (some ⟨g.next + 2, 0, none⟩)) = some (chooseV pw g.next (g.next + 1) (g.next + 2)) := by rw [hc4.ld]; simp [splice]
  have q1' : call n (chooseV pw g.next (g.next + 1) (g.next + 2)) [.int .i64 0] g4 = some (.bool (runL step s (enumB lo hi nf 0 fun _ => 0)).2, g5) := q1
  simp only [W_skip, W_ret, W_exit, W_seq, W_block, then_norm', then_exit', then_ret', block_norm', block_ret', block_exit', W_cond, cond_true', cond_false', W_ops, ops_nil, ops_cons, ops_guard, step_some, g_tt, g_tf, g_ft, g_ff, put_some, put_none, upd_ite, val_tmp, fr0_zero, fr0_succ, ret_ret, ret_norm, res_tmp, ex_some, val_const, val_func, vals_nil, vals_cons, d_nil, d_free, d_rd1, d_rd, d_up, d_any, same_some, up_some, all_reads, Sub.refl, x_mov, x_pick, pick_t, pick_f, x_field1, x_fieldN, x_extract, x_box, x_alloc, x_load1, x_loadN, withH_some', x_store, x_mkfunc, x_mkslice, x_slice, x_fieldAddr, fieldAt_p, x_idxArr, x_idxSl, x_append, x_there, x_len, len_slice, x_not, not_bool, x_call, x_int2, i_add, i_sub, i_mul, i_eql, i_neq, i_lss, i_leq, i_gtr, i_geq, x_plain, p_min, p_max, p_rem, p_quo, r_min, r_max, p_shl, p_or, p_and, p_andNot, eqV_i, x_bslice, x_build, res_cellN, res_cell1, valN_tmp, valN_const, if_true, if_false, Nat.le_refl, true_and, and_true, decide_true, decide_false, Bool.not_true, Bool.not_false, reduceIte, Nat.reduceEqDiff, Nat.reduceAdd, Nat.reduceMul, Nat.reduceSub, Nat.reduceLeDiff, Nat.reduceLT, hl, q1']
  exact ⟨_, rfl, q2, by rw [q5], by have := ho4.next; omega⟩
end
end Go.Vm.Vat

namespace Go.Vm.Vat
open Go.Proofs
set_option linter.unusedSimpArgs false
set_option linter.unusedVariables false
set_option maxRecDepth 10000
variable {n : Nat} {h : AHeap}

/-! ### The truths of a yard -/
/-- how many ways there are to fill d fields from i on -/
def prodFrom (lo hi : Nat → Int) : Nat → Nat → Int
  | 0, _ => 1
  | d + 1, i => (hi i - lo i + 1) * prodFrom lo hi d (i + 1)
theorem sizeN_prod {lo hi : Nat → Int} : ∀ (d i : Nat), sizeN lo hi (i + d) = sizeN lo hi i * prodFrom lo hi d i
  | 0, i => by simp [prodFrom]
  | d + 1, i => by
    have := sizeN_prod (lo := lo) (hi := hi) d (i + 1)
    rw [show i + (d + 1) = i + 1 + d by omega, this]
    simp only [sizeN, prodFrom, Int.mul_assoc]
theorem enumB_len {lo hi : Nat → Int} : ∀ (d i : Nat) (c : Nat → Int), (∀ k, i ≤ k → k < i + d → lo k ≤ hi k) → ((enumB lo hi d i c).length : Int) = prodFrom lo hi d i
  | 0, i, c, _ => by simp [enumB, prodFrom]
  | d + 1, i, c, hv => by
    have h0 := hv i (by omega) (by omega)
    have hm : ((hi i - lo i + 1).toNat : Int) = hi i - lo i + 1 := Int.toNat_of_nonneg (by omega)
    have : ∀ m : Nat, ((((List.range m).flatMap fun (k : Nat) => enumB lo hi d (i + 1) fun j => if j = i then lo i + (k : Int) else c j).length : Nat) : Int) = m * prodFrom lo hi d (i + 1) := by
      intro m
      induction m with
      | zero => simp
      | succ m ih =>
        rw [List.range_succ, List.flatMap_append, List.length_append]
        have e := enumB_len d (i + 1) (fun j => if j = i then lo i + (m : Int) else c j) fun k h1 h2 => hv k (by omega) (by omega)
        simp only [List.flatMap_cons, List.flatMap_nil, List.append_nil]
        rw [Int.natCast_add, ih, e, Int.natCast_add, Int.add_mul]
        simp
    simp only [enumB, prodFrom]
    rw [this, hm]
theorem enumB_ok {lo hi : Nat → Int} : ∀ (d i : Nat) (c x : Nat → Int), x ∈ enumB lo hi d i c ↔ ((∀ j, i ≤ j → j < i + d → lo j ≤ x j ∧ x j ≤ hi j) ∧ ∀ j, j < i ∨ i + d ≤ j → x j = c j)
  | 0, i, c, x => by
    simp only [enumB, List.mem_singleton]
    constructor
    · rintro rfl; exact ⟨fun j h1 h2 => by omega, fun _ _ => rfl⟩
    · rintro ⟨_, h2⟩; exact funext fun j => h2 j (by omega)
  | d + 1, i, c, x => by
    simp only [enumB, List.mem_flatMap, List.mem_range, enumB_ok d (i + 1)]
    constructor
    · rintro ⟨k, hk, h1, h2⟩
      refine ⟨fun j h3 h4 => ?_, fun j hj => ?_⟩
      · by_cases e : j = i
        · subst e
          have := h2 j (by omega)
          simp only [if_true] at this
          omega
        · exact h1 j (by omega) (by omega)
      · have := h2 j (by omega)
        rw [if_neg (by omega)] at this
        exact this
    · rintro ⟨h1, h2⟩
      obtain ⟨h3, h4⟩ := h1 i (by omega) (by omega)
      refine ⟨(x i - lo i).toNat, by omega, fun j h5 h6 => h1 j (by omega) (by omega), fun j hj => ?_⟩
      by_cases e : j = i
      · subst e; simp only [if_true]; omega
      · simp only [e, if_false]; exact h2 j (by omega)
/-- the blues with which all samples are right, in order -/
noncomputable def truths (Y : MY) : List (Nat → Int) := open Classical in (enumB Y.lo Y.hi Y.nf 0 fun _ => 0).filter fun c => decide (∀ k, k < Y.ns → RightB Y c k)
noncomputable def truthStep (Y : MY) (s : List (Nat → Int)) (c : Nat → Int) : List (Nat → Int) × Bool := open Classical in (if (∀ k, k < Y.ns → RightB Y c k) then s ++ [c] else s, true)
theorem runL_truth {Y : MY} : ∀ (l s : List (Nat → Int)), runL (truthStep Y) s l = (s ++ (open Classical in l.filter fun c => decide (∀ k, k < Y.ns → RightB Y c k)), true)
  | [], s => by simp [runL]
  | x :: l, s => by
    simp only [runL, truthStep, if_true]
    have := runL_truth (Y := Y) l
    by_cases e : ∀ k, k < Y.ns → RightB Y x k
    · rw [if_pos e, this, List.filter_cons, if_pos (by simpa using e)]; simp
    · rw [if_neg e, this, List.filter_cons, if_neg (by simpa using e)]
/-- a list of truths lies in memory -/
def TruthsR (h : AHeap) (v : Value) (l : List (Nat → Int)) : Prop := Cells h v 5 l.length fun k j => .int .i64 ((l.getD k fun _ => 0) j)

theorem _root_.Go.Vm.Cells.old {g : AHeap} {v : Value} {s n : Nat} {c : Nat → Nat → Value} (hc : Cells h v s n c) (ho : ∀ i, i < h.next → g.get i = h.get i) : Cells g v s n c :=
  hc.mono fun i cs w gr _ hg => by rw [ho i (AHeap.lt_of_get hg)]; exact hg
theorem _root_.Go.Vm.AHeap.subOf {g : AHeap} (ho : ∀ i, i < h.next → g.get i = h.get i) : Sub All h g := fun i cs w gr _ hg => by rw [ho i (AHeap.lt_of_get hg)]; exact hg
theorem fault_size {Y : MY} (hf : faultN Y = 0) : Good Y ∧ sizeN Y.lo Y.hi Y.nf ≤ 2000 := by
  have hG := good_of hf
  refine ⟨hG, ?_⟩
  have hF : ∀ k, k < Y.nf → 0 ≤ Y.lo k ∧ Y.lo k ≤ Y.hi k ∧ Y.hi k ≤ 20 := hG.f
  have hsm := sizeN_many (by have := hG.sz.1; omega) hF Y.nf (Nat.le_refl _)
  unfold faultN at hf
  rw [if_neg (by simpa using hG.sz), if_pos ⟨hG.f, hG.v, hG.s⟩] at hf
  by_cases hm : 2000 < manyN Y.lo Y.hi Y.nf
  · rw [if_pos hm] at hf; cases hf
  · omega

theorem nil_call : call n (.func (.yield 0) #[] #[]) [] h = call n (.func (.yield 0) ⟨[]⟩ ⟨[]⟩) [] h := rfl
theorem call_yield {l : Nat} {args : List Value} : call (n + 1) (.func (.yield l) #[] #[]) args h = roundA Try.prog (call n) n l args h := rfl

def s105 : SCode := (.seq (.ops [⟨(some 1), none, .box (T 0)⟩, ⟨(some 2), none, .mov (.const .nilFunc)⟩]) (.seq (.ops [⟨(some 3), none, .mkfunc 121 [] [(T 1)]⟩, ⟨(some 2), none, .mov (T 3)⟩]) .ret))
theorem fok105 : FnOk Try.prog 105 4 s105 [.tmp 2] := ⟨Try.f105, _, Try.func105, rfl, Try.ntmps105, by kernel_rfl, by kernel_rfl⟩
theorem allBlues_c (hn : 1 ≤ n) (hr : h.next < far) {F V S T : Value} (h1 : allB oneCell [F, V, S, T] = true) :
    ∃ h', call n (.func (.func 105) #[] #[]) [.agg ⟨[F, V, S, T]⟩] h = some (.func (.func 121) ⟨[]⟩ ⟨[.pointer (some ⟨h.next, 0, none⟩)]⟩, h') ∧ New h h' [F, V, S, T] 0 := by
  obtain ⟨n, rfl⟩ : ∃ p, n = p + 1 := ⟨n - 1, by omega⟩
  suffices hs : ∃ v h', call (n + 1) (.func (.func 105) #[] #[]) [.agg ⟨[F, V, S, T]⟩] h = some (v, h') ∧ v = .func (.func 121) ⟨[]⟩ ⟨[.pointer (some ⟨h.next, 0, none⟩)]⟩ ∧ New h h' [F, V, S, T] 0 by
    obtain ⟨v, h', e, rfl, hx⟩ := hs
    exact ⟨h', e, hx⟩
  refine call_any0 fok105 rfl rfl (by simp) ?_
  simp only [s105, W_seq, W_ops]
  refine ops_box (cs := [F, V, S, T]) (by omega) rfl h1 fun g1 hx1 => ?_
  simp only [W_skip, W_ret, W_exit, W_seq, W_block, then_norm', then_exit', then_ret', block_norm', block_ret', block_exit', W_cond, cond_true', cond_false', W_ops, ops_nil, ops_cons, ops_guard, step_some, g_tt, g_tf, g_ft, g_ff, put_some, put_none, upd_ite, val_tmp, fr0_zero, fr0_succ, ret_ret, ret_norm, res_tmp, ex_some, val_const, val_func, vals_nil, vals_cons, d_nil, d_free, d_rd1, d_rd, d_up, d_any, same_some, up_some, all_reads, Sub.refl, x_mov, x_pick, pick_t, pick_f, x_field1, x_fieldN, x_extract, x_box, x_alloc, x_load1, x_loadN, withH_some', x_store, x_mkfunc, x_mkslice, x_slice, x_fieldAddr, fieldAt_p, x_idxArr, x_idxSl, x_append, x_there, x_len, len_slice, x_not, not_bool, x_call, x_int2, i_add, i_sub, i_mul, i_eql, i_neq, i_lss, i_leq, i_gtr, i_geq, x_plain, p_min, p_max, p_rem, p_quo, r_min, r_max, p_shl, p_or, p_and, p_andNot, eqV_i, x_bslice, x_build, res_cellN, res_cell1, valN_tmp, valN_const, if_true, if_false, Nat.le_refl, true_and, and_true, decide_true, decide_false, Bool.not_true, Bool.not_false, reduceIte, Nat.reduceEqDiff, Nat.reduceAdd, Nat.reduceMul, Nat.reduceSub, Nat.reduceLeDiff, Nat.reduceLT]
  exact hx1

/-- what 'open' keeps while it goes through the blues -/
structure JO (h2 : AHeap) (p : Nat) (F V S : Value) (s : List (Nat → Int)) (g : AHeap) : Prop where
  old : ∀ i, i < h2.next → i ≠ p → g.get i = h2.get i
  tv : ∃ tv, g.get p = some (.row [F, V, S, tv] true 0) ∧ GrowC (h2.next + 3) g tv 5 s.length fun k j => .int .i64 ((s.getD k fun _ => 0) j)
  up : h2.next + 3 ≤ g.next
  len : s.length ≤ g.next

theorem arr_eq {c : Nat → Int} : arr c = [.int .i64 (c 0), .int .i64 (c 1), .int .i64 (c 2), .int .i64 (c 3), .int .i64 (c 4)] := rfl
theorem sl_arr {c : Nat → Int} : buildSl 5 1 [.int .i64 0, .int .i64 0, .int .i64 0, .int .i64 0, .int .i64 0] [0] h [.agg ⟨arr c⟩] = newSlice h (arr c) 1 1 0 := by rw [arr_eq]; exact id rfl
/-- a slice that is no longer than its capacity, if that is 1 -/
def Long (v : Value) : Prop := ∀ a n c, v = .slice a n c → c = 1 → n ≤ 1
theorem _root_.Go.Vm.GrowC.long {B s n : Nat} {v : Value} {c : Nat → Nat → Value} (hg : GrowC B h v s n c) : Long v := by
  obtain ⟨cs, ⟨rfl, _, _⟩ | ⟨b, rfl, _⟩, _⟩ := hg
  · intro a n c e; cases e; intro _; omega
  · intro a n c e; cases e; intro h; simp [unk] at h
/-- what 'open' answers -/
def OpenR (h : AHeap) (Y : MY) (F V S v : Value) (h' : AHeap) : Prop := Made h h' 230000 ∧
  ((faultN Y ≠ 0 ∧ v = .tuple ⟨[.agg ⟨[nilS, nilS, nilS, nilS]⟩, .int .i64 (faultN Y)]⟩) ∨ (faultN Y = 0 ∧ ∃ tv, v = .tuple ⟨[.agg ⟨[F, V, S, tv]⟩, .int .i64 0]⟩ ∧ TruthsR h' tv (truths Y) ∧ Long tv))
theorem build_work0 : buildA (fun x => (#[(0, 3), (3, 1)] : Array (Nat × Nat))[x]?) ⟨[.slice none 0 0, .slice none 0 0, .slice none 0 0, .slice none 0 0]⟩ [] h [] = some (.agg ⟨[nilS, nilS, nilS, nilS]⟩, h) := id rfl
noncomputable def s78 : SCode := (.seq (.ops [⟨(some 1), none, .box (T 0)⟩, ⟨(some 2), none, .alloc [(.slice none 0 0), (.slice none 0 0), (.slice none 0 0), (.slice none 0 0)]⟩, ⟨(some 3), none, .mov (.const (.int .i64 (0)))⟩]) (.seq (.seq (.ops [⟨(some 7), none, .loadN 3 (T 1)⟩, ⟨(some 8), none, .call (.func 30) [(T 7)]⟩, ⟨(some 4), none, .mov (T 8)⟩]) (.seq (.ops [⟨(some 9), none, .mov (T 4)⟩, ⟨(some 10), none, .int2 .neq (T 9) (.const (.int .i64 (0)))⟩]) (.cond (T 10) (.seq (.ops [⟨(some 11), none, .build #[(0, 3), (3, 1)] [(.slice none 0 0), (.slice none 0 0), (.slice none 0 0), (.slice none 0 0)] [] []⟩, ⟨(some 12), none, .mov (T 4)⟩, ⟨none, none, .store 4 (T 2) (T 11)⟩, ⟨(some 3), none, .mov (T 12)⟩]) .ret) .skip))) (.seq (.ops [⟨(some 13), none, .loadN 3 (T 1)⟩, ⟨(some 14), none, .build #[(0, 3), (3, 1)] [(.slice none 0 0), (.slice none 0 0), (.slice none 0 0), (.slice none 0 0)] [0] [(T 13)]⟩, ⟨(some 5), none, .alloc [(.slice none 0 0), (.slice none 0 0), (.slice none 0 0), (.slice none 0 0)]⟩, ⟨none, none, .store 4 (T 5) (T 14)⟩]) (.seq (.seq (.ops [⟨(some 15), none, .loadN 4 (T 5)⟩, ⟨(some 16), none, .call (.func 105) [(T 15)]⟩]) (.block 0 (.range (T 16) #[17] (rangeOf Try.f78 0).1 (rangeOf Try.f78 0).2))) (.seq (.ops [⟨(some 27), none, .loadN 4 (T 5)⟩, ⟨none, none, .store 4 (T 2) (T 27)⟩, ⟨(some 3), none, .mov (.const (.int .i64 (0)))⟩]) .ret)))))
theorem fok78 : FnOk Try.prog 78 28 s78 [.cellN 2 4, .tmp 3] := ⟨Try.f78, _, Try.func78, rfl, Try.ntmps78, by kernel_rfl, by kernel_rfl⟩
def ra78_0 : SCode := (.ops [⟨(some 6), none, .alloc [(.int .i64 (0)), (.int .i64 (0)), (.int .i64 (0)), (.int .i64 (0)), (.int .i64 (0))]⟩, ⟨none, none, .store 5 (T 6) (T 17)⟩])
theorem raok78_0 : compCode Try.prog 28 (rangeOf Try.f78 0).1 = some ra78_0 := by kernel_rfl
def rb78_0 : SCode := (.block 1 (.seq (.ops [⟨(some 18), none, .loadN 4 (T 5)⟩, ⟨(some 19), none, .loadN 5 (T 6)⟩, ⟨(some 20), none, .call (.func 114) [(T 18), (T 19)]⟩]) (.cond (T 20) (.ops [⟨(some 21), none, .fieldAddr 3 (T 5)⟩, ⟨(some 22), none, .load1 (T 21)⟩, ⟨(some 23), none, .loadN 5 (T 6)⟩, ⟨(some 24), none, .bslice 5 1 [(.int .i64 (0)), (.int .i64 (0)), (.int .i64 (0)), (.int .i64 (0)), (.int .i64 (0))] [0] [(T 23)]⟩, ⟨(some 25), none, .append 5 40 (T 22) (T 24)⟩, ⟨(some 26), none, .fieldAddr 3 (T 5)⟩, ⟨none, none, .store 1 (T 26) (T 25)⟩]) .skip)))
theorem rbok78_0 : compCode Try.prog 28 (rangeOf Try.f78 0).2 = some rb78_0 := by kernel_rfl
theorem open_c (hn : 10040 ≤ n) (hr : h.next + 300000 < far) (hfl : h.floor ≤ h.next) {F V S : Value} {Y : MY} (hy : YardR h F V S Y) (hY : Thin Y) :
    ∃ v h', call n (.func (.func 78) #[] #[]) [.agg ⟨[F, V, S]⟩] h = some (v, h') ∧ OpenR h Y F V S v h' := by
  obtain ⟨n, rfl⟩ : ∃ p, n = p + 1 := ⟨n - 1, by omega⟩
  refine call_any0 fok78 rfl rfl (by simp) ?_
  simp only [s78, W_seq, W_ops]
  refine ops_box (cs := [F, V, S]) (by omega) rfl hy.one fun g1 hx1 => ?_
  have n1 := hx1.next
  have f1 := hx1.floor
  simp only [W_skip, W_ret, W_exit, W_seq, W_block, then_norm', then_exit', then_ret', block_norm', block_ret', block_exit', W_cond, cond_true', cond_false', W_ops, ops_nil, ops_cons, ops_guard, step_some, g_tt, g_tf, g_ft, g_ff, put_some, put_none, upd_ite, val_tmp, fr0_zero, fr0_succ, ret_ret, ret_norm, res_tmp, ex_some, val_const, val_func, vals_nil, vals_cons, d_nil, d_free, d_rd1, d_rd, d_up, d_any, same_some, up_some, all_reads, Sub.refl, x_mov, x_pick, pick_t, pick_f, x_field1, x_fieldN, x_extract, x_box, x_alloc, x_load1, x_loadN, withH_some', x_store, x_mkfunc, x_mkslice, x_slice, x_fieldAddr, fieldAt_p, x_idxArr, x_idxSl, x_append, x_there, x_len, len_slice, x_not, not_bool, x_call, x_int2, i_add, i_sub, i_mul, i_eql, i_neq, i_lss, i_leq, i_gtr, i_geq, x_plain, p_min, p_max, p_rem, p_quo, r_min, r_max, p_shl, p_or, p_and, p_andNot, eqV_i, x_bslice, x_build, res_cellN, res_cell1, valN_tmp, valN_const, if_true, if_false, Nat.le_refl, true_and, and_true, decide_true, decide_false, Bool.not_true, Bool.not_false, reduceIte, Nat.reduceEqDiff, Nat.reduceAdd, Nat.reduceMul, Nat.reduceSub, Nat.reduceLeDiff, Nat.reduceLT]
  refine step_row (cs := [nilS, nilS, nilS, nilS]) (by omega) rfl rfl fun g2 hx2 => ?_
  have n2 := hx2.next
  have f2 := hx2.floor
  have e1 : g1.next = h.next + 1 := n1
  have e2 : g2.next = h.next + 2 := by omega
  have hy2 := (hy.mono hx1.sub).mono hx2.sub
  have w1 := (hx1.row.mono hx2.sub).whole (n := 3) rfl
  have ec := checkYard_c (n := n) (h := g2) (by omega) (by omega) hy2 hY
  have hr2 : g2.get (h.next + 1) = some (.row [nilS, nilS, nilS, nilS] true 0) := by have := hx2.get; rw [e1] at this; exact this
  have old2 : ∀ i, i < h.next → g2.get i = h.get i := fun i hi => by rw [hx2.old i (by omega), hx1.old i hi]
  by_cases hf : faultN Y = 0
  case neg =>
    simp only [W_skip, W_ret, W_exit, W_seq, W_block, then_norm', then_exit', then_ret', block_norm', block_ret', block_exit', W_cond, cond_true', cond_false', W_ops, ops_nil, ops_cons, ops_guard, step_some, g_tt, g_tf, g_ft, g_ff, put_some, put_none, upd_ite, val_tmp, fr0_zero, fr0_succ, ret_ret, ret_norm, res_tmp, ex_some, val_const, val_func, vals_nil, vals_cons, d_nil, d_free, d_rd1, d_rd, d_up, d_any, same_some, up_some, all_reads, Sub.refl, x_mov, x_pick, pick_t, pick_f, x_field1, x_fieldN, x_extract, x_box, x_alloc, x_load1, x_loadN, withH_some', x_store, x_mkfunc, x_mkslice, x_slice, x_fieldAddr, fieldAt_p, x_idxArr, x_idxSl, x_append, x_there, x_len, len_slice, x_not, not_bool, x_call, x_int2, i_add, i_sub, i_mul, i_eql, i_neq, i_lss, i_leq, i_gtr, i_geq, x_plain, p_min, p_max, p_rem, p_quo, r_min, r_max, p_shl, p_or, p_and, p_andNot, eqV_i, x_bslice, x_build, res_cellN, res_cell1, valN_tmp, valN_const, if_true, if_false, Nat.le_refl, true_and, and_true, decide_true, decide_false, Bool.not_true, Bool.not_false, reduceIte, Nat.reduceEqDiff, Nat.reduceAdd, Nat.reduceMul, Nat.reduceSub, Nat.reduceLeDiff, Nat.reduceLT, w1, ec, hf, build_work0, e1]
    refine step_store (vs := [nilS, nilS, nilS, nilS]) rfl hr2 (by omega) (by omega) rfl rfl rfl (by simp) fun g3 hs => ?_
    have hrow := hs.row.whole (n := 4) rfl
    simp only [W_skip, W_ret, W_exit, W_seq, W_block, then_norm', then_exit', then_ret', block_norm', block_ret', block_exit', W_cond, cond_true', cond_false', W_ops, ops_nil, ops_cons, ops_guard, step_some, g_tt, g_tf, g_ft, g_ff, put_some, put_none, upd_ite, val_tmp, fr0_zero, fr0_succ, ret_ret, ret_norm, res_tmp, ex_some, val_const, val_func, vals_nil, vals_cons, d_nil, d_free, d_rd1, d_rd, d_up, d_any, same_some, up_some, all_reads, Sub.refl, x_mov, x_pick, pick_t, pick_f, x_field1, x_fieldN, x_extract, x_box, x_alloc, x_load1, x_loadN, withH_some', x_store, x_mkfunc, x_mkslice, x_slice, x_fieldAddr, fieldAt_p, x_idxArr, x_idxSl, x_append, x_there, x_len, len_slice, x_not, not_bool, x_call, x_int2, i_add, i_sub, i_mul, i_eql, i_neq, i_lss, i_leq, i_gtr, i_geq, x_plain, p_min, p_max, p_rem, p_quo, r_min, r_max, p_shl, p_or, p_and, p_andNot, eqV_i, x_bslice, x_build, res_cellN, res_cell1, valN_tmp, valN_const, if_true, if_false, Nat.le_refl, true_and, and_true, decide_true, decide_false, Bool.not_true, Bool.not_false, reduceIte, Nat.reduceEqDiff, Nat.reduceAdd, Nat.reduceMul, Nat.reduceSub, Nat.reduceLeDiff, Nat.reduceLT, res_two, hrow]
    refine ⟨⟨AHeap.subOf fun i hi => by rw [hs.old i (by omega), old2 i hi], by have := hs.next; omega, by have := hs.next; omega, by rw [hs.floor, f2, f1]⟩, .inl ⟨hf, ?_⟩⟩
    simp [splice]
  obtain ⟨hG, hsz⟩ := fault_size hf
  obtain ⟨z1, z2, z3⟩ := hG.sz
  have hF : ∀ k, k < Y.nf → 0 ≤ Y.lo k ∧ Y.lo k ≤ Y.hi k ∧ Y.hi k ≤ 20 := hG.f
  have ho4 : ∀ T, oneCell T = true → allB oneCell [F, V, S, T] = true := fun T hT => by have := hy.one; simp [allB] at this ⊢; simp [this, hT]
  have hlenE : (enumB Y.lo Y.hi Y.nf 0 fun _ => 0).length ≤ 2000 := by
    have h1 := enumB_len (lo := Y.lo) (hi := Y.hi) Y.nf 0 (fun _ => 0) fun k _ hk => (hF k (by omega)).2.1
    have h2 := sizeN_prod (lo := Y.lo) (hi := Y.hi) Y.nf 0
    simp only [Nat.zero_add, sizeN, Int.one_mul] at h2
    omega
  simp only [W_skip, W_ret, W_exit, W_seq, W_block, then_norm', then_exit', then_ret', block_norm', block_ret', block_exit', W_cond, cond_true', cond_false', W_ops, ops_nil, ops_cons, ops_guard, step_some, g_tt, g_tf, g_ft, g_ff, put_some, put_none, upd_ite, val_tmp, fr0_zero, fr0_succ, ret_ret, ret_norm, res_tmp, ex_some, val_const, val_func, vals_nil, vals_cons, d_nil, d_free, d_rd1, d_rd, d_up, d_any, same_some, up_some, all_reads, Sub.refl, x_mov, x_pick, pick_t, pick_f, x_field1, x_fieldN, x_extract, x_box, x_alloc, x_load1, x_loadN, withH_some', x_store, x_mkfunc, x_mkslice, x_slice, x_fieldAddr, fieldAt_p, x_idxArr, x_idxSl, x_append, x_there, x_len, len_slice, x_not, not_bool, x_call, x_int2, i_add, i_sub, i_mul, i_eql, i_neq, i_lss, i_leq, i_gtr, i_geq, x_plain, p_min, p_max, p_rem, p_quo, r_min, r_max, p_shl, p_or, p_and, p_andNot, eqV_i, x_bslice, x_build, res_cellN, res_cell1, valN_tmp, valN_const, if_true, if_false, Nat.le_refl, true_and, and_true, decide_true, decide_false, Bool.not_true, Bool.not_false, reduceIte, Nat.reduceEqDiff, Nat.reduceAdd, Nat.reduceMul, Nat.reduceSub, Nat.reduceLeDiff, Nat.reduceLT, w1, ec, hf, build_work]
  refine step_new (vs := [F, V, S, nilS]) (by omega) (by omega) rfl (by simp only [W_skip, W_ret, W_exit, W_seq, W_block, then_norm', then_exit', then_ret', block_norm', block_ret', block_exit', W_cond, cond_true', cond_false', W_ops, ops_nil, ops_cons, ops_guard, step_some, g_tt, g_tf, g_ft, g_ff, put_some, put_none, upd_ite, val_tmp, fr0_zero, fr0_succ, ret_ret, ret_norm, res_tmp, ex_some, val_const, val_func, vals_nil, vals_cons, d_nil, d_free, d_rd1, d_rd, d_up, d_any, same_some, up_some, all_reads, Sub.refl, x_mov, x_pick, pick_t, pick_f, x_field1, x_fieldN, x_extract, x_box, x_alloc, x_load1, x_loadN, withH_some', x_store, x_mkfunc, x_mkslice, x_slice, x_fieldAddr, fieldAt_p, x_idxArr, x_idxSl, x_append, x_there, x_len, len_slice, x_not, not_bool, x_call, x_int2, i_add, i_sub, i_mul, i_eql, i_neq, i_lss, i_leq, i_gtr, i_geq, x_plain, p_min, p_max, p_rem, p_quo, r_min, r_max, p_shl, p_or, p_and, p_andNot, eqV_i, x_bslice, x_build, res_cellN, res_cell1, valN_tmp, valN_const, if_true, if_false, Nat.le_refl, true_and, and_true, decide_true, decide_false, Bool.not_true, Bool.not_false, reduceIte, Nat.reduceEqDiff, Nat.reduceAdd, Nat.reduceMul, Nat.reduceSub, Nat.reduceLeDiff, Nat.reduceLT]; rfl) (ho4 _ rfl) rfl rfl fun g3 hx3 => ?_
  have n3 := hx3.next
  have f3 := hx3.floor
  rw [e2] at n3
  have w3 := hx3.row.whole (n := 4) rfl
  rw [e2] at w3
  obtain ⟨g4, e4, hx4⟩ := allBlues_c (n := n) (h := g3) (F := F) (V := V) (S := S) (T := nilS) (by omega) (by omega) (ho4 _ rfl)
  have n4 := hx4.next
  have f4 := hx4.floor
  rw [e1, e2]
  simp only [W_skip, W_ret, W_exit, W_seq, W_block, then_norm', then_exit', then_ret', block_norm', block_ret', block_exit', W_cond, cond_true', cond_false', W_ops, ops_nil, ops_cons, ops_guard, step_some, g_tt, g_tf, g_ft, g_ff, put_some, put_none, upd_ite, val_tmp, fr0_zero, fr0_succ, ret_ret, ret_norm, res_tmp, ex_some, val_const, val_func, vals_nil, vals_cons, d_nil, d_free, d_rd1, d_rd, d_up, d_any, same_some, up_some, all_reads, Sub.refl, x_mov, x_pick, pick_t, pick_f, x_field1, x_fieldN, x_extract, x_box, x_alloc, x_load1, x_loadN, withH_some', x_store, x_mkfunc, x_mkslice, x_slice, x_fieldAddr, fieldAt_p, x_idxArr, x_idxSl, x_append, x_there, x_len, len_slice, x_not, not_bool, x_call, x_int2, i_add, i_sub, i_mul, i_eql, i_neq, i_lss, i_leq, i_gtr, i_geq, x_plain, p_min, p_max, p_rem, p_quo, r_min, r_max, p_shl, p_or, p_and, p_andNot, eqV_i, x_bslice, x_build, res_cellN, res_cell1, valN_tmp, valN_const, if_true, if_false, Nat.le_refl, true_and, and_true, decide_true, decide_false, Bool.not_true, Bool.not_false, reduceIte, Nat.reduceEqDiff, Nat.reduceAdd, Nat.reduceMul, Nat.reduceSub, Nat.reduceLeDiff, Nat.reduceLT, w3, e4]
  refine W_range' rfl (by omega) (by simp only [W_skip, W_ret, W_exit, W_seq, W_block, then_norm', then_exit', then_ret', block_norm', block_ret', block_exit', W_cond, cond_true', cond_false', W_ops, ops_nil, ops_cons, ops_guard, step_some, g_tt, g_tf, g_ft, g_ff, put_some, put_none, upd_ite, val_tmp, fr0_zero, fr0_succ, ret_ret, ret_norm, res_tmp, ex_some, val_const, val_func, vals_nil, vals_cons, d_nil, d_free, d_rd1, d_rd, d_up, d_any, same_some, up_some, all_reads, Sub.refl, x_mov, x_pick, pick_t, pick_f, x_field1, x_fieldN, x_extract, x_box, x_alloc, x_load1, x_loadN, withH_some', x_store, x_mkfunc, x_mkslice, x_slice, x_fieldAddr, fieldAt_p, x_idxArr, x_idxSl, x_append, x_there, x_len, len_slice, x_not, not_bool, x_call, x_int2, i_add, i_sub, i_mul, i_eql, i_neq, i_lss, i_leq, i_gtr, i_geq, x_plain, p_min, p_max, p_rem, p_quo, r_min, r_max, p_shl, p_or, p_and, p_andNot, eqV_i, x_bslice, x_build, res_cellN, res_cell1, valN_tmp, valN_const, if_true, if_false, Nat.le_refl, true_and, and_true, decide_true, decide_false, Bool.not_true, Bool.not_false, reduceIte, Nat.reduceEqDiff, Nat.reduceAdd, Nat.reduceMul, Nat.reduceSub, Nat.reduceLeDiff, Nat.reduceLT]; rfl) fun f0 hf0 ts hv h2 hl => ?_
  have f5 : f0 5 = .pointer (some ⟨h.next + 2, 0, none⟩) := by rw [hf0]; simp only [W_skip, W_ret, W_exit, W_seq, W_block, then_norm', then_exit', then_ret', block_norm', block_ret', block_exit', W_cond, cond_true', cond_false', W_ops, ops_nil, ops_cons, ops_guard, step_some, g_tt, g_tf, g_ft, g_ff, put_some, put_none, upd_ite, val_tmp, fr0_zero, fr0_succ, ret_ret, ret_norm, res_tmp, ex_some, val_const, val_func, vals_nil, vals_cons, d_nil, d_free, d_rd1, d_rd, d_up, d_any, same_some, up_some, all_reads, Sub.refl, x_mov, x_pick, pick_t, pick_f, x_field1, x_fieldN, x_extract, x_box, x_alloc, x_load1, x_loadN, withH_some', x_store, x_mkfunc, x_mkslice, x_slice, x_fieldAddr, fieldAt_p, x_idxArr, x_idxSl, x_append, x_there, x_len, len_slice, x_not, not_bool, x_call, x_int2, i_add, i_sub, i_mul, i_eql, i_neq, i_lss, i_leq, i_gtr, i_geq, x_plain, p_min, p_max, p_rem, p_quo, r_min, r_max, p_shl, p_or, p_and, p_andNot, eqV_i, x_bslice, x_build, res_cellN, res_cell1, valN_tmp, valN_const, if_true, if_false, Nat.le_refl, true_and, and_true, decide_true, decide_false, Bool.not_true, Bool.not_false, reduceIte, Nat.reduceEqDiff, Nat.reduceAdd, Nat.reduceMul, Nat.reduceSub, Nat.reduceLeDiff, Nat.reduceLT]
  have f2' : f0 2 = .pointer (some ⟨h.next + 1, 0, none⟩) := by rw [hf0]; simp only [W_skip, W_ret, W_exit, W_seq, W_block, then_norm', then_exit', then_ret', block_norm', block_ret', block_exit', W_cond, cond_true', cond_false', W_ops, ops_nil, ops_cons, ops_guard, step_some, g_tt, g_tf, g_ft, g_ff, put_some, put_none, upd_ite, val_tmp, fr0_zero, fr0_succ, ret_ret, ret_norm, res_tmp, ex_some, val_const, val_func, vals_nil, vals_cons, d_nil, d_free, d_rd1, d_rd, d_up, d_any, same_some, up_some, all_reads, Sub.refl, x_mov, x_pick, pick_t, pick_f, x_field1, x_fieldN, x_extract, x_box, x_alloc, x_load1, x_loadN, withH_some', x_store, x_mkfunc, x_mkslice, x_slice, x_fieldAddr, fieldAt_p, x_idxArr, x_idxSl, x_append, x_there, x_len, len_slice, x_not, not_bool, x_call, x_int2, i_add, i_sub, i_mul, i_eql, i_neq, i_lss, i_leq, i_gtr, i_geq, x_plain, p_min, p_max, p_rem, p_quo, r_min, r_max, p_shl, p_or, p_and, p_andNot, eqV_i, x_bslice, x_build, res_cellN, res_cell1, valN_tmp, valN_const, if_true, if_false, Nat.le_refl, true_and, and_true, decide_true, decide_false, Bool.not_true, Bool.not_false, reduceIte, Nat.reduceEqDiff, Nat.reduceAdd, Nat.reduceMul, Nat.reduceSub, Nat.reduceLeDiff, Nat.reduceLT]
  clear hf0
  have nl := hl.next
  have fl := hl.floor
  have en : g4.next = h.next + 4 := by omega
  have hbase : ∀ i, i < h.next → h2.get i = h.get i := fun i hi => by rw [hl.old i (by omega), hx4.old i (by omega), hx3.old i (by omega), old2 i hi]
  have hp2 : h2.get (h.next + 2) = some (.row [F, V, S, nilS] true 0) := by
    rw [hl.old _ (by omega), hx4.old _ (by omega)]; have := hx3.get; rw [e2] at this; exact this
  have hr2' : h2.get (h.next + 1) = some (.row [nilS, nilS, nilS, nilS] true 0) := by
    rw [hl.old _ (by omega), hx4.old _ (by omega), hx3.old _ (by omega)]; exact hr2
  have hpw : Row h2 (h.next + 3) [F, V, S, nilS] := by
    have := hx4.row.mono hl.sub
    rw [n3] at this
    exact this
  have hloop := hl.loop
  have hmark := hl.mark
  rw [en] at hloop hmark
  rw [en]
  rw [en] at hl
  generalize hr0 : loopO _ ts _ _ _ _ = r at hloop ⊢
  have r1 : r.state = .ready := by rw [← hr0]; rfl
  have r2 : View 28 r.tmps f0 := by rw [← hr0]; exact hv
  have r3 : r.params = #[17] := by rw [← hr0]; rfl
  have r4 : compCode Try.prog 28 r.assign = some ra78_0 := by rw [← hr0]; exact raok78_0
  have r5 : compCode Try.prog 28 r.body = some rb78_0 := by rw [← hr0]; exact rbok78_0
  have r6 : leftBy r .norm = r := by rw [← hr0]; rfl
  clear hr0 hl hv
  have hit := iter_c (truthStep Y) (JO h2 (h.next + 2) F V S) (g := h2) (pw := h.next + 3) (K := 110) (N0 := 10010) (n := n) (F := F) (V := V) (S := S) (T := nilS) (yv := .func (.yield (h.next + 5)) #[] #[]) (nf := Y.nf) (lo := Y.lo) (hi := Y.hi) [] z1 hF hpw (Cells.old hy.f hbase) rfl (by omega) (by omega) (by omega)
    (fun s g1 g' cs hj hs => by
      obtain ⟨tv, t1, t2⟩ := hj.tv
      exact ⟨fun i hi hne => by rw [hs.old i (by omega)]; exact hj.old i hi hne, ⟨tv, by rw [hs.old _ (by omega)]; exact t1, t2.keep hs.keep (by omega)⟩, by have := hj.up; have := hs.next; omega, by have := hj.len; have := hs.next; omega⟩)
    (fun g3 ho => ⟨fun i hi _ => ho.old i hi, ⟨nilS, by rw [ho.old _ (by omega)]; exact hp2, .nil⟩, by have := ho.next; omega, by simp⟩)
    (fun m g1 s c hm it hb hok hj hfg hr1 => by
      obtain ⟨m, rfl⟩ : ∃ p, m = p + 1 := ⟨m - 1, by omega⟩
      rw [call_yield]
      obtain ⟨tv, hp, gr⟩ := hj.tv
      have hup := hj.up
      have hloop1 : g1.get (h.next + 5) = some (.loop r) := by rw [hj.old _ (by omega) (by omega)]; exact hloop
      suffices key : ∃ e g', roundA Try.prog (call m) m (h.next + 5) [.agg ⟨arr c⟩] g1 = some (.bool (goesOn e), g') ∧ (e = .norm ∧ JO h2 (h.next + 2) F V S (truthStep Y s c).1 g' ∧ (∀ i, i < h2.next + 3 → i ≠ h.next + 2 → g'.get i = g1.get i) ∧ g'.floor = h2.floor ∧ g'.next ≤ g1.next + 110) by
        obtain ⟨e, g', k1, rfl, k2, k3, k4, k5⟩ := key
        have kb : ∀ i, i < h.next → g'.get i = h.get i := fun i hi => by rw [k3 i (by omega) (by omega), hj.old i (by omega) (by omega), hbase i hi]
        have krow : ∀ i cs, i < h2.next + 3 → i ≠ h.next + 2 → Row g1 i cs → Row g' i cs := fun i cs h1 h2 ⟨w, gr, e⟩ => ⟨w, gr, by rw [k3 i h1 h2]; exact e⟩
        refine ⟨g', k1, k2, ⟨krow _ _ (by omega) (by omega) it.w, krow _ _ (by omega) (by omega) it.y, krow _ _ (by omega) (by omega) it.c, Cells.old hy.f kb⟩, by rw [k3 _ (by omega) (by omega)]; exact hb, k4, k5⟩
      refine round_run (f := f0) hloop1 r1 r2 (by rw [r3]; rfl) (by omega) r4 r5 ?_
      have hset : setFr f0 r.params.toList [.agg ⟨arr c⟩] = upd f0 17 (.agg ⟨arr c⟩) := by rw [r3]; rfl
      rw [hset]
      simp only [W_skip, W_ret, W_exit, W_seq, W_block, then_norm', then_exit', then_ret', block_norm', block_ret', block_exit', W_cond, cond_true', cond_false', W_ops, ops_nil, ops_cons, ops_guard, step_some, g_tt, g_tf, g_ft, g_ff, put_some, put_none, upd_ite, val_tmp, fr0_zero, fr0_succ, ret_ret, ret_norm, res_tmp, ex_some, val_const, val_func, vals_nil, vals_cons, d_nil, d_free, d_rd1, d_rd, d_up, d_any, same_some, up_some, all_reads, Sub.refl, x_mov, x_pick, pick_t, pick_f, x_field1, x_fieldN, x_extract, x_box, x_alloc, x_load1, x_loadN, withH_some', x_store, x_mkfunc, x_mkslice, x_slice, x_fieldAddr, fieldAt_p, x_idxArr, x_idxSl, x_append, x_there, x_len, len_slice, x_not, not_bool, x_call, x_int2, i_add, i_sub, i_mul, i_eql, i_neq, i_lss, i_leq, i_gtr, i_geq, x_plain, p_min, p_max, p_rem, p_quo, r_min, r_max, p_shl, p_or, p_and, p_andNot, eqV_i, x_bslice, x_build, res_cellN, res_cell1, valN_tmp, valN_const, if_true, if_false, Nat.le_refl, true_and, and_true, decide_true, decide_false, Bool.not_true, Bool.not_false, reduceIte, Nat.reduceEqDiff, Nat.reduceAdd, Nat.reduceMul, Nat.reduceSub, Nat.reduceLeDiff, Nat.reduceLT, ra78_0]
      refine step_new (vs := arr c) (by omega) (by omega) rfl (by simp only [W_skip, W_ret, W_exit, W_seq, W_block, then_norm', then_exit', then_ret', block_norm', block_ret', block_exit', W_cond, cond_true', cond_false', W_ops, ops_nil, ops_cons, ops_guard, step_some, g_tt, g_tf, g_ft, g_ff, put_some, put_none, upd_ite, val_tmp, fr0_zero, fr0_succ, ret_ret, ret_norm, res_tmp, ex_some, val_const, val_func, vals_nil, vals_cons, d_nil, d_free, d_rd1, d_rd, d_up, d_any, same_some, up_some, all_reads, Sub.refl, x_mov, x_pick, pick_t, pick_f, x_field1, x_fieldN, x_extract, x_box, x_alloc, x_load1, x_loadN, withH_some', x_store, x_mkfunc, x_mkslice, x_slice, x_fieldAddr, fieldAt_p, x_idxArr, x_idxSl, x_append, x_there, x_len, len_slice, x_not, not_bool, x_call, x_int2, i_add, i_sub, i_mul, i_eql, i_neq, i_lss, i_leq, i_gtr, i_geq, x_plain, p_min, p_max, p_rem, p_quo, r_min, r_max, p_shl, p_or, p_and, p_andNot, eqV_i, x_bslice, x_build, res_cellN, res_cell1, valN_tmp, valN_const, if_true, if_false, Nat.le_refl, true_and, and_true, decide_true, decide_false, Bool.not_true, Bool.not_false, reduceIte, Nat.reduceEqDiff, Nat.reduceAdd, Nat.reduceMul, Nat.reduceSub, Nat.reduceLeDiff, Nat.reduceLT]; rfl) arr_one arr_len rfl fun g2 hx2 => ?_
      have n2 := hx2.next
      have f2 := hx2.floor
      simp only [W_skip, W_ret, W_exit, W_seq, W_block, then_norm', then_exit', then_ret', block_norm', block_ret', block_exit', W_cond, cond_true', cond_false', W_ops, ops_nil, ops_cons, ops_guard, step_some, g_tt, g_tf, g_ft, g_ff, put_some, put_none, upd_ite, val_tmp, fr0_zero, fr0_succ, ret_ret, ret_norm, res_tmp, ex_some, val_const, val_func, vals_nil, vals_cons, d_nil, d_free, d_rd1, d_rd, d_up, d_any, same_some, up_some, all_reads, Sub.refl, x_mov, x_pick, pick_t, pick_f, x_field1, x_fieldN, x_extract, x_box, x_alloc, x_load1, x_loadN, withH_some', x_store, x_mkfunc, x_mkslice, x_slice, x_fieldAddr, fieldAt_p, x_idxArr, x_idxSl, x_append, x_there, x_len, len_slice, x_not, not_bool, x_call, x_int2, i_add, i_sub, i_mul, i_eql, i_neq, i_lss, i_leq, i_gtr, i_geq, x_plain, p_min, p_max, p_rem, p_quo, r_min, r_max, p_shl, p_or, p_and, p_andNot, eqV_i, x_bslice, x_build, res_cellN, res_cell1, valN_tmp, valN_const, if_true, if_false, Nat.le_refl, true_and, and_true, decide_true, decide_false, Bool.not_true, Bool.not_false, reduceIte, Nat.reduceEqDiff, Nat.reduceAdd, Nat.reduceMul, Nat.reduceSub, Nat.reduceLeDiff, Nat.reduceLT]
      refine ⟨by rw [hx2.old _ (by omega)]; exact hloop1, by omega, fun g3 hp3 => ?_⟩
      have n3 := hp3.next
      have f3 := hp3.floor
      have g3old : ∀ i, i < g1.next → i ≠ h.next + 5 → g3.get i = g1.get i := fun i hi hne => by rw [hp3.old i hne, hx2.old i hi]
      have g3b : ∀ i, i < h.next → g3.get i = h.get i := fun i hi => by rw [g3old i (by omega) (by omega), hj.old i (by omega) (by omega), hbase i hi]
      have hy3 := hy.mono (AHeap.subOf g3b)
      have hp3' : g3.get (h.next + 2) = some (.row [F, V, S, tv] true 0) := by rw [g3old _ (by omega) (by omega)]; exact hp
      have rp3 : Row g3 (h.next + 2) [F, V, S, tv] := ⟨_, _, hp3'⟩
      have rc3 : Row g3 g1.next (arr c) := by
        obtain ⟨w, gr, e⟩ := hx2.row
        exact ⟨w, gr, by rw [hp3.old _ (by omega)]; exact e⟩
      have q1 := rp3.whole (n := 4) rfl
      have q2 := rc3.whole arr_len
      have hrange : ∀ k, k < Y.nf → 0 ≤ c k ∧ c k ≤ 20 := fun k hk => by have := hok.1 k hk; have := hF k hk; omega
      have hist := isTruthW_c (n := m) (h := g3) (F := F) (V := V) (S := S) (T := tv) (Y := Y) (b := c) (by omega) (by omega) hy3.s z3 hG.s ⟨hy3.v, z1, hG.v, hrange⟩ (ho4 _ gr.one)
      by_cases ht : ∀ k, k < Y.ns → RightB Y c k
      · have hst : (truthStep Y s c).1 = s ++ [c] := by simp only [truthStep]; rw [if_pos ht]
        simp only [W_skip, W_ret, W_exit, W_seq, W_block, then_norm', then_exit', then_ret', block_norm', block_ret', block_exit', W_cond, cond_true', cond_false', W_ops, ops_nil, ops_cons, ops_guard, step_some, g_tt, g_tf, g_ft, g_ff, put_some, put_none, upd_ite, val_tmp, fr0_zero, fr0_succ, ret_ret, ret_norm, res_tmp, ex_some, val_const, val_func, vals_nil, vals_cons, d_nil, d_free, d_rd1, d_rd, d_up, d_any, same_some, up_some, all_reads, Sub.refl, x_mov, x_pick, pick_t, pick_f, x_field1, x_fieldN, x_extract, x_box, x_alloc, x_load1, x_loadN, withH_some', x_store, x_mkfunc, x_mkslice, x_slice, x_fieldAddr, fieldAt_p, x_idxArr, x_idxSl, x_append, x_there, x_len, len_slice, x_not, not_bool, x_call, x_int2, i_add, i_sub, i_mul, i_eql, i_neq, i_lss, i_leq, i_gtr, i_geq, x_plain, p_min, p_max, p_rem, p_quo, r_min, r_max, p_shl, p_or, p_and, p_andNot, eqV_i, x_bslice, x_build, res_cellN, res_cell1, valN_tmp, valN_const, if_true, if_false, Nat.le_refl, true_and, and_true, decide_true, decide_false, Bool.not_true, Bool.not_false, reduceIte, Nat.reduceEqDiff, Nat.reduceAdd, Nat.reduceMul, Nat.reduceSub, Nat.reduceLeDiff, Nat.reduceLT, rb78_0, f5, q1, q2, hist, eq_true ht, rp3.ld, Nat.zero_add, List.getElem?_cons_zero, List.getElem?_cons_succ, sl_arr]
        refine step_slice (by omega) arr_one fun g4 hx4 => ?_
        have n4 := hx4.next
        have f4 := hx4.floor
        have k14 : Keep (h.next + 5) g1 g4 := ⟨fun i cs w gr hi hg => hx4.sub _ _ _ _ trivial (by rw [hp3.old i hi]; exact hx2.sub _ _ _ _ trivial hg), by omega, by omega⟩
        have gr4 : GrowC (h2.next + 3) g4 tv 5 s.length (fun k j => .int .i64 (((s ++ [c]).getD k fun _ => 0) j)) := (gr.keep k14 (by omega)).congr fun k j hk hj => by
          rw [List.getD_eq_getElem?_getD, List.getD_eq_getElem?_getD, List.getElem?_append_left hk]
        have hlen := hj.len
        obtain ⟨v', g5, e5, ev, gr5, hk5⟩ := gr4.append (bytes := 40) (cap := 1) (by omega) (by omega) (by omega) hx4.get arr_len arr_one (fun j hj => by
          rw [arr_get hj, List.getD_eq_getElem?_getD, List.getElem?_append_right (Nat.le_refl _)]; simp) (by simp [maxBytes, far] at *; omega) (by simp [maxBytes, far] at *; omega)
        have n5 := hk5.next
        have f5' := hk5.floor
        have hp5 : g5.get (h.next + 2) = some (.row [F, V, S, tv] true 0) := by
          rw [hk5.old _ (by omega) fun b k q e => by have := (gr4.block e).1; omega, hx4.old _ (by omega)]; exact hp3'
        simp only [W_skip, W_ret, W_exit, W_seq, W_block, then_norm', then_exit', then_ret', block_norm', block_ret', block_exit', W_cond, cond_true', cond_false', W_ops, ops_nil, ops_cons, ops_guard, step_some, g_tt, g_tf, g_ft, g_ff, put_some, put_none, upd_ite, val_tmp, fr0_zero, fr0_succ, ret_ret, ret_norm, res_tmp, ex_some, val_const, val_func, vals_nil, vals_cons, d_nil, d_free, d_rd1, d_rd, d_up, d_any, same_some, up_some, all_reads, Sub.refl, x_mov, x_pick, pick_t, pick_f, x_field1, x_fieldN, x_extract, x_box, x_alloc, x_load1, x_loadN, withH_some', x_store, x_mkfunc, x_mkslice, x_slice, x_fieldAddr, fieldAt_p, x_idxArr, x_idxSl, x_append, x_there, x_len, len_slice, x_not, not_bool, x_call, x_int2, i_add, i_sub, i_mul, i_eql, i_neq, i_lss, i_leq, i_gtr, i_geq, x_plain, p_min, p_max, p_rem, p_quo, r_min, r_max, p_shl, p_or, p_and, p_andNot, eqV_i, x_bslice, x_build, res_cellN, res_cell1, valN_tmp, valN_const, if_true, if_false, Nat.le_refl, true_and, and_true, decide_true, decide_false, Bool.not_true, Bool.not_false, reduceIte, Nat.reduceEqDiff, Nat.reduceAdd, Nat.reduceMul, Nat.reduceSub, Nat.reduceLeDiff, Nat.reduceLT, f5, e5]
        refine step_store (b := h.next + 2) (off := 3) (vs := [v']) (by rfl) hp5 (by omega) (by omega) (by rw [ev]; rfl) (by rw [ev]; rfl) rfl (by simp) fun g6 hs6 => ?_
        have n6 := hs6.next
        have f6 := hs6.floor
        have g6old : ∀ i, i < h2.next + 3 → i ≠ h.next + 2 → i ≠ h.next + 5 → g6.get i = g1.get i := fun i hi h1 h3 => by
          rw [hs6.old i h1, hk5.old i (by omega) fun b k q e => by have := (gr4.block e).1; omega, hx4.old i (by omega), g3old i (by omega) h3]
        have hl6 : g6.get (h.next + 5) = some (.loop { r with state := .busy }) := by
          rw [hs6.old _ (by omega), hk5.old _ (by omega) fun b k q e => by have := (gr4.block e).1; omega, hx4.old _ (by omega), hp3.get]
        simp only [W_skip, W_ret, W_exit, W_seq, W_block, then_norm', then_exit', then_ret', block_norm', block_ret', block_exit', W_cond, cond_true', cond_false', W_ops, ops_nil, ops_cons, ops_guard, step_some, g_tt, g_tf, g_ft, g_ff, put_some, put_none, upd_ite, val_tmp, fr0_zero, fr0_succ, ret_ret, ret_norm, res_tmp, ex_some, val_const, val_func, vals_nil, vals_cons, d_nil, d_free, d_rd1, d_rd, d_up, d_any, same_some, up_some, all_reads, Sub.refl, x_mov, x_pick, pick_t, pick_f, x_field1, x_fieldN, x_extract, x_box, x_alloc, x_load1, x_loadN, withH_some', x_store, x_mkfunc, x_mkslice, x_slice, x_fieldAddr, fieldAt_p, x_idxArr, x_idxSl, x_append, x_there, x_len, len_slice, x_not, not_bool, x_call, x_int2, i_add, i_sub, i_mul, i_eql, i_neq, i_lss, i_leq, i_gtr, i_geq, x_plain, p_min, p_max, p_rem, p_quo, r_min, r_max, p_shl, p_or, p_and, p_andNot, eqV_i, x_bslice, x_build, res_cellN, res_cell1, valN_tmp, valN_const, if_true, if_false, Nat.le_refl, true_and, and_true, decide_true, decide_false, Bool.not_true, Bool.not_false, reduceIte, Nat.reduceEqDiff, Nat.reduceAdd, Nat.reduceMul, Nat.reduceSub, Nat.reduceLeDiff, Nat.reduceLT]
        refine ⟨hl6, by omega, by omega, fun g7 hp7 => ⟨?_, ?_, by rw [hp7.floor]; omega, by rw [hp7.next]; omega⟩⟩
        · rw [hst]
          have hg6 := hs6.get
          refine ⟨fun i hi hne => ?_, ⟨v', ?_, ?_⟩, by rw [hp7.next]; omega, by rw [List.length_append, List.length_singleton, hp7.next]; omega⟩
          · by_cases e : i = h.next + 5
            · subst e; rw [hp7.get, r6, ← hj.old _ hi hne]; exact hloop1.symm
            · rw [hp7.old i e, g6old i (by omega) hne e]; exact hj.old i hi hne
          · rw [hp7.old _ (by omega), hg6]; simp [splice]
          · rw [List.length_append, List.length_singleton]
            exact (gr5.keep hs6.keep (by omega)).keep hp7.keep (by omega)
        · intro i hi hne
          by_cases e : i = h.next + 5
          · subst e; rw [hp7.get, r6]; exact hloop1.symm
          · rw [hp7.old i e, g6old i hi hne e]
      · have hst : (truthStep Y s c).1 = s := by simp only [truthStep]; rw [if_neg ht]
        simp only [W_skip, W_ret, W_exit, W_seq, W_block, then_norm', then_exit', then_ret', block_norm', block_ret', block_exit', W_cond, cond_true', cond_false', W_ops, ops_nil, ops_cons, ops_guard, step_some, g_tt, g_tf, g_ft, g_ff, put_some, put_none, upd_ite, val_tmp, fr0_zero, fr0_succ, ret_ret, ret_norm, res_tmp, ex_some, val_const, val_func, vals_nil, vals_cons, d_nil, d_free, d_rd1, d_rd, d_up, d_any, same_some, up_some, all_reads, Sub.refl, x_mov, x_pick, pick_t, pick_f, x_field1, x_fieldN, x_extract, x_box, x_alloc, x_load1, x_loadN, withH_some', x_store, x_mkfunc, x_mkslice, x_slice, x_fieldAddr, fieldAt_p, x_idxArr, x_idxSl, x_append, x_there, x_len, len_slice, x_not, not_bool, x_call, x_int2, i_add, i_sub, i_mul, i_eql, i_neq, i_lss, i_leq, i_gtr, i_geq, x_plain, p_min, p_max, p_rem, p_quo, r_min, r_max, p_shl, p_or, p_and, p_andNot, eqV_i, x_bslice, x_build, res_cellN, res_cell1, valN_tmp, valN_const, if_true, if_false, Nat.le_refl, true_and, and_true, decide_true, decide_false, Bool.not_true, Bool.not_false, reduceIte, Nat.reduceEqDiff, Nat.reduceAdd, Nat.reduceMul, Nat.reduceSub, Nat.reduceLeDiff, Nat.reduceLT, rb78_0, f5, q1, q2, hist, eq_false ht]
        refine ⟨hp3.get, by omega, by omega, fun g7 hp7 => ⟨?_, ?_, by rw [hp7.floor]; omega, by rw [hp7.next]; omega⟩⟩
        · rw [hst]
          refine ⟨fun i hi hne => ?_, ⟨tv, ?_, ?_⟩, by rw [hp7.next]; omega, by have := hj.len; rw [hp7.next]; omega⟩
          · by_cases e : i = h.next + 5
            · subst e; rw [hp7.get, r6, ← hj.old _ hi hne]; exact hloop1.symm
            · rw [hp7.old i e, g3old i (by omega) e]; exact hj.old i hi hne
          · rw [hp7.old _ (by omega)]; exact hp3'
          · have k13 : Keep (h.next + 5) g1 g3 := ⟨fun i cs w gr hi hg => by rw [hp3.old i hi]; exact hx2.sub _ _ _ _ trivial hg, by omega, by omega⟩
            exact (gr.keep k13 (by omega)).keep hp7.keep (by omega)
        · intro i hi hne
          by_cases e : i = h.next + 5
          · subst e; rw [hp7.get, r6]; exact hloop1.symm
          · rw [hp7.old i e, hp3.old i e]
            by_cases hi1 : i < g1.next
            · rw [hx2.old i hi1]
            · omega)
    (by omega)
  obtain ⟨v5, g5, e5, j5, fl5, n5⟩ := hit
  rw [runL_truth] at j5
  simp only [List.nil_append] at j5
  change JO h2 (h.next + 2) F V S (truths Y) g5 at j5
  obtain ⟨tv, t1, t2⟩ := j5.tv
  have hup := j5.up
  refine ⟨v5, g5, .norm, by rw [n3]; exact e5, by omega, by omega, by rw [r6, j5.old _ (by omega) (by omega)]; exact hloop, fun g6 hp6 => ?_⟩
  have n6 := hp6.next
  have f6 := hp6.floor
  have t6 : g6.get (h.next + 2) = some (.row [F, V, S, tv] true 0) := by rw [hp6.old _ (by omega)]; exact t1
  have w6 := (show Row g6 (h.next + 2) [F, V, S, tv] from ⟨_, _, t6⟩).whole (n := 4) rfl
  have r6' : g6.get (h.next + 1) = some (.row [nilS, nilS, nilS, nilS] true 0) := by rw [hp6.old _ (by omega), j5.old _ (by omega) (by omega)]; exact hr2'
  have m6 : g6.get (h.next + 4) = some .deferred := by rw [hp6.old _ (by omega), j5.old _ (by omega) (by omega)]; exact hmark
  have ht2 := t2.one
  simp only [W_skip, W_ret, W_exit, W_seq, W_block, then_norm', then_exit', then_ret', block_norm', block_ret', block_exit', W_cond, cond_true', cond_false', W_ops, ops_nil, ops_cons, ops_guard, step_some, g_tt, g_tf, g_ft, g_ff, put_some, put_none, upd_ite, val_tmp, fr0_zero, fr0_succ, ret_ret, ret_norm, res_tmp, ex_some, val_const, val_func, vals_nil, vals_cons, d_nil, d_free, d_rd1, d_rd, d_up, d_any, same_some, up_some, all_reads, Sub.refl, x_mov, x_pick, pick_t, pick_f, x_field1, x_fieldN, x_extract, x_box, x_alloc, x_load1, x_loadN, withH_some', x_store, x_mkfunc, x_mkslice, x_slice, x_fieldAddr, fieldAt_p, x_idxArr, x_idxSl, x_append, x_there, x_len, len_slice, x_not, not_bool, x_call, x_int2, i_add, i_sub, i_mul, i_eql, i_neq, i_lss, i_leq, i_gtr, i_geq, x_plain, p_min, p_max, p_rem, p_quo, r_min, r_max, p_shl, p_or, p_and, p_andNot, eqV_i, x_bslice, x_build, res_cellN, res_cell1, valN_tmp, valN_const, if_true, if_false, Nat.le_refl, true_and, and_true, decide_true, decide_false, Bool.not_true, Bool.not_false, reduceIte, Nat.reduceEqDiff, Nat.reduceAdd, Nat.reduceMul, Nat.reduceSub, Nat.reduceLeDiff, Nat.reduceLT, f5, f2', w6]
  refine step_store (vs := [F, V, S, tv]) rfl r6' (by omega) (by omega) rfl (ho4 _ ht2) rfl (by simp) fun g7 hs7 => ?_
  have n7 := hs7.next
  have f7 := hs7.floor
  simp only [W_skip, W_ret, W_exit, W_seq, W_block, then_norm', then_exit', then_ret', block_norm', block_ret', block_exit', W_cond, cond_true', cond_false', W_ops, ops_nil, ops_cons, ops_guard, step_some, g_tt, g_tf, g_ft, g_ff, put_some, put_none, upd_ite, val_tmp, fr0_zero, fr0_succ, ret_ret, ret_norm, res_tmp, ex_some, val_const, val_func, vals_nil, vals_cons, d_nil, d_free, d_rd1, d_rd, d_up, d_any, same_some, up_some, all_reads, Sub.refl, x_mov, x_pick, pick_t, pick_f, x_field1, x_fieldN, x_extract, x_box, x_alloc, x_load1, x_loadN, withH_some', x_store, x_mkfunc, x_mkslice, x_slice, x_fieldAddr, fieldAt_p, x_idxArr, x_idxSl, x_append, x_there, x_len, len_slice, x_not, not_bool, x_call, x_int2, i_add, i_sub, i_mul, i_eql, i_neq, i_lss, i_leq, i_gtr, i_geq, x_plain, p_min, p_max, p_rem, p_quo, r_min, r_max, p_shl, p_or, p_and, p_andNot, eqV_i, x_bslice, x_build, res_cellN, res_cell1, valN_tmp, valN_const, if_true, if_false, Nat.le_refl, true_and, and_true, decide_true, decide_false, Bool.not_true, Bool.not_false, reduceIte, Nat.reduceEqDiff, Nat.reduceAdd, Nat.reduceMul, Nat.reduceSub, Nat.reduceLeDiff, Nat.reduceLT, f5, f2', w6]
  refine ret_mark (.inr rfl) (by rw [hs7.old _ (by omega)]; exact m6) (by omega) (by omega) fun g8 hp8 => ?_
  have n8 := hp8.next
  have f8 := hp8.floor
  have w8 : Row g8 (h.next + 1) [F, V, S, tv] := ⟨true, 0, by rw [hp8.old _ (by omega), hs7.get]; rfl⟩
  simp only [W_skip, W_ret, W_exit, W_seq, W_block, then_norm', then_exit', then_ret', block_norm', block_ret', block_exit', W_cond, cond_true', cond_false', W_ops, ops_nil, ops_cons, ops_guard, step_some, g_tt, g_tf, g_ft, g_ff, put_some, put_none, upd_ite, val_tmp, fr0_zero, fr0_succ, ret_ret, ret_norm, res_tmp, ex_some, val_const, val_func, vals_nil, vals_cons, d_nil, d_free, d_rd1, d_rd, d_up, d_any, same_some, up_some, all_reads, Sub.refl, x_mov, x_pick, pick_t, pick_f, x_field1, x_fieldN, x_extract, x_box, x_alloc, x_load1, x_loadN, withH_some', x_store, x_mkfunc, x_mkslice, x_slice, x_fieldAddr, fieldAt_p, x_idxArr, x_idxSl, x_append, x_there, x_len, len_slice, x_not, not_bool, x_call, x_int2, i_add, i_sub, i_mul, i_eql, i_neq, i_lss, i_leq, i_gtr, i_geq, x_plain, p_min, p_max, p_rem, p_quo, r_min, r_max, p_shl, p_or, p_and, p_andNot, eqV_i, x_bslice, x_build, res_cellN, res_cell1, valN_tmp, valN_const, if_true, if_false, Nat.le_refl, true_and, and_true, decide_true, decide_false, Bool.not_true, Bool.not_false, reduceIte, Nat.reduceEqDiff, Nat.reduceAdd, Nat.reduceMul, Nat.reduceSub, Nat.reduceLeDiff, Nat.reduceLT, res_two, f2', w8.whole (n := 4) rfl]
  refine ⟨⟨AHeap.subOf fun i hi => ?_, by omega, by omega, by omega⟩, .inr ⟨hf, tv, rfl, ?_, t2.long⟩⟩
  · rw [hp8.old i (by omega), hs7.old i (by omega), hp6.old i (by omega), j5.old i (by omega) (by omega), hbase i hi]
  · exact (((t2.keep hp6.keep (by omega)).keep hs7.keep (by omega)).keep hp8.keep (by omega)).cells
end Go.Vm.Vat
