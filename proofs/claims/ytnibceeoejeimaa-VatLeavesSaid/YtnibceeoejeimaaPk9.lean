/- Texts of the proofs of this seat, put together: VatSome, VatFirstL, VatShort, VatLeftA, VatLeftB, VatAllRef, VatAllRef2, VatLeaveRef, VatLeavesL. -/
import Derived.Test.YtnibceeoejeimaaPk8
import Derived.Laws.Entries

namespace Go.Vm
variable {P : Program} {N : Nat} {f : Fr} {h : AHeap} {ty t u : TypeId} {x y : Operand}
def shrF (a b : Int) : Option Value := if 0 ≤ b ∧ b ≤ 64 then some (.int .i64 (a / 2 ^ b.toNat)) else none
theorem p_shr : plainF P N (.binOp .shr t x y u) ty f h = run2u shrF (plainF P N (.binOp .shr t x y u) ty f) (valN N f x) (valN N f y) h := by
  unfold run2u
  split
  · rename_i a b e1 e2
    split
    · rename_i v hv
      unfold shrF at hv
      split at hv
      · rename_i hb
        cases hv
        unfold plainF
        have : allB (fun x => plainV (valN N f x)) (Op.binOp .shr t x y u).operands.toList = true := by simp [Op.operands, allB, e1, e2, plainV, plainE, plainCell]
        rw [this]
        simp only [execOp, bare, e1, e2, eqGuard, binOp, shift_shr .i64 .u64 a b hb.1 hb.2]
        rfl
      · cases hv
    · rfl
  · rfl
theorem r_shr {other : AHeap → Option (Value × AHeap)} {a k : Nat} (hk : k < 62) : run2u shrF other (.int .i64 (a : Int)) (.int .u64 (k : Int)) h = some (.int .i64 ((a / 2 ^ k : Nat) : Int), h) := by
  simp only [run2u, shrF]
  rw [if_pos (by omega), Int.toNat_natCast]
  have : (a : Int) / 2 ^ k = ((a / 2 ^ k : Nat) : Int) := by simp
  rw [this]
end Go.Vm
namespace Go.Vm.Vat
open Go.Proofs
set_option linter.unusedSimpArgs false
set_option linter.unusedVariables false
set_option maxRecDepth 10000
variable {n : Nat} {h : AHeap}

/-- the numbers below k whose bit is set -/
def selTo (bits : Nat) : Nat → List Nat
  | 0 => []
  | k + 1 => if bits / 2 ^ k % 2 = 1 then selTo bits k ++ [k] else selTo bits k
theorem selTo_yes {bits k : Nat} (h : bits / 2 ^ k % 2 = 1) : selTo bits (k + 1) = selTo bits k ++ [k] := by rw [selTo, if_pos h]
theorem selTo_no {bits k : Nat} (h : ¬ bits / 2 ^ k % 2 = 1) : selTo bits (k + 1) = selTo bits k := by rw [selTo, if_neg h]
theorem selTo_len {bits : Nat} : ∀ k, (selTo bits k).length ≤ k
  | 0 => Nat.le_refl _
  | k + 1 => by
    have := selTo_len (bits := bits) k
    by_cases h : bits / 2 ^ k % 2 = 1
    · rw [selTo_yes h, List.length_append, List.length_singleton]; omega
    · rw [selTo_no h]; omega
theorem selTo_mem {bits : Nat} : ∀ {k x : Nat}, x ∈ selTo bits k ↔ x < k ∧ bits / 2 ^ x % 2 = 1
  | 0, x => by simp [selTo]
  | k + 1, x => by
    have := selTo_mem (bits := bits) (k := k) (x := x)
    by_cases h : bits / 2 ^ k % 2 = 1
    · rw [selTo_yes h, List.mem_append, this, List.mem_singleton]
      constructor
      · rintro (⟨h1, h2⟩ | rfl)
        · exact ⟨by omega, h2⟩
        · exact ⟨by omega, h⟩
      · rintro ⟨h1, h2⟩
        by_cases e : x = k
        · exact .inr e
        · exact .inl ⟨by omega, h2⟩
    · rw [selTo_no h, this]
      constructor
      · rintro ⟨h1, h2⟩; exact ⟨by omega, h2⟩
      · rintro ⟨h1, h2⟩
        refine ⟨?_, h2⟩
        by_cases e : x = k
        · subst e; exact absurd h2 h
        · omega
/-- the yard with the samples whose bits are set -/
def picked (Y : MY) (bits : Nat) : MY := { Y with ns := (selTo bits Y.ns).length, sv := fun k => Y.sv ((selTo bits Y.ns).getD k 0), slo := fun k => Y.slo ((selTo bits Y.ns).getD k 0), shi := fun k => Y.shi ((selTo bits Y.ns).getD k 0) }
def sampC (Y : MY) (l : List Nat) (k j : Nat) : Value := .int .i64 (if j = 0 then Y.sv (l.getD k 0) else if j = 1 then Y.slo (l.getD k 0) else Y.shi (l.getD k 0))
theorem spliceN2 {a b c d : Value} : splice [a, b, c] 2 [d] = [a, b, d] := rfl
def s69 : SCode := (.seq (.ops [⟨(some 2), none, .box (T 0)⟩, ⟨(some 4), none, .alloc [(.slice none 0 0), (.slice none 0 0), (.slice none 0 0)]⟩]) (.seq (.ops [⟨(some 7), none, .loadN 3 (T 2)⟩, ⟨(some 5), none, .alloc [(.slice none 0 0), (.slice none 0 0), (.slice none 0 0)]⟩, ⟨none, none, .store 3 (T 5) (T 7)⟩]) (.seq (.ops [⟨(some 8), none, .fieldAddr 2 (T 5)⟩, ⟨none, none, .store 1 (T 8) (.const (.slice none 0 0))⟩]) (.seq (.seq (.ops [⟨(some 6), none, .mov (.const (.int .i64 (0)))⟩]) (.block 0 (.loop (.seq (.seq (.ops [⟨(some 9), none, .mov (T 6)⟩, ⟨(some 10), none, .fieldAddr 2 (T 2)⟩, ⟨(some 11), none, .load1 (T 10)⟩, ⟨(some 12), none, .len (T 11)⟩, ⟨(some 13), none, .int2 .lss (T 9) (T 12)⟩]) (.cond (T 13) .skip (.exit 0))) (.seq (.block 1 (.seq (.ops [⟨(some 16), none, .mov (T 1)⟩, ⟨(some 17), none, .mov (T 6)⟩, ⟨(some 18), none, .plain (.convert 3 104 (T 17)) 104⟩, ⟨(some 19), none, .plain (.binOp .shr 3 (T 16) (T 18) 104) 3⟩, ⟨(some 20), none, .plain (.binOp .rem 3 (T 19) (.const (.int .i64 (2))) 3) 3⟩, ⟨(some 21), none, .int2 .eql (T 20) (.const (.int .i64 (1)))⟩]) (.cond (T 21) (.draw [⟨.free, ⟨(some 22), none, .fieldAddr 2 (T 5)⟩⟩, ⟨.rd, ⟨(some 23), none, .load1 (T 22)⟩⟩, ⟨.free, ⟨(some 24), none, .fieldAddr 2 (T 2)⟩⟩, ⟨.rd1, ⟨(some 25), none, .load1 (T 24)⟩⟩, ⟨.free, ⟨(some 26), none, .mov (T 6)⟩⟩, ⟨.free, ⟨(some 27), none, .idxSl 3 (T 25) (T 26)⟩⟩, ⟨.rd1, ⟨(some 28), none, .loadN 3 (T 27)⟩⟩, ⟨.up, ⟨(some 29), none, .bslice 3 1 [(.int .i64 (0)), (.int .i64 (0)), (.int .i64 (0))] [0] [(T 28)]⟩⟩, ⟨.any, ⟨(some 30), none, .append 3 24 (T 23) (T 29)⟩⟩, ⟨.free, ⟨(some 31), none, .fieldAddr 2 (T 5)⟩⟩, ⟨.any, ⟨none, none, .store 1 (T 31) (T 30)⟩⟩]) .skip))) (.ops [⟨(some 14), none, .mov (T 6)⟩, ⟨(some 15), none, .int2 .add (T 14) (.const (.int .i64 (1)))⟩, ⟨(some 6), none, .mov (T 15)⟩])))))) (.seq (.ops [⟨(some 32), none, .loadN 3 (T 5)⟩, ⟨none, none, .store 3 (T 4) (T 32)⟩]) .ret)))))
theorem fok69 : FnOk Try.prog 69 33 s69 [.cellN 4 3] := ⟨Try.f69, _, Try.func69, rfl, Try.ntmps69, by kernel_rfl, by kernel_rfl⟩
theorem some_c (hn : 10010 ≤ n) (hr : h.next + 200 < far) (hfl : h.floor ≤ h.next) {fv vv sv : Value} {Y : MY} (hy : YardR h fv vv sv Y) (hs5 : Y.ns ≤ 5) {bits : Nat} :
    ∃ S h', call n (.func (.func 69) #[] #[]) [.agg ⟨[fv, vv, sv]⟩, .int .i64 (bits : Int)] h = some (.agg ⟨[fv, vv, S]⟩, h') ∧ YardR h' fv vv S (picked Y bits) ∧ Made h h' 100 := by
  obtain ⟨n, rfl⟩ : ∃ p, n = p + 1 := ⟨n - 1, by omega⟩
  suffices hsuf : ∃ v h', call (n + 1) (.func (.func 69) #[] #[]) [.agg ⟨[fv, vv, sv]⟩, .int .i64 (bits : Int)] h = some (v, h') ∧ ∃ S, v = .agg ⟨[fv, vv, S]⟩ ∧ YardR h' fv vv S (picked Y bits) ∧ Made h h' 100 by
    obtain ⟨v, h', e, S, rfl, h1, h2⟩ := hsuf
    exact ⟨S, h', e, h1, h2⟩
  refine call_any0 fok69 rfl rfl (by simp) ?_
  simp only [s69, W_seq, W_ops]
  refine ops_box (cs := [fv, vv, sv]) (by omega) rfl hy.one fun g1 hx1 => ?_
  have n1 := hx1.next
  have f1' := hx1.floor
  have e1 : g1.next = h.next + 1 := n1
  simp only [rn0, rn1, rn2, rn3, rn4, rn5, rn6, rn7, rn8, if_true, if_false, Nat.le_refl, true_and, and_true, decide_true, decide_false, Bool.not_true, Bool.not_false, reduceIte, Nat.reduceEqDiff, Nat.reduceAdd, Nat.reduceMul, Nat.reduceSub, Nat.reduceLeDiff, Nat.reduceLT]
  refine step_row (cs := [nilS, nilS, nilS]) (by omega) rfl rfl fun g2 hx2 => ?_
  have n2 := hx2.next
  have f2' := hx2.floor
  have e2 : g2.next = h.next + 2 := by omega
  have w2 := (hx1.row.mono hx2.sub).whole (n := 3) rfl
  simp only [rn0, rn1, rn2, rn3, rn4, rn5, rn6, rn7, rn8, if_true, if_false, Nat.le_refl, true_and, and_true, decide_true, decide_false, Bool.not_true, Bool.not_false, reduceIte, Nat.reduceEqDiff, Nat.reduceAdd, Nat.reduceMul, Nat.reduceSub, Nat.reduceLeDiff, Nat.reduceLT, w2]
  refine step_new (vs := [fv, vv, sv]) (by omega) (by omega) rfl (by simp only [rn0, rn1, rn2, rn3, rn4, rn5, rn6, rn7, rn8, if_true, if_false, Nat.le_refl, true_and, and_true, decide_true, decide_false, Bool.not_true, Bool.not_false, reduceIte, Nat.reduceEqDiff, Nat.reduceAdd, Nat.reduceMul, Nat.reduceSub, Nat.reduceLeDiff, Nat.reduceLT]; rfl) hy.one rfl rfl fun g3 hx3 => ?_
  have n3 := hx3.next
  have f3' := hx3.floor
  have hg3 := hx3.get
  simp only [rn0, rn1, rn2, rn3, rn4, rn5, rn6, rn7, rn8, if_true, if_false, Nat.le_refl, true_and, and_true, decide_true, decide_false, Bool.not_true, Bool.not_false, reduceIte, Nat.reduceEqDiff, Nat.reduceAdd, Nat.reduceMul, Nat.reduceSub, Nat.reduceLeDiff, Nat.reduceLT, Nat.zero_add]
  refine step_store (b := g2.next) (off := 2) (vs := [nilS]) rfl hg3 (by omega) (by omega) rfl rfl rfl (by simp) fun g4 hs4 => ?_
  rw [spliceN2] at hs4
  have n4 := hs4.next
  have f4' := hs4.floor
  have o4 : ∀ i, i < h.next + 2 → g4.get i = g2.get i := fun i hi => by rw [hs4.old i (by omega), hx3.old i (by omega)]
  have hsub : Sub All h g4 := AHeap.subOf fun i hi => by rw [o4 i (by omega), hx2.old i (by omega), hx1.old i hi]
  have hbox : Row g4 h.next [fv, vv, sv] := by
    obtain ⟨w, gr, e⟩ := hx1.row
    exact ⟨w, gr, by rw [o4 _ (by omega), hx2.old _ (by omega)]; exact e⟩
  have hres : g4.get (h.next + 1) = some (.row [nilS, nilS, nilS] true 0) := by rw [o4 _ (by omega)]; have := hx2.get; rw [e1] at this; exact this
  have hout : g4.get (h.next + 2) = some (.row [fv, vv, nilS] true 0) := by have := hs4.get; rw [e2] at this; exact this
  have e4 : g4.next = h.next + 3 := by omega
  have ef4 : g4.floor = h.floor := by omega
  rw [e1, e2]
  clear hs4 hx3 hx2 hx1 hg3
  have hall : ∀ {g : AHeap}, Keep (h.next + 2) g4 g → Sub All h g := fun st i cs w gr _ hg => st.sub i cs w gr (by have := AHeap.lt_of_get hg; omega) (hsub _ _ _ _ trivial hg)
  simp only [rn0, rn1, rn2, rn3, rn4, rn5, rn6, rn7, rn8, if_true, if_false, Nat.le_refl, true_and, and_true, decide_true, decide_false, Bool.not_true, Bool.not_false, reduceIte, Nat.reduceEqDiff, Nat.reduceAdd, Nat.reduceMul, Nat.reduceSub, Nat.reduceLeDiff, Nat.reduceLT]
  refine W_loop Y.ns (fun k f g m => (∃ S, Keep (h.next + 2) g4 g ∧ g.get (h.next + 2) = some (.row [fv, vv, S] true 0) ∧ GrowC g4.next g S 3 (selTo bits k).length (sampC Y (selTo bits k)) ∧ g.next ≤ g4.next + 2 * k) ∧ m = [] ∧ f 1 = .int .i64 (bits : Int) ∧ f 2 = .pointer (some ⟨h.next, 0, none⟩) ∧ f 4 = .pointer (some ⟨h.next + 1, 0, none⟩) ∧ f 5 = .pointer (some ⟨h.next + 2, 0, none⟩) ∧ f 6 = .int .i64 (k : Int)) (by simp; omega) ?_ ?_ ?_
  · simp only [rn0, rn1, rn2, rn3, rn4, rn5, rn6, rn7, rn8, if_true, if_false, Nat.le_refl, true_and, and_true, decide_true, decide_false, Bool.not_true, Bool.not_false, reduceIte, Nat.reduceEqDiff, Nat.reduceAdd, Nat.reduceMul, Nat.reduceSub, Nat.reduceLeDiff, Nat.reduceLT]
    exact ⟨⟨_, Keep.refl, hout, .nil, by omega⟩, rfl⟩
  · rintro k f g m hk ⟨⟨S, st, go, gS, hgn⟩, rfl, f1, f2, f4, f5, f6⟩
    have hk' : (k : Int) < (Y.ns : Int) := by omega
    have hw : wrapF .i64 ((k : Int) + 1) = ((k + 1 : Nat) : Int) := by rw [wrap_in (by omega) (by omega)]; rfl
    have hrow : Row g (h.next + 2) [fv, vv, S] := ⟨_, _, go⟩
    have hbx := hbox.keep st (by omega)
    have hSm := (hy.mono (hall st)).s
    have hup := st.up
    have hfg := st.floor
    have hlk := selTo_len (bits := bits) k
    have hm2 : ((bits / 2 ^ k : Nat) : Int).tmod 2 = ((bits / 2 ^ k % 2 : Nat) : Int) := rfl
    have z2 : ¬ (2 : Int) = 0 := by decide
    by_cases hb : bits / 2 ^ k % 2 = 1
    · have hb' : ((bits / 2 ^ k % 2 : Nat) : Int) = 1 := by omega
      simp only [rn0, rn1, rn2, rn3, rn4, rn5, rn6, rn7, rn8, if_true, if_false, Nat.le_refl, true_and, and_true, decide_true, decide_false, Bool.not_true, Bool.not_false, reduceIte, Nat.reduceEqDiff, Nat.reduceAdd, Nat.reduceMul, Nat.reduceSub, Nat.reduceLeDiff, Nat.reduceLT, f1, f2, f4, f5, f6, hbx.ld, Nat.zero_add, Nat.add_zero, List.getElem?_cons_zero, List.getElem?_cons_succ, Cells.len hSm, hk', p_uint, r_conv (k := k) (by omega), p_shr, r_shr (a := bits) (k := k) (by omega), valN_tmp, valN_const, Nat.reduceLT, r_rem z2, hm2, hb']
      refine W_draw All ?_
      simp only [rn0, rn1, rn2, rn3, rn4, rn5, rn6, rn7, rn8, if_true, if_false, Nat.le_refl, true_and, and_true, decide_true, decide_false, Bool.not_true, Bool.not_false, reduceIte, Nat.reduceEqDiff, Nat.reduceAdd, Nat.reduceMul, Nat.reduceSub, Nat.reduceLeDiff, Nat.reduceLT, f1, f2, f4, f5, f6, hbx.ld, hrow.ld, Nat.zero_add, Nat.add_zero, List.getElem?_cons_zero, List.getElem?_cons_succ, gS.cells.self, Cells.idx hSm hk, samps_ld hSm hk, sl_samp]
      refine up_slice (by omega) rfl (fun g1 hx => hx.sub) fun g1 hx => ?_
      have hgx := hx.next
      have hgf := hx.floor
      have hsucc := selTo_yes hb
      have gS1 : GrowC g4.next g1 S 3 (selTo bits k).length (sampC Y (selTo bits (k + 1))) := (gS.keep (hx.keep (o := h.next + 2)) (by omega)).congr fun i j hi hj => by
        unfold sampC
        rw [hsucc, List.getD_eq_getElem?_getD, List.getD_eq_getElem?_getD, List.getElem?_append_left hi]
      have hlast : (selTo bits (k + 1)).getD (selTo bits k).length 0 = k := by rw [hsucc, List.getD_eq_getElem?_getD, List.getElem?_append_right (Nat.le_refl _)]; simp
      obtain ⟨S', g2, e, e', gS', hk2⟩ := gS1.append (bytes := 24) (cap := 1) (by omega) (by omega) (by omega) hx.get rfl rfl (fun j hj => by
        unfold sampC
        rw [hlast]
        obtain rfl | rfl | rfl : j = 0 ∨ j = 1 ∨ j = 2 := by omega
        all_goals rfl) (by simp [maxBytes]; omega) (by simp [maxBytes]; omega)
      obtain ⟨st2, go2⟩ := grew (st.trans hx.keep) hk2 (fun a k c e => (gS1.block e).1) (by omega) (hx.sub _ _ _ _ trivial go)
      have hgx2 := hk2.next
      have hgf2 := hk2.floor
      have hl1 : (selTo bits (k + 1)).length = (selTo bits k).length + 1 := by rw [hsucc, List.length_append, List.length_singleton]
      simp only [rn0, rn1, rn2, rn3, rn4, rn5, rn6, rn7, rn8, if_true, if_false, Nat.le_refl, true_and, and_true, decide_true, decide_false, Bool.not_true, Bool.not_false, reduceIte, Nat.reduceEqDiff, Nat.reduceAdd, Nat.reduceMul, Nat.reduceSub, Nat.reduceLeDiff, Nat.reduceLT, f1, f2, f4, f5, f6, e, Nat.add_zero, Nat.zero_add]
      refine ⟨by omega, up_store (vs := [S']) rfl go2 (by omega) (by omega) (by rw [e']; rfl) (by simp [allB, gS'.one]) rfl (by simp) (fun _ _ => trivial) fun g3 hs => ?_⟩
      have hgx3 := hs.next
      simp only [rn0, rn1, rn2, rn3, rn4, rn5, rn6, rn7, rn8, if_true, if_false, Nat.le_refl, true_and, and_true, decide_true, decide_false, Bool.not_true, Bool.not_false, reduceIte, Nat.reduceEqDiff, Nat.reduceAdd, Nat.reduceMul, Nat.reduceSub, Nat.reduceLeDiff, Nat.reduceLT, f1, f2, f4, f5, f6, hw, Nat.add_zero]
      rw [hl1]
      exact ⟨_, set_keep st2 hs, hs.get, gS'.keep hs.keep (by omega), by omega⟩
    · have hb' : ¬ ((bits / 2 ^ k % 2 : Nat) : Int) = 1 := by omega
      simp only [rn0, rn1, rn2, rn3, rn4, rn5, rn6, rn7, rn8, if_true, if_false, Nat.le_refl, true_and, and_true, decide_true, decide_false, Bool.not_true, Bool.not_false, reduceIte, Nat.reduceEqDiff, Nat.reduceAdd, Nat.reduceMul, Nat.reduceSub, Nat.reduceLeDiff, Nat.reduceLT, f1, f2, f4, f5, f6, hbx.ld, Nat.zero_add, Nat.add_zero, List.getElem?_cons_zero, List.getElem?_cons_succ, Cells.len hSm, hk', p_uint, r_conv (k := k) (by omega), p_shr, r_shr (a := bits) (k := k) (by omega), valN_tmp, valN_const, Nat.reduceLT, r_rem z2, hm2, hb', hw]
      rw [selTo_no hb]
      exact ⟨_, st, go, gS, by omega⟩
  · rintro f g m ⟨⟨S, st, go, gS, hgn⟩, rfl, f1, f2, f4, f5, f6⟩
    have hbx := hbox.keep st (by omega)
    have hy' := hy.mono (hall st)
    have hup := st.up
    have hfg := st.floor
    have w5 := (show Row g (h.next + 2) [fv, vv, S] from ⟨_, _, go⟩).whole (n := 3) rfl
    have hone : allB oneCell [fv, vv, S] = true := by have h1 := hy.one; simp [allB] at h1 ⊢; simp [h1, gS.one]
    simp only [rn0, rn1, rn2, rn3, rn4, rn5, rn6, rn7, rn8, if_true, if_false, Nat.le_refl, true_and, and_true, decide_true, decide_false, Bool.not_true, Bool.not_false, reduceIte, Nat.reduceEqDiff, Nat.reduceAdd, Nat.reduceMul, Nat.reduceSub, Nat.reduceLeDiff, Nat.reduceLT, f1, f2, f4, f5, f6, hbx.ld, Nat.zero_add, Nat.add_zero, List.getElem?_cons_zero, List.getElem?_cons_succ, Cells.len hy'.s, Int.lt_irrefl, w5]
    refine step_store (b := h.next + 1) (off := 0) (vs := [fv, vv, S]) rfl (st.sub _ _ _ _ (by omega) hres) (by omega) (by omega) rfl hone rfl (by simp) fun g5 hs5 => ?_
    rw [show splice [nilS, nilS, nilS] 0 [fv, vv, S] = [fv, vv, S] from rfl] at hs5
    have n5 := hs5.next
    have f5' := hs5.floor
    have w6 := hs5.row.whole (n := 3) rfl
    simp only [rn0, rn1, rn2, rn3, rn4, rn5, rn6, rn7, rn8, if_true, if_false, Nat.le_refl, true_and, and_true, decide_true, decide_false, Bool.not_true, Bool.not_false, reduceIte, Nat.reduceEqDiff, Nat.reduceAdd, Nat.reduceMul, Nat.reduceSub, Nat.reduceLeDiff, Nat.reduceLT, f4, w6]
    have k5 : Sub All h g5 := fun i cs w gr _ hg => by
      have hlt := AHeap.lt_of_get hg
      exact hs5.keep.sub _ _ _ _ (by omega) (hall st _ _ _ _ trivial hg)
    have hy5 := hy.mono k5
    exact ⟨_, rfl, ⟨hy5.f, hy5.v, (gS.keep hs5.keep (by omega)).cells⟩, k5, by omega, by omega, by omega⟩
end Go.Vm.Vat

namespace Go.Vm.Vat
open Go.Proofs
set_option linter.unusedSimpArgs false
set_option linter.unusedVariables false
set_option maxRecDepth 10000
variable {n : Nat} {h : AHeap}

/-! ### What First answers, said outright -/
theorem wrong_head {Y : MY} {b : Nat → Int} : ∀ k, (wrongTo Y b k = [] ∧ ∀ i, i < k → RightB Y b i) ∨ (wrongTo Y b k ≠ [] ∧ ∃ j : Nat, j < k ∧ (wrongTo Y b k).getD 0 0 = (j : Int) ∧ ¬ RightB Y b j ∧ ∀ i, i < j → RightB Y b i)
  | 0 => .inl ⟨rfl, fun i hi => by omega⟩
  | k + 1 => by
    by_cases hR : RightB Y b k
    · rw [wrongTo_yes hR]
      rcases wrong_head (Y := Y) (b := b) k with ⟨h1, h2⟩ | ⟨h1, j, h2, h3, h4, h5⟩
      · refine .inl ⟨h1, fun i hi => ?_⟩
        by_cases e : i = k
        · subst e; exact hR
        · exact h2 i (by omega)
      · exact .inr ⟨h1, j, by omega, h3, h4, h5⟩
    · rw [wrongTo_no hR]
      refine .inr ⟨by simp, ?_⟩
      rcases wrong_head (Y := Y) (b := b) k with ⟨h1, h2⟩ | ⟨h1, j, h2, h3, h4, h5⟩
      · exact ⟨k, by omega, by rw [h1]; rfl, hR, h2⟩
      · refine ⟨j, by omega, ?_, h4, h5⟩
        rw [← h3]
        cases hw : wrongTo Y b k with
        | nil => exact absurd hw h1
        | cons a l => rfl
theorem run_first {Y : MY} : ∀ (L : List (Nat → Int)) (m0 : Int),
    ((runL (firstStep Y) (m0, false) L).1.2 = true ∧ ∃ c, c ∈ L ∧ wrongTo Y c Y.ns = []) ∨
    ((runL (firstStep Y) (m0, false) L).1.2 = false ∧ (∀ c, c ∈ L → wrongTo Y c Y.ns ≠ [] ∧ (wrongTo Y c Y.ns).getD 0 0 ≤ (runL (firstStep Y) (m0, false) L).1.1) ∧ m0 ≤ (runL (firstStep Y) (m0, false) L).1.1 ∧
      ((runL (firstStep Y) (m0, false) L).1.1 = m0 ∨ ∃ c, c ∈ L ∧ (wrongTo Y c Y.ns).getD 0 0 = (runL (firstStep Y) (m0, false) L).1.1))
  | [], m0 => .inr ⟨rfl, fun c hc => (List.not_mem_nil hc).elim, Int.le_refl _, .inl rfl⟩
  | x :: L, m0 => by
    by_cases hw : wrongTo Y x Y.ns = []
    · left
      have : runL (firstStep Y) (m0, false) (x :: L) = ((m0, true), false) := by simp only [runL, firstStep_hit hw, Bool.false_eq_true, if_false]
      rw [this]
      exact ⟨rfl, x, List.mem_cons_self, hw⟩
    · have : runL (firstStep Y) (m0, false) (x :: L) = runL (firstStep Y) (max m0 ((wrongTo Y x Y.ns).getD 0 0), false) L := by simp only [runL, firstStep_go hw, if_true]
      rw [this]
      rcases run_first (Y := Y) L (max m0 ((wrongTo Y x Y.ns).getD 0 0)) with ⟨h1, c, h2, h3⟩ | ⟨h1, h2, h3, h4⟩
      · exact .inl ⟨h1, c, List.mem_cons_of_mem _ h2, h3⟩
      · refine .inr ⟨h1, fun c hc => ?_, by omega, ?_⟩
        · rcases List.mem_cons.1 hc with rfl | hc
          · exact ⟨hw, by omega⟩
          · exact h2 c hc
        · rcases h4 with h4 | ⟨c, h4, h5⟩
          · by_cases e : m0 ≤ (wrongTo Y x Y.ns).getD 0 0
            · exact .inr ⟨x, List.mem_cons_self, by omega⟩
            · exact .inl (by omega)
          · exact .inr ⟨c, List.mem_cons_of_mem _ h4, h5⟩
theorem enum_mem {Y : MY} {x : Nat → Int} : x ∈ enumB Y.lo Y.hi Y.nf 0 (fun _ => 0) ↔ (∀ j, j < Y.nf → Y.lo j ≤ x j ∧ x j ≤ Y.hi j) ∧ ∀ j, Y.nf ≤ j → x j = 0 := by
  rw [enumB_ok]
  constructor
  · rintro ⟨h1, h2⟩; exact ⟨fun j hj => h1 j (by omega) (by omega), fun j hj => h2 j (by omega)⟩
  · rintro ⟨h1, h2⟩; exact ⟨fun j _ hj => h1 j (by omega), fun j hj => h2 j (by omega)⟩
theorem first_hit {Y : MY} (hh : (firstRun Y).2 = true) : truths Y ≠ [] := by
  rcases run_first (Y := Y) (enumB Y.lo Y.hi Y.nf 0 fun _ => 0) 0 with ⟨_, c, h2, h3⟩ | ⟨h1, _⟩
  · have hall : ∀ k, k < Y.ns → RightB Y c k := by
      rcases wrong_head (Y := Y) (b := c) Y.ns with ⟨_, h⟩ | ⟨h, _⟩
      · exact h
      · exact absurd h3 h
    have : c ∈ truths Y := truths_mem.2 ⟨enum_mem.1 h2, hall⟩
    intro e; rw [e] at this; exact List.not_mem_nil this
  · unfold firstRun at hh; rw [h1] at hh; cases hh
theorem first_miss {Y : MY} (hF : ∀ k, k < Y.nf → 0 ≤ Y.lo k ∧ Y.lo k ≤ Y.hi k ∧ Y.hi k ≤ 20) (hh : (firstRun Y).2 = false) : ∃ N : Nat, N < Y.ns ∧ (firstRun Y).1 = (N : Int) ∧
    (∃ c, c ∈ enumB Y.lo Y.hi Y.nf 0 (fun _ => 0) ∧ ∀ i, i < N → RightB Y c i) ∧ ∀ c, c ∈ enumB Y.lo Y.hi Y.nf 0 (fun _ => 0) → ∃ j, j ≤ N ∧ ¬ RightB Y c j := by
  rcases run_first (Y := Y) (enumB Y.lo Y.hi Y.nf 0 fun _ => 0) 0 with ⟨h1, _⟩ | ⟨_, h2, h3, h4⟩
  · unfold firstRun at hh; rw [h1] at hh; cases hh
  change ∀ c, c ∈ enumB Y.lo Y.hi Y.nf 0 (fun _ => 0) → wrongTo Y c Y.ns ≠ [] ∧ (wrongTo Y c Y.ns).getD 0 0 ≤ (firstRun Y).1 at h2
  change 0 ≤ (firstRun Y).1 at h3
  change (firstRun Y).1 = 0 ∨ ∃ c, c ∈ enumB Y.lo Y.hi Y.nf 0 (fun _ => 0) ∧ (wrongTo Y c Y.ns).getD 0 0 = (firstRun Y).1 at h4
  generalize (firstRun Y).1 = m at h2 h3 h4
  have hx : (fun j => if j < Y.nf then Y.lo j else 0) ∈ enumB Y.lo Y.hi Y.nf 0 (fun _ => 0) := enum_mem.2 ⟨fun j hj => by simp only [hj, if_true]; exact ⟨Int.le_refl _, (hF j hj).2.1⟩, fun j hj => by simp only [show ¬ j < Y.nf by omega, if_false]⟩
  have hatt : ∃ c, c ∈ enumB Y.lo Y.hi Y.nf 0 (fun _ => 0) ∧ (wrongTo Y c Y.ns).getD 0 0 = m := by
    rcases h4 with h4 | h4
    · refine ⟨_, hx, ?_⟩
      obtain ⟨k1, k2⟩ := h2 _ hx
      rcases wrong_head (Y := Y) (b := fun j => if j < Y.nf then Y.lo j else 0) Y.ns with ⟨h, _⟩ | ⟨_, j, _, h, _⟩
      · exact absurd h k1
      · omega
    · exact h4
  obtain ⟨c, c1, c2⟩ := hatt
  rcases wrong_head (Y := Y) (b := c) Y.ns with ⟨h, _⟩ | ⟨_, j, j1, j2, j3, j4⟩
  · exact absurd h (h2 c c1).1
  refine ⟨j, j1, by omega, ⟨c, c1, j4⟩, fun d hd => ?_⟩
  obtain ⟨k1, k2⟩ := h2 d hd
  rcases wrong_head (Y := Y) (b := d) Y.ns with ⟨h, _⟩ | ⟨_, i, i1, i2, i3, i4⟩
  · exact absurd h k1
  · exact ⟨i, by omega, i3⟩

/-! ### A yard with some of its samples -/
theorem picked_right {Y : MY} {b : Nat} {c : Nat → Int} : (∀ k, k < (picked Y b).ns → RightB (picked Y b) c k) ↔ ∀ x, x < Y.ns → b / 2 ^ x % 2 = 1 → RightB Y c x := by
  have hget : ∀ k, k < (selTo b Y.ns).length → (selTo b Y.ns).getD k 0 ∈ selTo b Y.ns := fun k hk => by rw [List.getD_eq_getElem?_getD, List.getElem?_eq_getElem hk]; exact List.getElem_mem hk
  constructor
  · intro hk x hx hb
    obtain ⟨i, hi, he⟩ := List.getElem_of_mem (selTo_mem.2 ⟨hx, hb⟩)
    have := hk i hi
    have e : (selTo b Y.ns).getD i 0 = x := by rw [List.getD_eq_getElem?_getD, List.getElem?_eq_getElem hi]; exact he
    have h2 : RightB Y c ((selTo b Y.ns).getD i 0) := this
    rw [e] at h2; exact h2
  · intro hx k hk
    obtain ⟨h1, h2⟩ := selTo_mem.1 (hget k hk)
    exact hx _ h1 h2
theorem picked_truth {Y : MY} {b : Nat} {c : Nat → Int} : c ∈ truths (picked Y b) ↔ c ∈ enumB Y.lo Y.hi Y.nf 0 (fun _ => 0) ∧ ∀ x, x < Y.ns → b / 2 ^ x % 2 = 1 → RightB Y c x := by
  rw [truths_mem, picked_right, enum_mem]; exact Iff.rfl
theorem picked_thin {Y : MY} {b : Nat} (hT : Thin Y) : Thin (picked Y b) := by
  obtain ⟨h1, h2, h3, h4⟩ := hT
  have := selTo_len (bits := b) Y.ns
  exact ⟨h1, h2, Nat.le_trans this h3, h4⟩
theorem picked_fault {Y : MY} {b : Nat} (hf : faultN Y = 0) : faultN (picked Y b) = 0 := by
  have hG := good_of hf
  have hlen := selTo_len (bits := b) Y.ns
  have h1 : SizesOk (picked Y b) := ⟨hG.sz.1, hG.sz.2.1, Nat.le_trans hlen hG.sz.2.2⟩
  have h4 : SampsOk (picked Y b) := fun k hk => hG.s _ (selTo_mem.1 (by
    have hk' : k < (selTo b Y.ns).length := hk
    rw [List.getD_eq_getElem?_getD, List.getElem?_eq_getElem hk']; exact List.getElem_mem hk')).1
  have h2 : FieldsOk (picked Y b) := hG.f
  have h3 : VatsOk (picked Y b) := hG.v
  unfold faultN at hf ⊢
  rw [if_neg (by simpa using hG.sz), if_pos ⟨hG.f, hG.v, hG.s⟩] at hf
  rw [if_neg (by simpa using h1), if_pos ⟨h2, h3, h4⟩]
  exact hf
theorem low_bits {m x : Nat} : (2 ^ m - 1) / 2 ^ x % 2 = 1 ↔ x < m := by
  have h1 := Nat.testBit_two_pow_sub_one m x
  rw [Nat.testBit_eq_decide_div_mod_eq] at h1
  exact decide_eq_decide.1 h1
theorem r_shl2 {other : AHeap → Option (Value × AHeap)} {k : Nat} (hk : k < 60) : run2u shlF other (.int .i64 2) (.int .u64 (k : Int)) h = some (.int .i64 ((2 ^ (k + 1) : Nat) : Int), h) := by
  simp only [run2u, shlF]
  rw [if_pos (by omega)]
  have : (2 ^ (k + 1) : Nat) < 2 ^ 62 := Nat.pow_lt_pow_right (by omega) (by omega)
  have e : (2 : Int) * 2 ^ k = ((2 ^ (k + 1) : Nat) : Int) := by rw [Nat.pow_succ, Int.natCast_mul, Int.mul_comm]; simp
  rw [← wrapF_eq, Int.toNat_natCast, e]
  generalize (2 ^ (k + 1) : Nat) = z at this
  rw [wrap_in (by omega) (by omega)]

def s20 : SCode := (.seq (.ops [⟨(some 1), none, .box (T 0)⟩, ⟨(some 2), none, .mov (.const (.bool false))⟩]) (.seq (.seq (.ops [⟨(some 11), none, .loadN 3 (T 1)⟩, ⟨(some 12), none, .call (.func 62) [(T 11)]⟩, ⟨(some 13), none, .not (T 12)⟩]) (.cond (T 13) (.seq (.ops [⟨(some 14), none, .call (.func 24) []⟩, ⟨(some 2), none, .mov (T 14)⟩]) .ret) .skip)) (.seq (.ops [⟨(some 16), none, .loadN 3 (T 1)⟩, ⟨(some 17), none, .call (.func 26) [(T 16)]⟩, ⟨(some 18), none, .call (.func 53) [(T 17)]⟩, ⟨(some 15), none, .mov (T 18)⟩, ⟨(some 19), none, .extract 0 (T 15)⟩, ⟨(some 20), none, .extract 1 (T 15)⟩, ⟨(some 3), none, .mov (T 19)⟩, ⟨(some 4), none, .mov (T 20)⟩]) (.seq (.seq (.ops [⟨(some 21), none, .mov (T 4)⟩, ⟨(some 22), none, .int2 .neq (T 21) (.const (.int .i64 (0)))⟩]) (.cond (T 22) (.seq (.ops [⟨(some 24), none, .loadN 3 (T 1)⟩, ⟨(some 25), none, .call (.func 26) [(T 24)]⟩, ⟨(some 26), none, .call (.func 34) [(T 25)]⟩, ⟨(some 23), none, .mov (T 26)⟩, ⟨(some 27), none, .extract 0 (T 23)⟩, ⟨(some 28), none, .extract 1 (T 23)⟩, ⟨(some 5), none, .mov (T 27)⟩, ⟨(some 6), none, .mov (T 28)⟩]) (.seq (.ops [⟨(some 29), none, .mov (T 4)⟩, ⟨(some 30), none, .int2 .eql (T 29) (.const (.int .i64 (7)))⟩, ⟨(some 31), none, .mov (T 30)⟩, ⟨(some 32), (some (31, true)), .mov (T 6)⟩, ⟨(some 33), (some (31, true)), .int2 .eql (T 32) (.const (.int .i64 (0)))⟩, ⟨(some 34), none, .pick (T 31) (T 33) (.const (.bool false))⟩, ⟨(some 35), none, .mov (T 34)⟩, ⟨(some 36), (some (35, true)), .call (.func 24) []⟩, ⟨(some 37), none, .pick (T 35) (T 36) (.const (.bool false))⟩, ⟨(some 2), none, .mov (T 37)⟩]) .ret)) .skip)) (.seq (.seq (.ops [⟨(some 38), none, .mov (T 3)⟩, ⟨(some 39), none, .fieldAddr 2 (T 1)⟩, ⟨(some 40), none, .load1 (T 39)⟩, ⟨(some 41), none, .len (T 40)⟩, ⟨(some 42), none, .int2 .sub (T 41) (.const (.int .i64 (1)))⟩, ⟨(some 43), none, .call (.func 42) [(T 38), (.const (.int .i64 (0))), (T 42)]⟩, ⟨(some 44), none, .not (T 43)⟩]) (.cond (T 44) (.seq (.ops [⟨(some 2), none, .mov (.const (.bool false))⟩]) .ret) .skip)) (.seq (.ops [⟨(some 46), none, .loadN 3 (T 1)⟩, ⟨(some 47), none, .mov (T 3)⟩, ⟨(some 48), none, .plain (.convert 3 104 (T 47)) 104⟩, ⟨(some 49), none, .plain (.binOp .shl 3 (.const (.int .i64 (1))) (T 48) 104) 3⟩, ⟨(some 50), none, .int2 .sub (T 49) (.const (.int .i64 (1)))⟩, ⟨(some 51), none, .call (.func 69) [(T 46), (T 50)]⟩, ⟨(some 52), none, .call (.func 26) [(T 51)]⟩, ⟨(some 53), none, .call (.func 34) [(T 52)]⟩, ⟨(some 45), none, .mov (T 53)⟩, ⟨(some 54), none, .extract 0 (T 45)⟩, ⟨(some 55), none, .extract 1 (T 45)⟩, ⟨(some 7), none, .mov (T 54)⟩, ⟨(some 8), none, .mov (T 55)⟩]) (.seq (.ops [⟨(some 57), none, .loadN 3 (T 1)⟩, ⟨(some 58), none, .mov (T 3)⟩, ⟨(some 59), none, .plain (.convert 3 104 (T 58)) 104⟩, ⟨(some 60), none, .plain (.binOp .shl 3 (.const (.int .i64 (2))) (T 59) 104) 3⟩, ⟨(some 61), none, .int2 .sub (T 60) (.const (.int .i64 (1)))⟩, ⟨(some 62), none, .call (.func 69) [(T 57), (T 61)]⟩, ⟨(some 63), none, .call (.func 26) [(T 62)]⟩, ⟨(some 64), none, .call (.func 34) [(T 63)]⟩, ⟨(some 56), none, .mov (T 64)⟩, ⟨(some 65), none, .extract 0 (T 56)⟩, ⟨(some 66), none, .extract 1 (T 56)⟩, ⟨(some 9), none, .mov (T 65)⟩, ⟨(some 10), none, .mov (T 66)⟩]) (.seq (.ops [⟨(some 67), none, .mov (T 8)⟩, ⟨(some 68), none, .int2 .eql (T 67) (.const (.int .i64 (0)))⟩, ⟨(some 69), none, .mov (T 68)⟩, ⟨(some 70), (some (69, true)), .mov (T 10)⟩, ⟨(some 71), (some (69, true)), .int2 .eql (T 70) (.const (.int .i64 (11)))⟩, ⟨(some 72), none, .pick (T 69) (T 71) (.const (.bool false))⟩, ⟨(some 73), none, .mov (T 72)⟩, ⟨(some 74), (some (73, true)), .call (.func 24) []⟩, ⟨(some 75), none, .pick (T 73) (T 74) (.const (.bool false))⟩, ⟨(some 2), none, .mov (T 75)⟩]) .ret))))))))
theorem fok20 : FnOk Try.prog 20 76 s20 [.tmp 2] := ⟨Try.f20, _, Try.func20, rfl, Try.ntmps20, by kernel_rfl, by kernel_rfl⟩
theorem firstLaw_h (hn : 10090 ≤ n) (hr : h.next + 3000000 < far) (hfl : h.floor ≤ h.next) {fv vv sv : Value} {Y : MY} (hy : YardR h fv vv sv Y) (hT : Thin Y) (hf : faultN Y = 0) (hh : (firstRun Y).2 = true) :
    ∃ v h', call n (.func (.func 20) #[] #[]) [.agg ⟨[fv, vv, sv]⟩] h = some (v, h') ∧ v = .bool true := by
  obtain ⟨n, rfl⟩ : ∃ p, n = p + 1 := ⟨n - 1, by omega⟩
  refine call_any0 fok20 rfl rfl (by simp) ?_
  simp only [s20, W_seq, W_ops]
  refine ops_box (cs := [fv, vv, sv]) (by omega) rfl hy.one fun g1 hx1 => ?_
  have n1 := hx1.next
  have f1 := hx1.floor
  have hy1 := hy.mono hx1.sub
  have x1 := hx1.row.whole (n := 3) rfl
  have hrd := ready_c (n := n) (h := g1) (by omega) (by omega) hy1
  have hrd' : decide (Thin Y ∧ faultN Y = 0) = true := decide_eq_true ⟨hT, hf⟩
  rw [hrd'] at hrd
  obtain ⟨F1, V1, S1, g2, ey2, hy2, m2⟩ := yard_c (n := n) (h := g1) (by omega) (by omega) (by omega) hy1 hT
  have n2 := m2.next
  have u2 := m2.up
  have f2 := m2.floor
  have ef := first_c (n := n) (h := g2) (by omega) (by omega) hy2 hT
  have x2 := (hx1.row.mono m2.sub).whole (n := 3) rfl
  obtain ⟨F2, V2, S2, g3, ey3, hy3, m3⟩ := yard_c (n := n) (h := g2) (by omega) (by omega) (by omega) (hy1.mono m2.sub) hT
  have n3 := m3.next
  have u3 := m3.up
  have f3 := m3.floor
  obtain ⟨bv, g4, eb, m4, hb⟩ := boundsV_c (n := n) (h := g3) (by omega) (by omega) (by omega) hy3 hT
  have n4 := m4.next
  have u4' := m4.up
  have haw := awake_c (n := n) (h := g4) (by omega)
  have hv : firstV Y = (0, 7) := by unfold firstV; rw [if_neg (by simpa using hf), if_pos hh]
  rw [hv] at ef
  have hne := first_hit hh
  rcases hb with ⟨h0, _⟩ | ⟨_, h0, _⟩ | ⟨_, _, bl, rfl, hbl⟩
  · exact absurd hf h0
  · exact absurd h0 hne
  · simp only [rn0, rn1, rn2, rn3, rn4, rn5, rn6, rn7, rn8, if_true, if_false, Nat.le_refl, true_and, and_true, decide_true, decide_false, Bool.not_true, Bool.not_false, reduceIte, Nat.reduceEqDiff, Nat.reduceAdd, Nat.reduceMul, Nat.reduceSub, Nat.reduceLeDiff, Nat.reduceLT, Int.reduceEq, x1, hrd, ey2, ef, ex0, ex1, x2, ey3, eb, haw]
theorem firstLaw_m (hn : 10090 ≤ n) (hr : h.next + 3000000 < far) (hfl : h.floor ≤ h.next) {fv vv sv : Value} {Y : MY} (hy : YardR h fv vv sv Y) (hT : Thin Y) (hf : faultN Y = 0) (hh : (firstRun Y).2 = false) :
    ∃ v h', call n (.func (.func 20) #[] #[]) [.agg ⟨[fv, vv, sv]⟩] h = some (v, h') ∧ v = .bool true := by
  obtain ⟨n, rfl⟩ : ∃ p, n = p + 1 := ⟨n - 1, by omega⟩
  refine call_any0 fok20 rfl rfl (by simp) ?_
  simp only [s20, W_seq, W_ops]
  refine ops_box (cs := [fv, vv, sv]) (by omega) rfl hy.one fun g1 hx1 => ?_
  have n1 := hx1.next
  have f1 := hx1.floor
  have hy1 := hy.mono hx1.sub
  have x1 := hx1.row.whole (n := 3) rfl
  have hrd := ready_c (n := n) (h := g1) (by omega) (by omega) hy1
  have hrd' : decide (Thin Y ∧ faultN Y = 0) = true := decide_eq_true ⟨hT, hf⟩
  rw [hrd'] at hrd
  obtain ⟨z5, z6, z7⟩ := (good_of hf).sz
  obtain ⟨N, hN, hm, ⟨c0, hc0, hc1⟩, hall⟩ := first_miss (good_of hf).f hh
  have hv : firstV Y = ((N : Int), 0) := by unfold firstV; rw [if_neg (by simpa using hf), if_neg (by rw [hh]; simp), hm]
  obtain ⟨F1, V1, S1, g2, ey2, hy2, m2⟩ := yard_c (n := n) (h := g1) (by omega) (by omega) (by omega) hy1 hT
  have n2 := m2.next
  have u2 := m2.up
  have f2 := m2.floor
  have ef := first_c (n := n) (h := g2) (by omega) (by omega) hy2 hT
  rw [hv] at ef
  have r2 := hx1.row.mono m2.sub
  have x2 := r2.whole (n := 3) rfl
  have hyb := hy1.mono m2.sub
  have hin := in_c (n := n) (h := g2) (by omega) (N : Int) 0 ((Y.ns : Int) - 1)
  have hin' : decide (0 ≤ (N : Int) ∧ (N : Int) ≤ (Y.ns : Int) - 1) = true := decide_eq_true (by omega)
  rw [hin'] at hin
  have hwn : wrapF .i64 ((Y.ns : Int) - 1) = (Y.ns : Int) - 1 := wrap_in (by omega) (by omega)
  have p1 : (2 ^ N : Nat) < 2 ^ 61 := Nat.pow_lt_pow_right (by omega) (by omega)
  have p2 : (2 ^ (N + 1) : Nat) < 2 ^ 62 := Nat.pow_lt_pow_right (by omega) (by omega)
  have p3 : 0 < (2 ^ N : Nat) := Nat.pow_pos (by omega)
  have p4 : 0 < (2 ^ (N + 1) : Nat) := Nat.pow_pos (by omega)
  have hw1 : wrapF .i64 (((2 ^ N : Nat) : Int) - 1) = ((2 ^ N - 1 : Nat) : Int) := by rw [wrap_in (by omega) (by omega)]; omega
  have hw2 : wrapF .i64 (((2 ^ (N + 1) : Nat) : Int) - 1) = ((2 ^ (N + 1) - 1 : Nat) : Int) := by rw [wrap_in (by omega) (by omega)]; omega
  obtain ⟨b1, hb1⟩ : ∃ b, b = 2 ^ N - 1 := ⟨_, rfl⟩
  obtain ⟨b2, hb2⟩ : ∃ b, b = 2 ^ (N + 1) - 1 := ⟨_, rfl⟩
  rw [← hb1] at hw1
  rw [← hb2] at hw2
  obtain ⟨T1, g3, es3, hy3, m3⟩ := some_c (n := n) (h := g2) (bits := b1) (by omega) (by omega) (by omega) hyb z7
  have n3 := m3.next
  have u3 := m3.up
  have f3 := m3.floor
  obtain ⟨F4, V4, S4, g4, ey4, hy4, m4⟩ := yard_c (n := n) (h := g3) (by omega) (by omega) (by omega) hy3 (picked_thin hT)
  have n4 := m4.next
  have u4' := m4.up
  have f4 := m4.floor
  obtain ⟨bv, g5, eb5, m5, hb5⟩ := boundsV_c (n := n) (h := g4) (by omega) (by omega) (by omega) hy4 (picked_thin hT)
  have n5 := m5.next
  have u5 := m5.up
  have f5 := m5.floor
  have s5 : Sub All g2 g5 := m3.sub.trans (m4.sub.trans m5.sub)
  have x5 := (r2.mono s5).whole (n := 3) rfl
  obtain ⟨T2, g6, es6, hy6, m6⟩ := some_c (n := n) (h := g5) (bits := b2) (by omega) (by omega) (by omega) (hyb.mono s5) z7
  have n6 := m6.next
  have u6 := m6.up
  have f6 := m6.floor
  obtain ⟨F7, V7, S7, g7, ey7, hy7, m7⟩ := yard_c (n := n) (h := g6) (by omega) (by omega) (by omega) hy6 (picked_thin hT)
  have n7 := m7.next
  have u7 := m7.up
  have f7 := m7.floor
  obtain ⟨bw, g8, eb8, m8, hb8⟩ := boundsV_c (n := n) (h := g7) (by omega) (by omega) (by omega) hy7 (picked_thin hT)
  have n8 := m8.next
  have u8 := m8.up
  have haw := awake_c (n := n) (h := g8) (by omega)
  have t1 : truths (picked Y b1) ≠ [] := fun e => by
    have : c0 ∈ truths (picked Y b1) := picked_truth.2 ⟨hc0, fun x _ hx => hc1 x (by rw [hb1] at hx; exact low_bits.1 hx)⟩
    rw [e] at this; exact List.not_mem_nil this
  have t2 : truths (picked Y b2) = [] := by
    refine List.eq_nil_iff_forall_not_mem.2 fun c hc => ?_
    obtain ⟨k1, k2⟩ := picked_truth.1 hc
    obtain ⟨j, j1, j2⟩ := hall c k1
    exact j2 (k2 j (by omega) (by rw [hb2]; exact low_bits.2 (by omega)))
  rcases hb5 with ⟨h0, _⟩ | ⟨_, h0, _⟩ | ⟨_, _, bl, rfl, hbl⟩
  · exact absurd (picked_fault hf) h0
  · exact absurd h0 t1
  rcases hb8 with ⟨h0, _⟩ | ⟨_, _, rfl⟩ | ⟨_, h0, _⟩
  · exact absurd (picked_fault hf) h0
  · simp only [rn0, rn1, rn2, rn3, rn4, rn5, rn6, rn7, rn8, if_true, if_false, Nat.le_refl, true_and, and_true, decide_true, decide_false, Bool.not_true, Bool.not_false, reduceIte, Nat.reduceEqDiff, Nat.reduceAdd, Nat.reduceMul, Nat.reduceSub, Nat.reduceLeDiff, Nat.reduceLT, Int.reduceEq, x1, hrd, ey2, ef, ex0, ex1, x2, r2.ld, Nat.zero_add, List.getElem?_cons_zero, List.getElem?_cons_succ, Cells.len hyb.s, hwn, hin, p_uint, r_conv (k := N) (by omega), r_shl (k := N) (by omega), r_shl2 (k := N) (by omega), valN_tmp, valN_const, Nat.reduceLT, hw1, hw2, es3, ey4, eb5, x5, es6, ey7, eb8, haw]
  · exact absurd t2 h0
theorem firstLaw_c (hn : 10100 ≤ n) (hr : h.next + 3000000 < far) (hfl : h.floor ≤ h.next) {fv vv sv : Value} {Y : MY} (hy : YardR h fv vv sv Y) :
    ∃ v h', call n (.func (.func 20) #[] #[]) [.agg ⟨[fv, vv, sv]⟩] h = some (v, h') ∧ v = .bool true := by
  by_cases c1 : Thin Y ∧ faultN Y = 0
  · by_cases hh : (firstRun Y).2 = true
    · exact firstLaw_h (by omega) hr hfl hy c1.1 c1.2 hh
    · exact firstLaw_m (by omega) hr hfl hy c1.1 c1.2 (by simpa using hh)
  obtain ⟨n, rfl⟩ : ∃ p, n = p + 1 := ⟨n - 1, by omega⟩
  refine call_any0 fok20 rfl rfl (by simp) ?_
  simp only [s20, W_seq, W_ops]
  refine ops_box (cs := [fv, vv, sv]) (by omega) rfl hy.one fun g1 hx1 => ?_
  have n1 := hx1.next
  have hy1 := hy.mono hx1.sub
  have x1 := hx1.row.whole (n := 3) rfl
  have hrd := ready_c (n := n) (h := g1) (by omega) (by omega) hy1
  have haw := awake_c (n := n) (h := g1) (by omega)
  rw [decide_eq_false c1] at hrd
  simp only [rn0, rn1, rn2, rn3, rn4, rn5, rn6, rn7, rn8, if_true, if_false, Nat.le_refl, true_and, and_true, decide_true, decide_false, Bool.not_true, Bool.not_false, reduceIte, Nat.reduceEqDiff, Nat.reduceAdd, Nat.reduceMul, Nat.reduceSub, Nat.reduceLeDiff, Nat.reduceLT, x1, hrd, haw]
end Go.Vm.Vat

namespace Go.Vm
variable {P : Program} {N : Nat} {f : Fr} {h : AHeap}
theorem g_un {X : Cx} {Q : WPost} {f : Fr} {h : AHeap} {m : List Nat} {w : Bool} {d : Option Nat} {op : SOp} {L : List SI} : gW X undef w d op L Q f h m = opsW X L Q (putF f d undef) h m := by simp [gW, isB, undef]
/-- the bits of the one that the other has not -/
def offN (a b : Nat) : Nat := (BitVec.ofNat 64 a &&& ~~~ BitVec.ofNat 64 b).toNat
theorem offN_bit {a b x : Nat} (ha : a < 2 ^ 62) (hx : x < 62) : (offN a b).testBit x = (a.testBit x && !b.testBit x) := by
  unfold offN
  rw [BitVec.testBit_toNat, BitVec.getLsbD_and, BitVec.getLsbD_not, BitVec.getLsbD_ofNat, BitVec.getLsbD_ofNat]
  simp [show x < 64 by omega]
theorem offN_le {a b : Nat} (ha : a < 2 ^ 62) : offN a b ≤ a := by
  unfold offN
  rw [BitVec.toNat_and]
  refine Nat.le_trans Nat.and_le_left ?_
  rw [BitVec.toNat_ofNat]; exact Nat.mod_le _ _
theorem r_andNot {other : AHeap → Option (Value × AHeap)} {a b : Nat} (ha : a < 2 ^ 62) : run2 andNotF other (.int .i64 (a : Int)) (.int .i64 (b : Int)) h = some (.int .i64 ((offN a b : Nat) : Int), h) := by
  have hl := offN_le (a := a) (b := b) ha
  simp only [run2, andNotF]
  rw [BitVec.ofInt_natCast, BitVec.ofInt_natCast]
  show some (Value.int .i64 (IntKind.wrap .i64 ((offN a b : Nat) : Int)), h) = _
  rw [← wrapF_eq, wrap_in (by omega) (by omega)]
end Go.Vm
namespace Go.Vm.Vat
open Go.Proofs
set_option linter.unusedSimpArgs false
set_option linter.unusedVariables false
set_option maxRecDepth 10000
variable {n : Nat} {h : AHeap}

open Classical in
/-- those below k that are so -/
noncomputable def pickL (p : Nat → Prop) : Nat → List Int
  | 0 => []
  | k + 1 => if p k then pickL p k ++ [(k : Int)] else pickL p k
theorem pick_yes {p : Nat → Prop} {k : Nat} (h : p k) : pickL p (k + 1) = pickL p k ++ [(k : Int)] := by rw [pickL, if_pos h]
theorem pick_no {p : Nat → Prop} {k : Nat} (h : ¬ p k) : pickL p (k + 1) = pickL p k := by rw [pickL, if_neg h]
theorem pick_sub {p q : Nat → Prop} : ∀ k, (∀ j, j < k → p j → q j) → (pickL p k).length ≤ (pickL q k).length ∧ ((pickL p k).length = (pickL q k).length → pickL p k = pickL q k)
  | 0, _ => ⟨Nat.le_refl _, fun _ => rfl⟩
  | k + 1, h => by
    obtain ⟨h1, h2⟩ := pick_sub (p := p) (q := q) k fun j hj => h j (by omega)
    by_cases c1 : p k
    · rw [pick_yes c1, pick_yes (h k (by omega) c1)]
      simp only [List.length_append, List.length_singleton]
      exact ⟨by omega, fun e => by rw [h2 (by omega)]⟩
    · rw [pick_no c1]
      by_cases c2 : q k
      · rw [pick_yes c2]
        simp only [List.length_append, List.length_singleton]
        exact ⟨by omega, fun e => by omega⟩
      · rw [pick_no c2]; exact ⟨h1, h2⟩
theorem pick_congr {p q : Nat → Prop} {k : Nat} (h : ∀ j, j < k → (p j ↔ q j)) : pickL p k = pickL q k := by
  induction k with
  | zero => rfl
  | succ k ih =>
    have := ih fun j hj => h j (by omega)
    by_cases c : p k
    · rw [pick_yes c, pick_yes ((h k (by omega)).1 c), this]
    · rw [pick_no c, pick_no (fun e => c ((h k (by omega)).2 e)), this]
theorem pick_len {p : Nat → Prop} : ∀ k, (pickL p k).length ≤ k
  | 0 => Nat.le_refl _
  | k + 1 => by
    have := pick_len (p := p) k
    by_cases c : p k
    · rw [pick_yes c, List.length_append, List.length_singleton]; omega
    · rw [pick_no c]; omega
theorem at_append {l : List Int} {x : Int} {i : Nat} (hi : i < l.length) : atL (l ++ [x]) i = atL l i := by unfold atL; rw [List.getD_eq_getElem?_getD, List.getD_eq_getElem?_getD, List.getElem?_append_left hi]
theorem at_last {l : List Int} {x : Int} : atL (l ++ [x]) l.length = x := by unfold atL; rw [List.getD_eq_getElem?_getD, List.getElem?_append_right (Nat.le_refl _)]; simp
/-- an entry -/
theorem pick_at {p : Nat → Prop} : ∀ {k i : Nat}, i < (pickL p k).length → ∃ j : Nat, j < k ∧ atL (pickL p k) i = (j : Int) ∧ p j
  | 0, i, hi => (Nat.not_lt_zero _ hi).elim
  | k + 1, i, hi => by
    by_cases c : p k
    · rw [pick_yes c] at hi ⊢
      rw [List.length_append, List.length_singleton] at hi
      by_cases e : i < (pickL p k).length
      · rw [at_append e]
        obtain ⟨j, j1, j2, j3⟩ := pick_at e
        exact ⟨j, by omega, j2, j3⟩
      · have : i = (pickL p k).length := by omega
        subst this
        rw [at_last]; exact ⟨k, by omega, rfl, c⟩
    · rw [pick_no c] at hi ⊢
      obtain ⟨j, j1, j2, j3⟩ := pick_at hi
      exact ⟨j, by omega, j2, j3⟩
theorem pick_up {p : Nat → Prop} : ∀ {k i : Nat}, i + 1 < (pickL p k).length → atL (pickL p k) i < atL (pickL p k) (i + 1)
  | 0, i, hi => (Nat.not_lt_zero _ hi).elim
  | k + 1, i, hi => by
    by_cases c : p k
    · rw [pick_yes c] at hi ⊢
      rw [List.length_append, List.length_singleton] at hi
      by_cases e : i + 1 < (pickL p k).length
      · rw [at_append e, at_append (by omega)]; exact pick_up e
      · have : i + 1 = (pickL p k).length := by omega
        rw [this, at_last, at_append (by omega)]
        obtain ⟨j, j1, j2, _⟩ := pick_at (p := p) (k := k) (i := i) (by omega)
        omega
    · rw [pick_no c] at hi ⊢
      exact pick_up hi
theorem pick_has {p : Nat → Prop} : ∀ {k j : Nat}, j < k → p j → ∃ i, i < (pickL p k).length ∧ atL (pickL p k) i = (j : Int)
  | 0, j, hj, _ => (Nat.not_lt_zero _ hj).elim
  | k + 1, j, hj, hp => by
    by_cases e : j = k
    · subst e
      rw [pick_yes hp, List.length_append, List.length_singleton]
      exact ⟨_, Nat.lt_succ_self _, at_last⟩
    · obtain ⟨i, i1, i2⟩ := pick_has (p := p) (k := k) (j := j) (by omega) hp
      by_cases c : p k
      · rw [pick_yes c, List.length_append, List.length_singleton]
        exact ⟨i, by omega, by rw [at_append i1]; exact i2⟩
      · rw [pick_no c]; exact ⟨i, i1, i2⟩
theorem wrong_pick {Y : MY} {c : Nat → Int} : ∀ k, wrongTo Y c k = pickL (fun j => ¬ RightB Y c j) k
  | 0 => rfl
  | k + 1 => by
    by_cases hR : RightB Y c k
    · rw [wrongTo_yes hR, pick_no (fun e => e hR), wrong_pick k]
    · rw [wrongTo_no hR, pick_yes hR, wrong_pick k]
theorem upTo_pick : ∀ k, upTo k = pickL (fun _ => True) k
  | 0 => rfl
  | k + 1 => by rw [pick_yes trivial, ← upTo_pick k]; unfold upTo; rw [List.range_succ, List.map_append]; rfl
theorem lex_irr {a : Nat → Int} {m : Nat} : ¬ LexLt a a m := fun ⟨j, _, _, h⟩ => by omega
theorem lex_trans {a b c : Nat → Int} {m : Nat} (h1 : LexLt a b m) (h2 : LexLt b c m) : LexLt a c m := by
  obtain ⟨i, i1, i2, i3⟩ := h1
  obtain ⟨j, j1, j2, j3⟩ := h2
  by_cases e : i < j
  · exact ⟨i, i1, fun x hx => by rw [i2 x hx, j2 x (by omega)], by rw [← j2 i e]; exact i3⟩
  · by_cases e2 : i = j
    · subst e2; exact ⟨i, i1, fun x hx => by rw [i2 x hx, j2 x hx], by omega⟩
    · exact ⟨j, j1, fun x hx => by rw [i2 x (by omega), j2 x hx], by rw [i2 j (by omega)]; exact j3⟩
def SL (a b : List Int) : Prop := Shortlex (atL a) a.length (atL b) b.length
theorem sl_irr {a : List Int} : ¬ SL a a := fun h => by
  rcases h with h | h
  · omega
  · exact lex_irr h.2
theorem sl_trans {a b c : List Int} (h1 : SL a b) (h2 : SL b c) : SL a c := by
  unfold SL Shortlex at *
  rcases h1 with h1 | ⟨e1, h1⟩ <;> rcases h2 with h2 | ⟨e2, h2⟩
  · exact .inl (by omega)
  · exact .inl (by omega)
  · exact .inl (by omega)
  · exact .inr ⟨by omega, lex_trans h1 (by rw [e1]; exact h2)⟩
theorem run_leave {Y : MY} : ∀ (L : List (Nat → Int)) (s : List Int),
    ((runL (leaveStep Y) s L).1 = s ∨ SL (runL (leaveStep Y) s L).1 s) ∧ ((runL (leaveStep Y) s L).1 = s ∨ ∃ c, c ∈ L ∧ (runL (leaveStep Y) s L).1 = wrongTo Y c Y.ns) ∧ ∀ c, c ∈ L → ¬ SL (wrongTo Y c Y.ns) (runL (leaveStep Y) s L).1
  | [], s => ⟨.inl rfl, .inl rfl, fun c hc => (List.not_mem_nil hc).elim⟩
  | x :: L, s => by
    by_cases hL : Shortlex (atL (wrongTo Y x Y.ns)) (wrongTo Y x Y.ns).length (atL s) s.length
    · have e : runL (leaveStep Y) s (x :: L) = runL (leaveStep Y) (wrongTo Y x Y.ns) L := by simp only [runL, leaveStep, if_pos hL, if_true]
      rw [e]
      obtain ⟨h1, h2, h3⟩ := run_leave (Y := Y) L (wrongTo Y x Y.ns)
      generalize (runL (leaveStep Y) (wrongTo Y x Y.ns) L).1 = r at h1 h2 h3
      refine ⟨.inr ?_, .inr ?_, fun c hc => ?_⟩
      · rcases h1 with h1 | h1
        · rw [h1]; exact hL
        · exact sl_trans h1 hL
      · rcases h2 with h2 | ⟨c, h2, h4⟩
        · exact ⟨x, List.mem_cons_self, h2⟩
        · exact ⟨c, List.mem_cons_of_mem _ h2, h4⟩
      · rcases List.mem_cons.1 hc with rfl | hc
        · rcases h1 with h1 | h1
          · rw [h1]; exact sl_irr
          · exact fun e => sl_irr (sl_trans h1 e)
        · exact h3 c hc
    · have e : runL (leaveStep Y) s (x :: L) = runL (leaveStep Y) s L := by simp only [runL, leaveStep, if_neg hL, if_true]
      rw [e]
      obtain ⟨h1, h2, h3⟩ := run_leave (Y := Y) L s
      generalize (runL (leaveStep Y) s L).1 = r at h1 h2 h3
      refine ⟨h1, ?_, fun c hc => ?_⟩
      · rcases h2 with h2 | ⟨c, h2, h4⟩
        · exact .inl h2
        · exact .inr ⟨c, List.mem_cons_of_mem _ h2, h4⟩
      · rcases List.mem_cons.1 hc with rfl | hc
        · rcases h1 with h1 | h1
          · rw [h1]; exact hL
          · exact fun e => hL (sl_trans e h1)
        · exact h3 c hc
/-- the smallest set: it is that of some blues, or all; none of any blues is before it -/
theorem leave_is {Y : MY} : (leaveRun Y = pickL (fun _ => True) Y.ns ∨ ∃ c, c ∈ enumB Y.lo Y.hi Y.nf 0 (fun _ => 0) ∧ leaveRun Y = pickL (fun j => ¬ RightB Y c j) Y.ns) ∧
    ∀ c, c ∈ enumB Y.lo Y.hi Y.nf 0 (fun _ => 0) → ¬ SL (pickL (fun j => ¬ RightB Y c j) Y.ns) (leaveRun Y) := by
  obtain ⟨_, h2, h3⟩ := run_leave (Y := Y) (enumB Y.lo Y.hi Y.nf 0 fun _ => 0) (upTo Y.ns)
  change leaveRun Y = upTo Y.ns ∨ ∃ c, c ∈ enumB Y.lo Y.hi Y.nf 0 (fun _ => 0) ∧ leaveRun Y = wrongTo Y c Y.ns at h2
  change ∀ c, c ∈ enumB Y.lo Y.hi Y.nf 0 (fun _ => 0) → ¬ SL (wrongTo Y c Y.ns) (leaveRun Y) at h3
  refine ⟨?_, fun c hc => by rw [← wrong_pick]; exact h3 c hc⟩
  rcases h2 with h2 | ⟨c, h2, h4⟩
  · exact .inl (by rw [h2, upTo_pick])
  · exact .inr ⟨c, h2, by rw [h4, wrong_pick]⟩
def s66 : SCode := (.seq (.ops [⟨(some 4), none, .mov (.const (.bool false))⟩]) (.seq (.seq (.ops [⟨(some 5), none, .mov (.const (.int .i64 (0)))⟩]) (.block 0 (.loop (.seq (.seq (.ops [⟨(some 6), none, .mov (T 5)⟩, ⟨(some 7), none, .mov (T 0)⟩, ⟨(some 8), none, .len (T 7)⟩, ⟨(some 9), none, .int2 .lss (T 6) (T 8)⟩, ⟨(some 10), none, .mov (T 9)⟩, ⟨(some 11), (some (10, true)), .mov (T 5)⟩, ⟨(some 12), (some (10, true)), .mov (T 1)⟩, ⟨(some 13), (some (10, true)), .len (T 12)⟩, ⟨(some 14), (some (10, true)), .int2 .lss (T 11) (T 13)⟩, ⟨(some 15), none, .pick (T 10) (T 14) (.const (.bool false))⟩]) (.cond (T 15) .skip (.exit 0))) (.seq (.block 1 (.seq (.draw [⟨.free, ⟨(some 18), none, .mov (T 0)⟩⟩, ⟨.free, ⟨(some 19), none, .mov (T 5)⟩⟩, ⟨.free, ⟨(some 20), none, .idxSl 1 (T 18) (T 19)⟩⟩, ⟨.rd1, ⟨(some 21), none, .load1 (T 20)⟩⟩, ⟨.free, ⟨(some 22), none, .mov (T 1)⟩⟩, ⟨.free, ⟨(some 23), none, .mov (T 5)⟩⟩, ⟨.free, ⟨(some 24), none, .idxSl 1 (T 22) (T 23)⟩⟩, ⟨.rd1, ⟨(some 25), none, .load1 (T 24)⟩⟩, ⟨.free, ⟨(some 26), none, .int2 .neq (T 21) (T 25)⟩⟩]) (.cond (T 26) (.seq (.draw [⟨.free, ⟨(some 27), none, .mov (T 0)⟩⟩, ⟨.free, ⟨(some 28), none, .mov (T 5)⟩⟩, ⟨.free, ⟨(some 29), none, .idxSl 1 (T 27) (T 28)⟩⟩, ⟨.rd1, ⟨(some 30), none, .load1 (T 29)⟩⟩, ⟨.free, ⟨(some 31), none, .mov (T 1)⟩⟩, ⟨.free, ⟨(some 32), none, .mov (T 5)⟩⟩, ⟨.free, ⟨(some 33), none, .idxSl 1 (T 31) (T 32)⟩⟩, ⟨.rd1, ⟨(some 34), none, .load1 (T 33)⟩⟩, ⟨.free, ⟨(some 35), none, .int2 .lss (T 30) (T 34)⟩⟩, ⟨.free, ⟨(some 4), none, .mov (T 35)⟩⟩]) .ret) .skip))) (.ops [⟨(some 16), none, .mov (T 5)⟩, ⟨(some 17), none, .int2 .add (T 16) (.const (.int .i64 (1)))⟩, ⟨(some 5), none, .mov (T 17)⟩])))))) (.seq (.ops [⟨(some 36), none, .mov (T 0)⟩, ⟨(some 37), none, .len (T 36)⟩, ⟨(some 38), none, .mov (T 1)⟩, ⟨(some 39), none, .len (T 38)⟩, ⟨(some 40), none, .int2 .lss (T 37) (T 39)⟩, ⟨(some 4), none, .mov (T 40)⟩]) .ret)))
theorem fok66 : FnOk Try.prog 66 41 s66 [.tmp 4] := ⟨Try.f66, _, Try.func66, rfl, Try.ntmps66, by kernel_rfl, by kernel_rfl⟩
theorem before_c {m : Nat} (hn : m + 3 ≤ n) (hm : m ≤ 1000) {va vb : Value} {a b : Nat → Int} (ha : Ints h va m a) (hb : Ints h vb m b) : call n (.func (.func 66) #[] #[]) [va, vb] h = some (.bool (decide (LexLt a b m)), h) := by
  obtain ⟨n, rfl⟩ : ∃ p, n = p + 1 := ⟨n - 1, by omega⟩
  refine call_plain0 fok66 rfl rfl (by simp) rfl ?_
  have ha : Ints h.shutAll va m a := Cells.shut ha
  have hb : Ints h.shutAll vb m b := Cells.shut hb
  generalize h.shutAll = h at ha hb
  simp only [rn0, rn1, rn2, rn3, rn4, rn5, rn6, rn7, rn8, if_true, if_false, Nat.le_refl, true_and, and_true, decide_true, decide_false, Bool.not_true, Bool.not_false, reduceIte, Nat.reduceEqDiff, Nat.reduceAdd, Nat.reduceMul, Nat.reduceSub, Nat.reduceLeDiff, Nat.reduceLT, s66]
  refine W_loop m (fun k f g ms => (∀ i, i < k → a i = b i) ∧ g = h ∧ ms = [] ∧ f 0 = va ∧ f 1 = vb ∧ f 5 = .int .i64 (k : Int)) (by simp; omega) ?_ ?_ ?_
  · simp only [rn0, rn1, rn2, rn3, rn4, rn5, rn6, rn7, rn8, if_true, if_false, Nat.le_refl, true_and, and_true, decide_true, decide_false, Bool.not_true, Bool.not_false, reduceIte, Nat.reduceEqDiff, Nat.reduceAdd, Nat.reduceMul, Nat.reduceSub, Nat.reduceLeDiff, Nat.reduceLT]
    exact ⟨fun i hi => by omega, rfl⟩
  · rintro k f g ms hk ⟨he, rfl, rfl, p0, p1, p5⟩
    have hk' : (k : Int) < (m : Int) := by omega
    have hw : wrapF .i64 ((k : Int) + 1) = ((k + 1 : Nat) : Int) := by rw [wrap_in (by omega) (by omega)]; rfl
    have la := Cells.ld ha hk Nat.zero_lt_one
    have lb := Cells.ld hb hk Nat.zero_lt_one
    simp only [rn0, rn1, rn2, rn3, rn4, rn5, rn6, rn7, rn8, if_true, if_false, Nat.le_refl, true_and, and_true, decide_true, decide_false, Bool.not_true, Bool.not_false, reduceIte, Nat.reduceEqDiff, Nat.reduceAdd, Nat.reduceMul, Nat.reduceSub, Nat.reduceLeDiff, Nat.reduceLT, p0, p1, p5, Cells.len ha, Cells.len hb, hk']
    refine W_draw All ?_
    by_cases c : a k = b k
    · simp only [rn0, rn1, rn2, rn3, rn4, rn5, rn6, rn7, rn8, if_true, if_false, Nat.le_refl, true_and, and_true, decide_true, decide_false, Bool.not_true, Bool.not_false, reduceIte, Nat.reduceEqDiff, Nat.reduceAdd, Nat.reduceMul, Nat.reduceSub, Nat.reduceLeDiff, Nat.reduceLT, p0, p1, p5, Cells.idx ha hk, Cells.idx hb hk, la, lb, c, hw]
      intro i hi
      by_cases e : i = k
      · subst e; exact c
      · exact he i (by omega)
    · have hd : decide (a k < b k) = decide (LexLt a b m) := decide_eq_decide.2 ⟨fun h => ⟨k, hk, he, h⟩, fun ⟨j, j1, j2, j3⟩ => by
        by_cases e : j = k
        · subst e; exact j3
        · by_cases e2 : j < k
          · have := he j e2; omega
          · exact absurd (j2 k (by omega)) c⟩
      simp only [rn0, rn1, rn2, rn3, rn4, rn5, rn6, rn7, rn8, if_true, if_false, Nat.le_refl, true_and, and_true, decide_true, decide_false, Bool.not_true, Bool.not_false, reduceIte, Nat.reduceEqDiff, Nat.reduceAdd, Nat.reduceMul, Nat.reduceSub, Nat.reduceLeDiff, Nat.reduceLT, p0, p1, p5, Cells.idx ha hk, Cells.idx hb hk, la, lb, c]
      refine W_draw All ?_
      simp only [rn0, rn1, rn2, rn3, rn4, rn5, rn6, rn7, rn8, if_true, if_false, Nat.le_refl, true_and, and_true, decide_true, decide_false, Bool.not_true, Bool.not_false, reduceIte, Nat.reduceEqDiff, Nat.reduceAdd, Nat.reduceMul, Nat.reduceSub, Nat.reduceLeDiff, Nat.reduceLT, p0, p1, p5, Cells.idx ha hk, Cells.idx hb hk, la, lb, hd]
  · rintro f g ms ⟨he, rfl, rfl, p0, p1, p5⟩
    have hd : decide (LexLt a b m) = false := decide_eq_false fun ⟨j, j1, j2, j3⟩ => by have := he j j1; omega
    simp only [rn0, rn1, rn2, rn3, rn4, rn5, rn6, rn7, rn8, if_true, if_false, Nat.le_refl, true_and, and_true, decide_true, decide_false, Bool.not_true, Bool.not_false, reduceIte, Nat.reduceEqDiff, Nat.reduceAdd, Nat.reduceMul, Nat.reduceSub, Nat.reduceLeDiff, Nat.reduceLT, p0, p1, p5, Cells.len ha, Cells.len hb, Int.lt_irrefl, hd]
def s71 : SCode := (.seq (.ops [⟨(some 4), none, .mov (.const (.bool false))⟩]) (.seq (.ops [⟨(some 5), none, .mov (T 0)⟩, ⟨(some 6), none, .len (T 5)⟩, ⟨(some 7), none, .mov (T 1)⟩, ⟨(some 8), none, .len (T 7)⟩, ⟨(some 9), none, .int2 .lss (T 6) (T 8)⟩, ⟨(some 10), none, .mov (T 9)⟩, ⟨(some 11), (some (10, false)), .mov (T 0)⟩, ⟨(some 12), (some (10, false)), .len (T 11)⟩, ⟨(some 13), (some (10, false)), .mov (T 1)⟩, ⟨(some 14), (some (10, false)), .len (T 13)⟩, ⟨(some 15), (some (10, false)), .int2 .eql (T 12) (T 14)⟩, ⟨(some 16), (some (10, false)), .mov (T 15)⟩, ⟨(some 17), (some (16, true)), .mov (T 0)⟩, ⟨(some 18), (some (16, true)), .mov (T 1)⟩, ⟨(some 19), (some (16, true)), .call (.func 66) [(T 17), (T 18)]⟩, ⟨(some 20), (some (10, false)), .pick (T 16) (T 19) (.const (.bool false))⟩, ⟨(some 21), none, .pick (T 10) (.const (.bool true)) (T 20)⟩, ⟨(some 4), none, .mov (T 21)⟩]) .ret))
theorem fok71 : FnOk Try.prog 71 22 s71 [.tmp 4] := ⟨Try.f71, _, Try.func71, rfl, Try.ntmps71, by kernel_rfl, by kernel_rfl⟩
theorem shorter_c {m k : Nat} (hn : 1010 ≤ n) (hm : m ≤ 1000) (hk : k ≤ 1000) {va vb : Value} {a b : Nat → Int} (ha : Ints h va m a) (hb : Ints h vb k b) : call n (.func (.func 71) #[] #[]) [va, vb] h = some (.bool (decide (Shortlex a m b k)), h) := by
  obtain ⟨n, rfl⟩ : ∃ p, n = p + 1 := ⟨n - 1, by omega⟩
  refine call_plain0 fok71 rfl rfl (by simp) rfl ?_
  have ha : Ints h.shutAll va m a := Cells.shut ha
  have hb : Ints h.shutAll vb k b := Cells.shut hb
  generalize h.shutAll = h at ha hb
  by_cases c1 : m < k
  · have c1' : (m : Int) < (k : Int) := by omega
    have hd : decide (Shortlex a m b k) = true := decide_eq_true (.inl c1)
    simp only [rn0, rn1, rn2, rn3, rn4, rn5, rn6, rn7, rn8, if_true, if_false, Nat.le_refl, true_and, and_true, decide_true, decide_false, Bool.not_true, Bool.not_false, reduceIte, Nat.reduceEqDiff, Nat.reduceAdd, Nat.reduceMul, Nat.reduceSub, Nat.reduceLeDiff, Nat.reduceLT, s71, Cells.len ha, Cells.len hb, c1', hd, g_un]
  have c1' : ¬ (m : Int) < (k : Int) := by omega
  by_cases c : m = k
  · subst c
    have ec := before_c (n := n) (h := h) (by omega) hm ha hb
    have hd : decide (LexLt a b m) = decide (Shortlex a m b m) := decide_eq_decide.2 ⟨fun e => .inr ⟨rfl, e⟩, fun e => by
      rcases e with e | e
      · omega
      · exact e.2⟩
    rw [hd] at ec
    simp only [rn0, rn1, rn2, rn3, rn4, rn5, rn6, rn7, rn8, if_true, if_false, Nat.le_refl, true_and, and_true, decide_true, decide_false, Bool.not_true, Bool.not_false, reduceIte, Nat.reduceEqDiff, Nat.reduceAdd, Nat.reduceMul, Nat.reduceSub, Nat.reduceLeDiff, Nat.reduceLT, s71, Cells.len ha, Cells.len hb, c1', ec, Int.lt_irrefl]
  · have c' : ¬ (m : Int) = (k : Int) := by omega
    have hd : decide (Shortlex a m b k) = false := decide_eq_false fun e => by rcases e with e | e <;> omega
    simp only [rn0, rn1, rn2, rn3, rn4, rn5, rn6, rn7, rn8, if_true, if_false, Nat.le_refl, true_and, and_true, decide_true, decide_false, Bool.not_true, Bool.not_false, reduceIte, Nat.reduceEqDiff, Nat.reduceAdd, Nat.reduceMul, Nat.reduceSub, Nat.reduceLeDiff, Nat.reduceLT, s71, Cells.len ha, Cells.len hb, c1', c', hd]
end Go.Vm.Vat

namespace Go.Vm.Vat
open Go.Proofs
set_option linter.unusedSimpArgs false
set_option linter.unusedVariables false
set_option maxRecDepth 10000
variable {n : Nat} {h : AHeap}

def Bit (b x : Nat) : Prop := b / 2 ^ x % 2 = 1
theorem bit_test {b x : Nat} : Bit b x ↔ b.testBit x = true := by unfold Bit; rw [Nat.testBit_eq_decide_div_mod_eq]; simp
theorem bits_top {b : Nat} : ∀ B, b < 2 ^ B → ∃ M, M ≤ B ∧ (∀ k, k < M → 0 < b / 2 ^ k) ∧ b / 2 ^ M = 0
  | 0, h => ⟨0, Nat.le_refl _, fun k hk => by omega, Nat.div_eq_of_lt h⟩
  | B + 1, h => by
    by_cases c : b < 2 ^ B
    · obtain ⟨M, h1, h2, h3⟩ := bits_top B c
      exact ⟨M, by omega, h2, h3⟩
    · refine ⟨B + 1, Nat.le_refl _, fun k hk => ?_, Nat.div_eq_of_lt h⟩
      have : 2 ^ k ≤ 2 ^ B := Nat.pow_le_pow_right (by omega) (by omega)
      exact Nat.div_pos (by omega) (Nat.pow_pos (by omega))
theorem pick_more {p : Nat → Prop} {M : Nat} : ∀ d, (∀ x, M ≤ x → ¬ p x) → pickL p (M + d) = pickL p M
  | 0, _ => rfl
  | d + 1, h => by rw [show M + (d + 1) = (M + d) + 1 by omega, pick_no (h _ (by omega)), pick_more d h]
theorem top_none {b M : Nat} (h : b / 2 ^ M = 0) (x : Nat) (hx : M ≤ x) : ¬ Bit b x := by
  unfold Bit
  have h1 : b < 2 ^ M := by
    have := Nat.pow_pos (n := M) (show 0 < 2 by omega)
    exact (Nat.div_eq_zero_iff_lt this).1 h
  have h2 : 2 ^ M ≤ 2 ^ x := Nat.pow_le_pow_right (by omega) hx
  rw [Nat.div_eq_of_lt (by omega)]; omega
def s72 : SCode := (.seq (.ops [⟨(some 2), none, .mov (.const (.slice none 0 0))⟩]) (.seq (.ops [⟨(some 3), none, .mov (.const (.slice none 0 0))⟩]) (.seq (.seq (.ops [⟨(some 4), none, .mov (.const (.int .i64 (0)))⟩]) (.block 0 (.loop (.seq (.seq (.ops [⟨(some 5), none, .mov (T 0)⟩, ⟨(some 6), none, .mov (T 4)⟩, ⟨(some 7), none, .plain (.convert 3 104 (T 6)) 104⟩, ⟨(some 8), none, .plain (.binOp .shr 3 (T 5) (T 7) 104) 3⟩, ⟨(some 9), none, .int2 .gtr (T 8) (.const (.int .i64 (0)))⟩]) (.cond (T 9) .skip (.exit 0))) (.seq (.block 1 (.seq (.ops [⟨(some 12), none, .mov (T 0)⟩, ⟨(some 13), none, .mov (T 4)⟩, ⟨(some 14), none, .plain (.convert 3 104 (T 13)) 104⟩, ⟨(some 15), none, .plain (.binOp .shr 3 (T 12) (T 14) 104) 3⟩, ⟨(some 16), none, .plain (.binOp .rem 3 (T 15) (.const (.int .i64 (2))) 3) 3⟩, ⟨(some 17), none, .int2 .eql (T 16) (.const (.int .i64 (1)))⟩]) (.cond (T 17) (.ops [⟨(some 18), none, .mov (T 3)⟩, ⟨(some 19), none, .mov (T 4)⟩, ⟨(some 20), none, .bslice 1 1 [(.int .i64 (0))] [0] [(T 19)]⟩, ⟨(some 21), none, .append 1 8 (T 18) (T 20)⟩, ⟨(some 3), none, .mov (T 21)⟩]) .skip))) (.ops [⟨(some 10), none, .mov (T 4)⟩, ⟨(some 11), none, .int2 .add (T 10) (.const (.int .i64 (1)))⟩, ⟨(some 4), none, .mov (T 11)⟩])))))) (.seq (.ops [⟨(some 22), none, .mov (T 3)⟩, ⟨(some 2), none, .mov (T 22)⟩]) .ret))))
theorem fok72 : FnOk Try.prog 72 23 s72 [.tmp 2] := ⟨Try.f72, _, Try.func72, rfl, Try.ntmps72, by kernel_rfl, by kernel_rfl⟩
theorem bits_c (hn : 10010 ≤ n) (hr : h.next + 100 < far) (hfl : h.floor ≤ h.next) {b B : Nat} (hb : b < 2 ^ B) (hB : B ≤ 10) :
    ∃ v h', call n (.func (.func 72) #[] #[]) [.int .i64 (b : Int)] h = some (v, h') ∧ Ints h' v (pickL (Bit b) B).length (atL (pickL (Bit b) B)) ∧ (∀ i, i < h.next → h'.get i = h.get i) ∧ h'.next ≤ h.next + 50 ∧ h.next ≤ h'.next ∧ h'.floor = h.floor := by
  obtain ⟨n, rfl⟩ : ∃ p, n = p + 1 := ⟨n - 1, by omega⟩
  obtain ⟨M, hM, hpos, hz⟩ := bits_top B hb
  have hBM : pickL (Bit b) B = pickL (Bit b) M := by
    have := pick_more (p := Bit b) (M := M) (B - M) (top_none hz)
    rw [show M + (B - M) = B by omega] at this; exact this
  rw [hBM]
  refine call_any0 fok72 rfl rfl (by simp) ?_
  simp only [rn0, rn1, rn2, rn3, rn4, rn5, rn6, rn7, rn8, if_true, if_false, Nat.le_refl, true_and, and_true, decide_true, decide_false, Bool.not_true, Bool.not_false, reduceIte, Nat.reduceEqDiff, Nat.reduceAdd, Nat.reduceMul, Nat.reduceSub, Nat.reduceLeDiff, Nat.reduceLT, s72]
  refine W_loop M (fun k f g ms => (∃ v, (∀ i, i < h.next → g.get i = h.get i) ∧ g.floor = h.floor ∧ h.next ≤ g.next ∧ g.next ≤ h.next + 4 * k ∧ GrowC h.next g v 1 (pickL (Bit b) k).length (fun i _ => .int .i64 (atL (pickL (Bit b) k) i)) ∧ f 3 = v) ∧ ms = [] ∧ f 0 = .int .i64 (b : Int) ∧ f 4 = .int .i64 (k : Int)) (by simp; omega) ?_ ?_ ?_
  · simp only [rn0, rn1, rn2, rn3, rn4, rn5, rn6, rn7, rn8, if_true, if_false, Nat.le_refl, true_and, and_true, decide_true, decide_false, Bool.not_true, Bool.not_false, reduceIte, Nat.reduceEqDiff, Nat.reduceAdd, Nat.reduceMul, Nat.reduceSub, Nat.reduceLeDiff, Nat.reduceLT]
    first | exact ⟨_, fun _ _ => trivial, by omega, .nil, rfl⟩ | exact ⟨⟨_, fun _ _ => trivial, by omega, .nil, rfl⟩, rfl⟩ | exact ⟨⟨_, fun _ _ => rfl, rfl, by omega, by omega, .nil, rfl⟩, rfl⟩
  · rintro k f g ms hk ⟨⟨v, ho, hfg, hup, hnx, gv, p3⟩, rfl, p0, p4⟩
    have hw : wrapF .i64 ((k : Int) + 1) = ((k + 1 : Nat) : Int) := by rw [wrap_in (by omega) (by omega)]; rfl
    have hp := hpos k hk
    have hp' : (0 : Int) < ((b / 2 ^ k : Nat) : Int) := by omega
    have hm2 : ((b / 2 ^ k : Nat) : Int).tmod 2 = ((b / 2 ^ k % 2 : Nat) : Int) := rfl
    have z2 : ¬ (2 : Int) = 0 := by decide
    have hlk := pick_len (p := Bit b) k
    by_cases hb1 : Bit b k
    · have hb' : ((b / 2 ^ k % 2 : Nat) : Int) = 1 := by unfold Bit at hb1; omega
      simp only [rn0, rn1, rn2, rn3, rn4, rn5, rn6, rn7, rn8, if_true, if_false, Nat.le_refl, true_and, and_true, decide_true, decide_false, Bool.not_true, Bool.not_false, reduceIte, Nat.reduceEqDiff, Nat.reduceAdd, Nat.reduceMul, Nat.reduceSub, Nat.reduceLeDiff, Nat.reduceLT, p0, p3, p4, p_uint, r_conv (k := k) (by omega), p_shr, r_shr (a := b) (k := k) (by omega), valN_tmp, valN_const, Nat.reduceLT, r_rem z2, hm2, hb', hp', sl_int]
      refine step_slice (by omega) rfl fun g4 hx4 => ?_
      have n4 := hx4.next
      have f4 := hx4.floor
      have gv4 : GrowC h.next g4 v 1 (pickL (Bit b) k).length (fun i _ => .int .i64 (atL (pickL (Bit b) (k + 1)) i)) := (gv.sub hx4.sub).congr fun i j hi hj => by rw [pick_yes hb1, at_append hi]
      obtain ⟨v', g5, e5, ev, gv5, hk5⟩ := gv4.append (bytes := 8) (cap := 1) (by omega) (by omega) (by omega) hx4.get rfl rfl (fun j hj => by
        obtain rfl : j = 0 := by omega
        rw [pick_yes hb1, at_last]; rfl) (by simp [maxBytes]; omega) (by simp [maxBytes]; omega)
      have n5 := hk5.next
      have f5 := hk5.floor
      have hlen : (pickL (Bit b) (k + 1)).length = (pickL (Bit b) k).length + 1 := by rw [pick_yes hb1, List.length_append, List.length_singleton]
      simp only [rn0, rn1, rn2, rn3, rn4, rn5, rn6, rn7, rn8, if_true, if_false, Nat.le_refl, true_and, and_true, decide_true, decide_false, Bool.not_true, Bool.not_false, reduceIte, Nat.reduceEqDiff, Nat.reduceAdd, Nat.reduceMul, Nat.reduceSub, Nat.reduceLeDiff, Nat.reduceLT, p0, p3, p4, e5, hw]
      rw [hlen]
      exact ⟨_, fun i hi => by rw [hk5.old i (by omega) fun bb kk qq e => by have := (gv4.block e).1; omega, hx4.old i (by omega), ho i hi], by omega, by omega, by omega, gv5, rfl⟩
    · have hb' : ¬ ((b / 2 ^ k % 2 : Nat) : Int) = 1 := by unfold Bit at hb1; omega
      simp only [rn0, rn1, rn2, rn3, rn4, rn5, rn6, rn7, rn8, if_true, if_false, Nat.le_refl, true_and, and_true, decide_true, decide_false, Bool.not_true, Bool.not_false, reduceIte, Nat.reduceEqDiff, Nat.reduceAdd, Nat.reduceMul, Nat.reduceSub, Nat.reduceLeDiff, Nat.reduceLT, p0, p3, p4, p_uint, r_conv (k := k) (by omega), p_shr, r_shr (a := b) (k := k) (by omega), valN_tmp, valN_const, Nat.reduceLT, r_rem z2, hm2, hb', hp', hw]
      rw [pick_no hb1]
      exact ⟨_, ho, by omega, by omega, by omega, gv, rfl⟩
  · rintro f g ms ⟨⟨v, ho, hfg, hup, hnx, gv, p3⟩, rfl, p0, p4⟩
    have hz' : ¬ (0 : Int) < ((b / 2 ^ M : Nat) : Int) := by rw [hz]; omega
    simp only [rn0, rn1, rn2, rn3, rn4, rn5, rn6, rn7, rn8, if_true, if_false, Nat.le_refl, true_and, and_true, decide_true, decide_false, Bool.not_true, Bool.not_false, reduceIte, Nat.reduceEqDiff, Nat.reduceAdd, Nat.reduceMul, Nat.reduceSub, Nat.reduceLeDiff, Nat.reduceLT, p0, p3, p4, p_uint, r_conv (k := M) (by omega), p_shr, r_shr (a := b) (k := M) (by omega), valN_tmp, valN_const, Nat.reduceLT, hz']
    exact ⟨gv.cells, ho, by omega, by omega, hfg⟩
/-- the numbers of a list, as bits -/
def bitsOf (l : List Int) : Nat → Nat
  | 0 => 0
  | k + 1 => bitsOf l k ||| 2 ^ (atL l k).toNat
theorem bitsOf_test {l : List Int} {x : Nat} : ∀ {k : Nat}, (bitsOf l k).testBit x = true ↔ ∃ i, i < k ∧ (atL l i).toNat = x
  | 0 => by simp [bitsOf]
  | k + 1 => by
    rw [bitsOf, Nat.testBit_or, Nat.testBit_two_pow, Bool.or_eq_true, bitsOf_test (k := k), decide_eq_true_eq]
    constructor
    · rintro (⟨i, h1, h2⟩ | h1)
      · exact ⟨i, by omega, h2⟩
      · exact ⟨k, by omega, h1⟩
    · rintro ⟨i, h1, h2⟩
      by_cases e : i = k
      · subst e; exact .inr h2
      · exact .inl ⟨i, by omega, h2⟩
theorem bitsOf_lt {l : List Int} {k : Nat} (hl : ∀ i, i < k → (atL l i).toNat < 10) : bitsOf l k < 2 ^ 10 := by
  induction k with
  | zero => simp [bitsOf]
  | succ k ih =>
    rw [bitsOf]
    exact Nat.or_lt_two_pow (ih fun i hi => hl i (by omega)) (Nat.pow_lt_pow_right (by omega) (hl k (by omega)))
/-- the samples that are not among some: with them the yard has a truth, if some blues have wrong among those alone -/
theorem left_truth {Y : MY} {b : Nat} {c : Nat → Int} (hns : Y.ns ≤ 5) (hc : c ∈ enumB Y.lo Y.hi Y.nf 0 (fun _ => 0)) : c ∈ truths (picked Y (offN (2 ^ Y.ns - 1) b)) ↔ ∀ x, x < Y.ns → ¬ Bit b x → RightB Y c x := by
  have hp : (2 ^ Y.ns : Nat) < 2 ^ 62 := Nat.pow_lt_pow_right (by omega) (by omega)
  rw [picked_truth]
  have key : ∀ x, x < Y.ns → ((offN (2 ^ Y.ns - 1) b) / 2 ^ x % 2 = 1 ↔ ¬ Bit b x) := fun x hx => by
    show Bit _ x ↔ _
    rw [bit_test, bit_test, offN_bit (by omega) (by omega), Nat.testBit_two_pow_sub_one]
    simp [hx]
  exact ⟨fun ⟨_, h⟩ x hx hb => h x hx ((key x hx).2 hb), fun h => ⟨hc, fun x hx hb => h x hx ((key x hx).1 hb)⟩⟩
theorem left_f {Y : MY} (hF : ∀ k, k < Y.nf → 0 ≤ Y.lo k ∧ Y.lo k ≤ Y.hi k ∧ Y.hi k ≤ 20) (hns : Y.ns ≤ 5) : truths (picked Y (offN (2 ^ Y.ns - 1) (bitsOf (leaveRun Y) (leaveRun Y).length))) ≠ [] := by
  have hx : (fun j => if j < Y.nf then Y.lo j else 0) ∈ enumB Y.lo Y.hi Y.nf 0 (fun _ => 0) := enum_mem.2 ⟨fun j hj => by simp only [hj, if_true]; exact ⟨Int.le_refl _, (hF j hj).2.1⟩, fun j hj => by simp only [show ¬ j < Y.nf by omega, if_false]⟩
  have main : ∀ c, c ∈ enumB Y.lo Y.hi Y.nf 0 (fun _ => 0) → (∀ x, x < Y.ns → ¬ RightB Y c x → ∃ i, i < (leaveRun Y).length ∧ atL (leaveRun Y) i = (x : Int)) → truths (picked Y (offN (2 ^ Y.ns - 1) (bitsOf (leaveRun Y) (leaveRun Y).length))) ≠ [] := fun c hc hh e => by
    have : c ∈ truths (picked Y (offN (2 ^ Y.ns - 1) (bitsOf (leaveRun Y) (leaveRun Y).length))) := (left_truth hns hc).2 fun x hx hb => by
      apply Classical.byContradiction
      intro hR
      obtain ⟨i, i1, i2⟩ := hh x hx hR
      exact hb (bit_test.2 (bitsOf_test.2 ⟨i, i1, by rw [i2]; simp⟩))
    rw [e] at this; exact List.not_mem_nil this
  rcases (leave_is (Y := Y)).1 with hL | ⟨c, hc, hL⟩
  · refine main _ hx fun x hx _ => ?_
    rw [hL]; exact pick_has hx trivial
  · refine main c hc fun x hx hR => ?_
    rw [hL]; exact pick_has hx hR
theorem left_g {Y : MY} {b : Nat} (hns : Y.ns ≤ 5) (hne : truths (picked Y (offN (2 ^ Y.ns - 1) b)) ≠ []) : ¬ SL (pickL (Bit b) Y.ns) (leaveRun Y) := by
  intro hs
  obtain ⟨c, hc⟩ := List.exists_mem_of_ne_nil _ hne
  have hce := (picked_truth.1 hc).1
  have hr := (left_truth hns hce).1 hc
  have hno := (leave_is (Y := Y)).2 c hce
  obtain ⟨h1, h2⟩ := pick_sub (p := fun j => ¬ RightB Y c j) (q := Bit b) Y.ns fun j hj hR => by
    apply Classical.byContradiction
    intro hb
    exact hR (hr j hj hb)
  by_cases e : (pickL (fun j => ¬ RightB Y c j) Y.ns).length = (pickL (Bit b) Y.ns).length
  · rw [h2 e] at hno; exact hno hs
  · apply hno
    rcases hs with hs | hs
    · exact .inl (by omega)
    · exact .inl (by omega)
end Go.Vm.Vat

namespace Go.Vm.Vat
open Go.Proofs
set_option linter.unusedSimpArgs false
set_option linter.unusedVariables false
set_option maxRecDepth 10000
variable {n : Nat} {h : AHeap}

theorem leave_at {Y : MY} {i : Nat} (hi : i < (leaveRun Y).length) : ∃ j : Nat, j < Y.ns ∧ atL (leaveRun Y) i = (j : Int) := by
  rcases (leave_is (Y := Y)).1 with hL | ⟨c, _, hL⟩
  · rw [hL] at hi ⊢; obtain ⟨j, h1, h2, _⟩ := pick_at hi; exact ⟨j, h1, h2⟩
  · rw [hL] at hi ⊢; obtain ⟨j, h1, h2, _⟩ := pick_at hi; exact ⟨j, h1, h2⟩
theorem leave_up {Y : MY} {i : Nat} (hi : i + 1 < (leaveRun Y).length) : atL (leaveRun Y) i < atL (leaveRun Y) (i + 1) := by
  rcases (leave_is (Y := Y)).1 with hL | ⟨c, _, hL⟩
  · rw [hL] at hi ⊢; exact pick_up hi
  · rw [hL] at hi ⊢; exact pick_up hi
def s21 : SCode := (.seq (.ops [⟨(some 2), none, .box (T 0)⟩, ⟨(some 4), none, .mov (.const (.bool false))⟩]) (.seq (.seq (.ops [⟨(some 14), none, .loadN 3 (T 2)⟩, ⟨(some 15), none, .call (.func 62) [(T 14)]⟩, ⟨(some 16), none, .not (T 15)⟩]) (.cond (T 16) (.seq (.ops [⟨(some 17), none, .call (.func 24) []⟩, ⟨(some 4), none, .mov (T 17)⟩]) .ret) .skip)) (.seq (.ops [⟨(some 19), none, .loadN 3 (T 2)⟩, ⟨(some 20), none, .call (.func 26) [(T 19)]⟩, ⟨(some 21), none, .call (.func 54) [(T 20)]⟩, ⟨(some 18), none, .mov (T 21)⟩, ⟨(some 22), none, .extract 0 (T 18)⟩, ⟨(some 23), none, .extract 1 (T 18)⟩, ⟨(some 5), none, .mov (T 22)⟩, ⟨(some 6), none, .mov (T 23)⟩]) (.seq (.seq (.ops [⟨(some 24), none, .mov (T 6)⟩, ⟨(some 25), none, .int2 .neq (T 24) (.const (.int .i64 (0)))⟩]) (.cond (T 25) (.seq (.ops [⟨(some 4), none, .mov (.const (.bool false))⟩]) .ret) .skip)) (.seq (.ops [⟨(some 7), none, .mov (.const (.int .i64 (0)))⟩]) (.seq (.seq (.ops [⟨(some 8), none, .mov (.const (.int .i64 (0)))⟩]) (.block 0 (.loop (.seq (.seq (.ops [⟨(some 26), none, .mov (T 8)⟩, ⟨(some 27), none, .mov (T 5)⟩, ⟨(some 28), none, .len (T 27)⟩, ⟨(some 29), none, .int2 .lss (T 26) (T 28)⟩]) (.cond (T 29) .skip (.exit 0))) (.seq (.block 1 (.seq (.seq (.draw [⟨.free, ⟨(some 32), none, .mov (T 5)⟩⟩, ⟨.free, ⟨(some 33), none, .mov (T 8)⟩⟩, ⟨.free, ⟨(some 34), none, .idxSl 1 (T 32) (T 33)⟩⟩, ⟨.rd1, ⟨(some 35), none, .load1 (T 34)⟩⟩, ⟨.free, ⟨(some 36), none, .fieldAddr 2 (T 2)⟩⟩, ⟨.rd1, ⟨(some 37), none, .load1 (T 36)⟩⟩, ⟨.free, ⟨(some 38), none, .len (T 37)⟩⟩, ⟨.free, ⟨(some 39), none, .int2 .sub (T 38) (.const (.int .i64 (1)))⟩⟩, ⟨.up, ⟨(some 40), none, .call (.func 42) [(T 35), (.const (.int .i64 (0))), (T 39)]⟩⟩, ⟨.free, ⟨(some 41), none, .not (T 40)⟩⟩, ⟨.free, ⟨(some 42), none, .mov (T 41)⟩⟩, ⟨.free, ⟨(some 43), (some (42, false)), .mov (T 8)⟩⟩, ⟨.free, ⟨(some 44), (some (42, false)), .int2 .gtr (T 43) (.const (.int .i64 (0)))⟩⟩, ⟨.free, ⟨(some 45), (some (42, false)), .mov (T 44)⟩⟩, ⟨.free, ⟨(some 46), (some (45, true)), .mov (T 5)⟩⟩, ⟨.free, ⟨(some 47), (some (45, true)), .mov (T 8)⟩⟩, ⟨.free, ⟨(some 48), (some (45, true)), .idxSl 1 (T 46) (T 47)⟩⟩, ⟨.rd1, ⟨(some 49), (some (45, true)), .load1 (T 48)⟩⟩, ⟨.free, ⟨(some 50), (some (45, true)), .mov (T 5)⟩⟩, ⟨.free, ⟨(some 51), (some (45, true)), .mov (T 8)⟩⟩, ⟨.free, ⟨(some 52), (some (45, true)), .int2 .sub (T 51) (.const (.int .i64 (1)))⟩⟩, ⟨.free, ⟨(some 53), (some (45, true)), .idxSl 1 (T 50) (T 52)⟩⟩, ⟨.rd1, ⟨(some 54), (some (45, true)), .load1 (T 53)⟩⟩, ⟨.free, ⟨(some 55), (some (45, true)), .int2 .leq (T 49) (T 54)⟩⟩, ⟨.free, ⟨(some 56), (some (42, false)), .pick (T 45) (T 55) (.const (.bool false))⟩⟩, ⟨.free, ⟨(some 57), none, .pick (T 42) (.const (.bool true)) (T 56)⟩⟩]) (.cond (T 57) (.seq (.ops [⟨(some 4), none, .mov (.const (.bool false))⟩]) .ret) .skip)) (.ops [⟨(some 58), none, .mov (T 7)⟩, ⟨(some 59), none, .mov (T 5)⟩, ⟨(some 60), none, .mov (T 8)⟩, ⟨(some 61), none, .idxSl 1 (T 59) (T 60)⟩, ⟨(some 62), none, .load1 (T 61)⟩, ⟨(some 63), none, .plain (.convert 3 104 (T 62)) 104⟩, ⟨(some 64), none, .plain (.binOp .shl 3 (.const (.int .i64 (1))) (T 63) 104) 3⟩, ⟨(some 65), none, .plain (.binOp .or 3 (T 58) (T 64) 3) 3⟩, ⟨(some 7), none, .mov (T 65)⟩]))) (.ops [⟨(some 30), none, .mov (T 8)⟩, ⟨(some 31), none, .int2 .add (T 30) (.const (.int .i64 (1)))⟩, ⟨(some 8), none, .mov (T 31)⟩])))))) (.seq (.ops [⟨(some 66), none, .mov (T 1)⟩, ⟨(some 67), none, .plain (.convert 5 3 (T 66)) 3⟩, ⟨(some 68), none, .loadN 3 (T 2)⟩, ⟨(some 69), none, .call (.func 70) [(T 68)]⟩, ⟨(some 70), none, .plain (.binOp .and 3 (T 67) (T 69) 3) 3⟩, ⟨(some 9), none, .mov (T 70)⟩]) (.seq (.draw [⟨.rd, ⟨(some 72), none, .loadN 3 (T 2)⟩⟩, ⟨.rd1, ⟨(some 73), none, .loadN 3 (T 2)⟩⟩, ⟨.up, ⟨(some 74), none, .call (.func 70) [(T 73)]⟩⟩, ⟨.free, ⟨(some 75), none, .mov (T 7)⟩⟩, ⟨.free, ⟨(some 76), none, .plain (.binOp .andNot 3 (T 74) (T 75) 3) 3⟩⟩, ⟨.any, ⟨(some 77), none, .call (.func 69) [(T 72), (T 76)]⟩⟩, ⟨.any, ⟨(some 78), none, .call (.func 26) [(T 77)]⟩⟩, ⟨.any, ⟨(some 79), none, .call (.func 34) [(T 78)]⟩⟩, ⟨.free, ⟨(some 71), none, .mov (T 79)⟩⟩, ⟨.free, ⟨(some 80), none, .extract 0 (T 71)⟩⟩, ⟨.free, ⟨(some 81), none, .extract 1 (T 71)⟩⟩, ⟨.free, ⟨(some 10), none, .mov (T 80)⟩⟩, ⟨.free, ⟨(some 11), none, .mov (T 81)⟩⟩]) (.seq (.draw [⟨.rd, ⟨(some 83), none, .loadN 3 (T 2)⟩⟩, ⟨.rd1, ⟨(some 84), none, .loadN 3 (T 2)⟩⟩, ⟨.up, ⟨(some 85), none, .call (.func 70) [(T 84)]⟩⟩, ⟨.free, ⟨(some 86), none, .mov (T 9)⟩⟩, ⟨.free, ⟨(some 87), none, .plain (.binOp .andNot 3 (T 85) (T 86) 3) 3⟩⟩, ⟨.any, ⟨(some 88), none, .call (.func 69) [(T 83), (T 87)]⟩⟩, ⟨.any, ⟨(some 89), none, .call (.func 26) [(T 88)]⟩⟩, ⟨.any, ⟨(some 90), none, .call (.func 34) [(T 89)]⟩⟩, ⟨.free, ⟨(some 82), none, .mov (T 90)⟩⟩, ⟨.free, ⟨(some 91), none, .extract 0 (T 82)⟩⟩, ⟨.free, ⟨(some 92), none, .extract 1 (T 82)⟩⟩, ⟨.free, ⟨(some 12), none, .mov (T 91)⟩⟩, ⟨.free, ⟨(some 13), none, .mov (T 92)⟩⟩]) (.seq (.ops [⟨(some 93), none, .mov (T 11)⟩, ⟨(some 94), none, .int2 .eql (T 93) (.const (.int .i64 (0)))⟩, ⟨(some 95), none, .mov (T 94)⟩, ⟨(some 96), (some (95, true)), .mov (T 13)⟩, ⟨(some 97), (some (95, true)), .int2 .eql (T 96) (.const (.int .i64 (11)))⟩, ⟨(some 98), (some (95, true)), .mov (T 97)⟩, ⟨(some 99), (some (98, false)), .mov (T 13)⟩, ⟨(some 100), (some (98, false)), .int2 .eql (T 99) (.const (.int .i64 (0)))⟩, ⟨(some 101), (some (98, false)), .mov (T 100)⟩, ⟨(some 102), (some (101, true)), .mov (T 9)⟩, ⟨(some 103), (some (101, true)), .call (.func 72) [(T 102)]⟩, ⟨(some 104), (some (101, true)), .mov (T 5)⟩, ⟨(some 105), (some (101, true)), .call (.func 71) [(T 103), (T 104)]⟩, ⟨(some 106), (some (101, true)), .not (T 105)⟩, ⟨(some 107), (some (98, false)), .pick (T 101) (T 106) (.const (.bool false))⟩, ⟨(some 108), (some (95, true)), .pick (T 98) (.const (.bool true)) (T 107)⟩, ⟨(some 109), none, .pick (T 95) (T 108) (.const (.bool false))⟩, ⟨(some 110), none, .mov (T 109)⟩, ⟨(some 111), (some (110, true)), .call (.func 24) []⟩, ⟨(some 112), none, .pick (T 110) (T 111) (.const (.bool false))⟩, ⟨(some 4), none, .mov (T 112)⟩]) .ret))))))))))
theorem fok21 : FnOk Try.prog 21 113 s21 [.tmp 4] := ⟨Try.f21, _, Try.func21, rfl, Try.ntmps21, by kernel_rfl, by kernel_rfl⟩
theorem leftLaw_m (hn : 11100 ≤ n) (hr : h.next + 3000000 < far) (hfl : h.floor ≤ h.next) {fv vv sv : Value} {Y : MY} (hy : YardR h fv vv sv Y) (hT : Thin Y) (hf : faultN Y = 0) {a1 : Nat} (w1 : a1 < 256) :
    ∃ v h', call n (.func (.func 21) #[] #[]) [.agg ⟨[fv, vv, sv]⟩, .int .u8 (a1 : Int)] h = some (v, h') ∧ v = .bool true := by
  obtain ⟨n, rfl⟩ : ∃ p, n = p + 1 := ⟨n - 1, by omega⟩
  refine call_any0 fok21 rfl rfl (by simp) ?_
  simp only [s21, W_seq, W_ops]
  refine ops_box (cs := [fv, vv, sv]) (by omega) rfl hy.one fun g1 hx1 => ?_
  have n1 := hx1.next
  have f1 := hx1.floor
  have hy1 := hy.mono hx1.sub
  have x1 := hx1.row.whole (n := 3) rfl
  have hrd := ready_c (n := n) (h := g1) (by omega) (by omega) hy1
  have hrd' : decide (Thin Y ∧ faultN Y = 0) = true := decide_eq_true ⟨hT, hf⟩
  rw [hrd'] at hrd
  have hG := good_of hf
  obtain ⟨z5, z6, z7⟩ := hG.sz
  obtain ⟨F1, V1, S1, g2, ey2, hy2, m2⟩ := yard_c (n := n) (h := g1) (by omega) (by omega) (by omega) hy1 hT
  have n2 := m2.next
  have u2 := m2.up
  have f2 := m2.floor
  obtain ⟨lv, g3, el, m3, hL⟩ := leave_c (n := n) (h := g2) (by omega) (by omega) (by omega) hy2 hT
  have n3 := m3.next
  have u3 := m3.up
  have f3 := m3.floor
  rcases hL with ⟨h0, _⟩ | ⟨_, l, rfl, hl, hl5⟩
  · exact absurd hf h0
  have s3 : Sub All g1 g3 := m2.sub.trans m3.sub
  have r3 := hx1.row.mono s3
  have x3 := r3.whole (n := 3) rfl
  have hy3 := hy1.mono s3
  simp only [rn0, rn1, rn2, rn3, rn4, rn5, rn6, rn7, rn8, if_true, if_false, Nat.le_refl, true_and, and_true, decide_true, decide_false, Bool.not_true, Bool.not_false, reduceIte, Nat.reduceEqDiff, Nat.reduceAdd, Nat.reduceMul, Nat.reduceSub, Nat.reduceLeDiff, Nat.reduceLT, Int.reduceEq, x1, hrd, ey2, el, ex0, ex1]
  obtain ⟨L, hLL⟩ : ∃ L, L = leaveRun Y := ⟨_, rfl⟩
  have hat : ∀ i, i < L.length → ∃ j : Nat, j < Y.ns ∧ atL L i = (j : Int) := fun i hi => by rw [hLL] at hi ⊢; exact leave_at hi
  have hupL : ∀ i, i + 1 < L.length → atL L i < atL L (i + 1) := fun i hi => by rw [hLL] at hi ⊢; exact leave_up hi
  rw [← hLL] at hl hl5
  have hblt : ∀ k, k ≤ L.length → bitsOf L k < 2 ^ 10 := fun k hk => bitsOf_lt fun i hi => by obtain ⟨j, j1, j2⟩ := hat i (by omega); rw [j2]; simp; omega
  have hwn : wrapF .i64 ((Y.ns : Int) - 1) = (Y.ns : Int) - 1 := wrap_in (by omega) (by omega)
  refine W_loop L.length (fun k f g ms => g = g3 ∧ ms = [] ∧ f 1 = .int .u8 (a1 : Int) ∧ f 2 = .pointer (some ⟨h.next, 0, none⟩) ∧ f 5 = l ∧ f 7 = .int .i64 ((bitsOf L k : Nat) : Int) ∧ f 8 = .int .i64 (k : Int)) (by simp; omega) ?_ ?_ ?_
  · simp only [rn0, rn1, rn2, rn3, rn4, rn5, rn6, rn7, rn8, if_true, if_false, Nat.le_refl, true_and, and_true, decide_true, decide_false, Bool.not_true, Bool.not_false, reduceIte, Nat.reduceEqDiff, Nat.reduceAdd, Nat.reduceMul, Nat.reduceSub, Nat.reduceLeDiff, Nat.reduceLT]
    first | done | rfl | exact ⟨rfl, rfl⟩
  · rintro k f g ms hk ⟨rfl, rfl, p1, p2, p5, p7, p8⟩
    have hk' : (k : Int) < (L.length : Int) := by omega
    have hw : wrapF .i64 ((k : Int) + 1) = ((k + 1 : Nat) : Int) := by rw [wrap_in (by omega) (by omega)]; rfl
    obtain ⟨j, j1, j2⟩ := hat k hk
    have lk := Cells.ld hl hk Nat.zero_lt_one
    rw [j2] at lk
    have hin := in_c (n := n) (h := g) (by omega) (j : Int) 0 ((Y.ns : Int) - 1)
    have hin' : decide (0 ≤ (j : Int) ∧ (j : Int) ≤ (Y.ns : Int) - 1) = true := decide_eq_true (by omega)
    rw [hin'] at hin
    have hbk := hblt k (by omega)
    have hb2 : bitsOf L k ||| 2 ^ j = bitsOf L (k + 1) := by rw [bitsOf, j2]; simp
    have h2j : (2 ^ j : Nat) < 2 ^ 62 := Nat.pow_lt_pow_right (by omega) (by omega)
    have hor : ∀ other, run2 orF other (.int .i64 ((bitsOf L k : Nat) : Int)) (.int .i64 ((2 ^ j : Nat) : Int)) g = some (.int .i64 ((bitsOf L (k + 1) : Nat) : Int), g) := fun other => by rw [← hb2]; exact r_or (by omega) h2j
    simp only [rn0, rn1, rn2, rn3, rn4, rn5, rn6, rn7, rn8, if_true, if_false, Nat.le_refl, true_and, and_true, decide_true, decide_false, Bool.not_true, Bool.not_false, reduceIte, Nat.reduceEqDiff, Nat.reduceAdd, Nat.reduceMul, Nat.reduceSub, Nat.reduceLeDiff, Nat.reduceLT, p1, p2, p5, p7, p8, Cells.len hl, hk']
    refine W_draw All ?_
    by_cases hk0 : k = 0
    · have hk0' : ¬ (0 : Int) < (k : Int) := by omega
      simp only [rn0, rn1, rn2, rn3, rn4, rn5, rn6, rn7, rn8, if_true, if_false, Nat.le_refl, true_and, and_true, decide_true, decide_false, Bool.not_true, Bool.not_false, reduceIte, Nat.reduceEqDiff, Nat.reduceAdd, Nat.reduceMul, Nat.reduceSub, Nat.reduceLeDiff, Nat.reduceLT, p1, p2, p5, p7, p8, d_guard, dg_tt, dg_tf, dg_ft, dg_ff, r3.ld, Nat.zero_add, List.getElem?_cons_zero, List.getElem?_cons_succ, Cells.idx hl hk, lk, Cells.len hy3.s, hwn, hin, hk0', p_uint, r_conv (k := j) (by omega), r_shl (k := j) (by omega), p_or, hor, valN_tmp, valN_const, hw]
    · have hk0' : (0 : Int) < (k : Int) := by omega
      obtain ⟨i, hi⟩ : ∃ i, k = i + 1 := ⟨k - 1, by omega⟩
      have hw1 : wrapF .i64 ((k : Int) - 1) = (i : Int) := by rw [wrap_in (by omega) (by omega)]; omega
      have li := Cells.ld hl (k := i) (by omega) Nat.zero_lt_one
      have hlt := hupL i (by omega)
      rw [← hi, j2] at hlt
      have hle : ¬ (j : Int) ≤ atL L i := by omega
      simp only [rn0, rn1, rn2, rn3, rn4, rn5, rn6, rn7, rn8, if_true, if_false, Nat.le_refl, true_and, and_true, decide_true, decide_false, Bool.not_true, Bool.not_false, reduceIte, Nat.reduceEqDiff, Nat.reduceAdd, Nat.reduceMul, Nat.reduceSub, Nat.reduceLeDiff, Nat.reduceLT, p1, p2, p5, p7, p8, d_guard, dg_tt, dg_tf, dg_ft, dg_ff, r3.ld, Nat.zero_add, List.getElem?_cons_zero, List.getElem?_cons_succ, Cells.idx hl hk, lk, Cells.len hy3.s, hwn, hin, hk0', hw1, Cells.idx hl (k := i) (by omega), li, hle, p_uint, r_conv (k := j) (by omega), r_shl (k := j) (by omega), p_or, hor, valN_tmp, valN_const, hw]
  · rintro f g ms ⟨rfl, rfl, p1, p2, p5, p7, p8⟩
    have hbl := hblt L.length (Nat.le_refl _)
    have efull := full_c (n := n) (h := g) (by omega) (by omega) hy3 z7
    have hp : (2 ^ Y.ns : Nat) ≤ 2 ^ 5 := Nat.pow_le_pow_right (by omega) z7
    obtain ⟨Fu, hFu⟩ : ∃ F, F = 2 ^ Y.ns - 1 := ⟨_, rfl⟩
    have hFl : Fu < 2 ^ 62 := by omega
    obtain ⟨nb, hnb⟩ : ∃ b, b = a1 &&& Fu := ⟨_, rfl⟩
    have hnl : nb < 2 ^ Y.ns := by rw [hnb, hFu]; exact Nat.lt_of_le_of_lt Nat.and_le_right (by have := Nat.pow_pos (n := Y.ns) (show 0 < 2 by omega); omega)
    have hand : ∀ other g, run2 andF other (.int .i64 (a1 : Int)) (.int .i64 (Fu : Int)) g = some (.int .i64 (nb : Int), g) := fun other g => by rw [hnb]; exact r_and (by omega) hFl
    obtain ⟨Bv, hBv⟩ : ∃ b, b = bitsOf L L.length := ⟨_, rfl⟩
    rw [← hBv] at p7
    rw [← hFu] at efull
    obtain ⟨S4, g4, es4, hy4, m4⟩ := some_c (n := n) (h := g) (bits := offN Fu Bv) (by omega) (by omega) (by omega) hy3 z7
    have n4 := m4.next
    have u4' := m4.up
    have f4 := m4.floor
    obtain ⟨F5, V5, S5, g5, ey5, hy5, m5⟩ := yard_c (n := n) (h := g4) (by omega) (by omega) (by omega) hy4 (picked_thin hT)
    have n5 := m5.next
    have u5 := m5.up
    have f5 := m5.floor
    obtain ⟨bv, g6, eb6, m6, hb6⟩ := boundsV_c (n := n) (h := g5) (by omega) (by omega) (by omega) hy5 (picked_thin hT)
    have n6 := m6.next
    have u6 := m6.up
    have f6 := m6.floor
    have s6 : Sub All g g6 := m4.sub.trans (m5.sub.trans m6.sub)
    have r6 := r3.mono s6
    have x6 := r6.whole (n := 3) rfl
    have hy6 := hy3.mono s6
    have efull6 := full_c (n := n) (h := g6) (by omega) (by omega) hy6 z7
    rw [← hFu] at efull6
    obtain ⟨S7, g7, es7, hy7, m7⟩ := some_c (n := n) (h := g6) (bits := offN Fu nb) (by omega) (by omega) (by omega) hy6 z7
    have n7 := m7.next
    have u7 := m7.up
    have f7 := m7.floor
    obtain ⟨F8, V8, S8, g8, ey8, hy8, m8⟩ := yard_c (n := n) (h := g7) (by omega) (by omega) (by omega) hy7 (picked_thin hT)
    have n8 := m8.next
    have u8 := m8.up
    have f8 := m8.floor
    obtain ⟨bw, g9, eb9, m9, hb9⟩ := boundsV_c (n := n) (h := g8) (by omega) (by omega) (by omega) hy8 (picked_thin hT)
    have n9 := m9.next
    have u9 := m9.up
    have f9 := m9.floor
    have t1 : truths (picked Y (offN Fu Bv)) ≠ [] := by rw [hFu, hBv, hLL]; exact left_f hG.f z7
    rcases hb6 with ⟨h0, _⟩ | ⟨_, h0, _⟩ | ⟨_, _, bl, rfl, hbl6⟩
    · exact absurd (picked_fault hf) h0
    · exact absurd h0 t1
    simp only [rn0, rn1, rn2, rn3, rn4, rn5, rn6, rn7, rn8, if_true, if_false, Nat.le_refl, true_and, and_true, decide_true, decide_false, Bool.not_true, Bool.not_false, reduceIte, Nat.reduceEqDiff, Nat.reduceAdd, Nat.reduceMul, Nat.reduceSub, Nat.reduceLeDiff, Nat.reduceLT, p1, p2, p5, p7, p8, Cells.len hl, Int.lt_irrefl, p_conv8, r_8 w1, valN_tmp, valN_const, Nat.reduceLT, x3, efull, p_and, hand]
    refine W_draw All ?_
    simp only [rn0, rn1, rn2, rn3, rn4, rn5, rn6, rn7, rn8, if_true, if_false, Nat.le_refl, true_and, and_true, decide_true, decide_false, Bool.not_true, Bool.not_false, reduceIte, Nat.reduceEqDiff, Nat.reduceAdd, Nat.reduceMul, Nat.reduceSub, Nat.reduceLeDiff, Nat.reduceLT, p1, p2, p5, p7, p8, x3, hy3.self, efull, p_andNot, r_andNot (a := Fu) (b := Bv) hFl, valN_tmp, valN_const, Nat.reduceLT, es4, ey5, eb6, ex0, ex1]
    refine ⟨u4', u5, u6, ?_⟩
    refine W_draw All ?_
    rcases hb9 with ⟨h0, _⟩ | ⟨_, _, rfl⟩ | ⟨_, h0, bq, rfl, _⟩
    · exact absurd (picked_fault hf) h0
    · have haw := awake_c (n := n) (h := g9) (by omega)
      simp only [rn0, rn1, rn2, rn3, rn4, rn5, rn6, rn7, rn8, if_true, if_false, Nat.le_refl, true_and, and_true, decide_true, decide_false, Bool.not_true, Bool.not_false, reduceIte, Nat.reduceEqDiff, Nat.reduceAdd, Nat.reduceMul, Nat.reduceSub, Nat.reduceLeDiff, Nat.reduceLT, p1, p2, p5, p7, p8, x6, hy6.self, efull6, p_andNot, r_andNot (a := Fu) (b := nb) hFl, valN_tmp, valN_const, Nat.reduceLT, es7, ey8, eb9, ex0, ex1, Int.reduceEq, g_un, haw]
      exact ⟨u7, u8, u9⟩
    · obtain ⟨bs, g10, eb10, hb10, ho10, n10, u10⟩ := bits_c (n := n) (h := g9) (b := nb) (B := Y.ns) (by omega) (by omega) (by omega) hnl (by omega)
      have s10 : Sub All g g10 := s6.trans (m7.sub.trans (m8.sub.trans (m9.sub.trans (AHeap.subOf ho10))))
      have hl10 := Cells.mono hl s10
      have hpl := pick_len (p := Bit nb) Y.ns
      have esh := shorter_c (n := n) (h := g10) (by omega) (by omega) (by omega) hb10 hl10
      have hsh : decide (Shortlex (atL (pickL (Bit nb) Y.ns)) (pickL (Bit nb) Y.ns).length (atL L) L.length) = false := decide_eq_false (by rw [hFu] at h0; rw [hLL]; exact left_g z7 h0)
      rw [hsh] at esh
      have haw := awake_c (n := n) (h := g10) (by omega)
      simp only [rn0, rn1, rn2, rn3, rn4, rn5, rn6, rn7, rn8, if_true, if_false, Nat.le_refl, true_and, and_true, decide_true, decide_false, Bool.not_true, Bool.not_false, reduceIte, Nat.reduceEqDiff, Nat.reduceAdd, Nat.reduceMul, Nat.reduceSub, Nat.reduceLeDiff, Nat.reduceLT, p1, p2, p5, p7, p8, x6, hy6.self, efull6, p_andNot, r_andNot (a := Fu) (b := nb) hFl, valN_tmp, valN_const, Nat.reduceLT, es7, ey8, eb9, ex0, ex1, Int.reduceEq, g_un, eb10, esh, haw]
      exact ⟨u7, u8, u9⟩
theorem leftLaw_c (hn : 11200 ≤ n) (hr : h.next + 3000000 < far) (hfl : h.floor ≤ h.next) {fv vv sv : Value} {Y : MY} (hy : YardR h fv vv sv Y) (a1 : Int) (wf1 : (Lit.int .u8 a1).wf = true) :
    ∃ v h', call n (.func (.func 21) #[] #[]) [.agg ⟨[fv, vv, sv]⟩, .int .u8 a1] h = some (v, h') ∧ v = .bool true := by
  obtain ⟨k1, rfl, h1⟩ := wf8 wf1
  by_cases c1 : Thin Y ∧ faultN Y = 0
  · exact leftLaw_m (by omega) hr hfl hy c1.1 c1.2 h1
  obtain ⟨n, rfl⟩ : ∃ p, n = p + 1 := ⟨n - 1, by omega⟩
  refine call_any0 fok21 rfl rfl (by simp) ?_
  simp only [s21, W_seq, W_ops]
  refine ops_box (cs := [fv, vv, sv]) (by omega) rfl hy.one fun g1 hx1 => ?_
  have n1 := hx1.next
  have hy1 := hy.mono hx1.sub
  have x1 := hx1.row.whole (n := 3) rfl
  have hrd := ready_c (n := n) (h := g1) (by omega) (by omega) hy1
  have haw := awake_c (n := n) (h := g1) (by omega)
  rw [decide_eq_false c1] at hrd
  simp only [rn0, rn1, rn2, rn3, rn4, rn5, rn6, rn7, rn8, if_true, if_false, Nat.le_refl, true_and, and_true, decide_true, decide_false, Bool.not_true, Bool.not_false, reduceIte, Nat.reduceEqDiff, Nat.reduceAdd, Nat.reduceMul, Nat.reduceSub, Nat.reduceLeDiff, Nat.reduceLT, x1, hrd, haw]
end Go.Vm.Vat

namespace Go.Vm.Vat
open Go.Proofs
set_option linter.unusedSimpArgs false
set_option linter.unusedVariables false
set_option maxRecDepth 10000
variable {n : Nat} {h : AHeap}

/-- which samples are right with the m-th blues, as bits -/
noncomputable def allAt (Y : MY) (m : Nat) : Int := ((rightN Y (nthB Y.lo Y.hi Y.nf m) Y.ns : Nat) : Int)
theorem rightN_test {Y : MY} {b : Nat → Int} {x : Nat} : ∀ {i : Nat}, (rightN Y b i).testBit x = true ↔ x < i ∧ RightB Y b x
  | 0 => by simp [rightN]
  | i + 1 => by
    have ih := rightN_test (Y := Y) (b := b) (x := x) (i := i)
    by_cases hR : RightB Y b i
    · rw [rightN, if_pos hR, Nat.testBit_or, Nat.testBit_two_pow, Bool.or_eq_true, ih, decide_eq_true_eq]
      constructor
      · rintro (⟨h1, h2⟩ | rfl)
        · exact ⟨by omega, h2⟩
        · exact ⟨by omega, hR⟩
      · rintro ⟨h1, h2⟩
        by_cases e : x = i
        · exact .inr e.symm
        · exact .inl ⟨by omega, h2⟩
    · rw [rightN, if_neg hR, ih]
      constructor
      · rintro ⟨h1, h2⟩; exact ⟨by omega, h2⟩
      · rintro ⟨h1, h2⟩
        refine ⟨?_, h2⟩
        by_cases e : x = i
        · subst e; exact absurd h2 hR
        · omega
/-- some blues with which all these samples are right -/
def CanB (Y : MY) (s : Nat) : Prop := ∃ c, c ∈ enumB Y.lo Y.hi Y.nf 0 (fun _ => 0) ∧ ∀ x, x < Y.ns → Bit s x → RightB Y c x
noncomputable instance (Y : MY) (s : Nat) : Decidable (CanB Y s) := Classical.propDecidable _
def s55 : SCode := (.seq (.ops [⟨(some 1), none, .box (T 0)⟩, ⟨(some 2), none, .mov (.const (.slice none 0 0))⟩]) (.seq (.ops [⟨(some 3), none, .mov (.const (.slice none 0 0))⟩]) (.seq (.seq (.ops [⟨(some 4), none, .mov (.const (.int .i64 (0)))⟩]) (.block 0 (.loop (.seq (.seq (.ops [⟨(some 5), none, .mov (T 4)⟩, ⟨(some 6), none, .loadN 3 (T 1)⟩, ⟨(some 7), none, .call (.func 108) [(T 6)]⟩, ⟨(some 8), none, .int2 .lss (T 5) (T 7)⟩]) (.cond (T 8) .skip (.exit 0))) (.seq (.block 1 (.draw [⟨.free, ⟨(some 11), none, .mov (T 3)⟩⟩, ⟨.rd, ⟨(some 12), none, .loadN 3 (T 1)⟩⟩, ⟨.rd1, ⟨(some 13), none, .loadN 3 (T 1)⟩⟩, ⟨.free, ⟨(some 14), none, .mov (T 4)⟩⟩, ⟨.up, ⟨(some 15), none, .call (.func 109) [(T 13), (T 14)]⟩⟩, ⟨.any, ⟨(some 16), none, .call (.func 88) [(T 12), (T 15)]⟩⟩, ⟨.any, ⟨(some 17), none, .bslice 1 1 [(.int .i64 (0))] [0] [(T 16)]⟩⟩, ⟨.any, ⟨(some 18), none, .append 1 8 (T 11) (T 17)⟩⟩, ⟨.free, ⟨(some 3), none, .mov (T 18)⟩⟩])) (.ops [⟨(some 9), none, .mov (T 4)⟩, ⟨(some 10), none, .int2 .add (T 9) (.const (.int .i64 (1)))⟩, ⟨(some 4), none, .mov (T 10)⟩])))))) (.seq (.ops [⟨(some 19), none, .mov (T 3)⟩, ⟨(some 2), none, .mov (T 19)⟩]) .ret))))
theorem fok55 : FnOk Try.prog 55 20 s55 [.tmp 2] := ⟨Try.f55, _, Try.func55, rfl, Try.ntmps55, by kernel_rfl, by kernel_rfl⟩
theorem all_c (hn : 10020 ≤ n) (hr : h.next + 300000 < far) (hfl : h.floor ≤ h.next) {fv vv sv : Value} {Y : MY} (hy : YardR h fv vv sv Y) (hf : faultN Y = 0) :
    ∃ v h', call n (.func (.func 55) #[] #[]) [.agg ⟨[fv, vv, sv]⟩] h = some (v, h') ∧ Ints h' v (manyN Y.lo Y.hi Y.nf).toNat (allAt Y) ∧ Made h h' 200000 := by
  obtain ⟨n, rfl⟩ : ∃ p, n = p + 1 := ⟨n - 1, by omega⟩
  obtain ⟨hG, hsz⟩ := fault_size hf
  obtain ⟨z1, z2, z3⟩ := hG.sz
  have hF : ∀ k, k < Y.nf → 0 ≤ Y.lo k ∧ Y.lo k ≤ Y.hi k ∧ Y.hi k ≤ 20 := hG.f
  have hmany := sizeN_many z1 hF Y.nf (Nat.le_refl _)
  obtain ⟨b1, _⟩ := sizeN_bound z1 hF Y.nf (Nat.le_refl _)
  obtain ⟨M, hM⟩ : ∃ M : Nat, manyN Y.lo Y.hi Y.nf = M := ⟨(manyN Y.lo Y.hi Y.nf).toNat, by omega⟩
  have hM2 : M ≤ 2000 := by omega
  rw [hM, Int.toNat_natCast]
  refine call_any0 fok55 rfl rfl (by simp) ?_
  simp only [s55, W_seq, W_ops]
  refine ops_box (cs := [fv, vv, sv]) (by omega) rfl hy.one fun g1 hx1 => ?_
  have n1 := hx1.next
  have f1' := hx1.floor
  simp only [rn0, rn1, rn2, rn3, rn4, rn5, rn6, rn7, rn8, if_true, if_false, Nat.le_refl, true_and, and_true, decide_true, decide_false, Bool.not_true, Bool.not_false, reduceIte, Nat.reduceEqDiff, Nat.reduceAdd, Nat.reduceMul, Nat.reduceSub, Nat.reduceLeDiff, Nat.reduceLT]
  refine W_loop M (fun k f g ms => (∃ v, Sub All g1 g ∧ g.floor = g1.floor ∧ g1.next ≤ g.next ∧ g.next ≤ g1.next + 30 * k ∧ GrowC g1.next g v 1 k (fun i _ => .int .i64 (allAt Y i)) ∧ f 3 = v) ∧ ms = [] ∧ f 1 = .pointer (some ⟨h.next, 0, none⟩) ∧ f 4 = .int .i64 (k : Int)) (by simp; omega) ?_ ?_ ?_
  · simp only [rn0, rn1, rn2, rn3, rn4, rn5, rn6, rn7, rn8, if_true, if_false, Nat.le_refl, true_and, and_true, decide_true, decide_false, Bool.not_true, Bool.not_false, reduceIte, Nat.reduceEqDiff, Nat.reduceAdd, Nat.reduceMul, Nat.reduceSub, Nat.reduceLeDiff, Nat.reduceLT]
    exact ⟨⟨_, by omega, .nil, rfl⟩, rfl⟩
  · rintro k f g ms hk ⟨⟨v, hs, hfg, hup, hnx, gv, f3⟩, rfl, f1, f4⟩
    have hk' : (k : Int) < (M : Int) := by omega
    have hw : wrapF .i64 ((k : Int) + 1) = ((k + 1 : Nat) : Int) := by rw [wrap_in (by omega) (by omega)]; rfl
    have hyg := (hy.mono hx1.sub).mono hs
    have w1 := (hx1.row.mono hs).whole (n := 3) rfl
    have em := many_c (n := n) (h := g) (by omega) (by omega) hyg (by omega) hF
    rw [hM] at em
    obtain ⟨l, g2, e2, hl2, m2, hl1, hlb⟩ := nth_c (n := n) (h := g) (m := k) (by omega) (by omega) (by omega) hyg z1 hG.f (by omega)
    have n2 := m2.next
    have u2 := m2.up
    have f2 := m2.floor
    have hyg2 := hyg.mono m2.sub
    have er := right_c (n := n) (h := g2) (b := nthB Y.lo Y.hi Y.nf k) (by omega) (by omega) hyg2 hl2 hG (nthB_are hG.f)
    have er' : call n (.func (.func 88) #[] #[]) [.agg ⟨[fv, vv, sv]⟩, l] g2 = some (.int .i64 (allAt Y k), g2) := er
    simp only [rn0, rn1, rn2, rn3, rn4, rn5, rn6, rn7, rn8, if_true, if_false, Nat.le_refl, true_and, and_true, decide_true, decide_false, Bool.not_true, Bool.not_false, reduceIte, Nat.reduceEqDiff, Nat.reduceAdd, Nat.reduceMul, Nat.reduceSub, Nat.reduceLeDiff, Nat.reduceLT, f1, f3, f4, w1, em, hk']
    refine W_draw All ?_
    simp only [rn0, rn1, rn2, rn3, rn4, rn5, rn6, rn7, rn8, if_true, if_false, Nat.le_refl, true_and, and_true, decide_true, decide_false, Bool.not_true, Bool.not_false, reduceIte, Nat.reduceEqDiff, Nat.reduceAdd, Nat.reduceMul, Nat.reduceSub, Nat.reduceLeDiff, Nat.reduceLT, f1, f3, f4, w1, hyg.self, e2, er', sl_int]
    refine ⟨⟨u2, m2.sub⟩, up_slice (by omega) rfl (fun _ _ => trivial) fun g3 hx3 => ?_⟩
    have n3 := hx3.next
    have f3' := hx3.floor
    have gv2 := (gv.sub m2.sub).sub hx3.sub
    have hvb : ∀ b k' c, v = .slice (some b) k' c → g1.next ≤ b.block := fun b k' c e => (gv.block e).1
    obtain ⟨v', g4, e4, ev, gv4, hk4⟩ := gv2.append (bytes := 8) (cap := 1) (by omega) (by omega) (by omega) hx3.get rfl rfl (fun j hj => by
      obtain rfl : j = 0 := by omega
      rfl) (by simp [maxBytes]; omega) (by simp [maxBytes]; omega)
    have n4 := hk4.next
    have f4' := hk4.floor
    simp only [rn0, rn1, rn2, rn3, rn4, rn5, rn6, rn7, rn8, if_true, if_false, Nat.le_refl, true_and, and_true, decide_true, decide_false, Bool.not_true, Bool.not_false, reduceIte, Nat.reduceEqDiff, Nat.reduceAdd, Nat.reduceMul, Nat.reduceSub, Nat.reduceLeDiff, Nat.reduceLT, f1, f4, e4, hw]
    refine ⟨by omega, v', fun i cs w gr t hg => ?_, by omega, by omega, by omega, gv4, rfl⟩
    have hlt := AHeap.lt_of_get hg
    rw [hk4.old i (by omega) fun b q z e => by have := hvb b q z e; omega]
    exact hx3.sub _ _ _ _ t (m2.sub _ _ _ _ t (hs _ _ _ _ t hg))
  · rintro f g ms ⟨⟨v, hs, hfg, hup, hnx, gv, f3⟩, rfl, f1, f4⟩
    have hyg := (hy.mono hx1.sub).mono hs
    have w1 := (hx1.row.mono hs).whole (n := 3) rfl
    have em := many_c (n := n) (h := g) (by omega) (by omega) hyg (by omega) hF
    rw [hM] at em
    simp only [rn0, rn1, rn2, rn3, rn4, rn5, rn6, rn7, rn8, if_true, if_false, Nat.le_refl, true_and, and_true, decide_true, decide_false, Bool.not_true, Bool.not_false, reduceIte, Nat.reduceEqDiff, Nat.reduceAdd, Nat.reduceMul, Nat.reduceSub, Nat.reduceLeDiff, Nat.reduceLT, f1, f3, f4, w1, em, Int.lt_irrefl]
    exact ⟨gv.cells, hx1.sub.trans hs, by omega, by omega, by omega⟩
end Go.Vm.Vat

namespace Go.Vm.Vat
open Go.Proofs
set_option linter.unusedSimpArgs false
set_option linter.unusedVariables false
set_option maxRecDepth 10000
variable {n : Nat} {h : AHeap}

theorem sel_zero : ∀ k, selTo 0 k = []
  | 0 => rfl
  | k + 1 => by rw [selTo_no (by simp), sel_zero k]
theorem all_mem {Y : MY} (hf : faultN Y = 0) {c : Nat → Int} : c ∈ enumB Y.lo Y.hi Y.nf 0 (fun _ => 0) ↔ ∃ i, i < (manyN Y.lo Y.hi Y.nf).toNat ∧ nthB Y.lo Y.hi Y.nf i = c := by
  have h0 : (picked Y 0).ns = 0 := by show (selTo 0 Y.ns).length = 0; rw [sel_zero]; rfl
  have hall : ∀ m, refTruthsTo (picked Y 0) m = (List.range m).map (nthB Y.lo Y.hi Y.nf) := by
    intro m
    induction m with
    | zero => rfl
    | succ m ih => rw [refTruthsTo_succ, ih, if_pos (fun k hk => by rw [h0] at hk; omega), List.range_succ, List.map_append]; rfl
  have h1 := refTruths_mem (Y := picked Y 0) (picked_fault hf) (x := c)
  have h2 : refTruths (picked Y 0) = (List.range (manyN Y.lo Y.hi Y.nf).toNat).map (nthB Y.lo Y.hi Y.nf) := hall _
  rw [h2, picked_truth, List.mem_map] at h1
  constructor
  · intro hc
    obtain ⟨i, h3, h4⟩ := h1.2 ⟨hc, fun x _ hb => by simp at hb⟩
    exact ⟨i, List.mem_range.1 h3, h4⟩
  · rintro ⟨i, h3, h4⟩
    exact (h1.1 ⟨i, List.mem_range.2 h3, h4⟩).1
theorem can_iff {Y : MY} (hf : faultN Y = 0) {s : Nat} (hs : s < 2 ^ Y.ns) : (∃ i, i < (manyN Y.lo Y.hi Y.nf).toNat ∧ rightN Y (nthB Y.lo Y.hi Y.nf i) Y.ns &&& s = s) ↔ CanB Y s := by
  have key : ∀ b, (rightN Y b Y.ns &&& s = s ↔ ∀ x, x < Y.ns → Bit s x → RightB Y b x) := fun b => by
    constructor
    · intro e x hx hb
      have h1 : (rightN Y b Y.ns &&& s).testBit x = true := by rw [e]; exact bit_test.1 hb
      rw [Nat.testBit_and, Bool.and_eq_true] at h1
      exact (rightN_test.1 h1.1).2
    · intro hh
      apply Nat.eq_of_testBit_eq
      intro x
      rw [Nat.testBit_and]
      by_cases hb : s.testBit x = true
      · have hx : x < Y.ns := by
          apply Classical.byContradiction
          intro hn
          have : s < 2 ^ x := Nat.lt_of_lt_of_le hs (Nat.pow_le_pow_right (by omega) (by omega))
          rw [Nat.testBit_lt_two_pow this] at hb; cases hb
        rw [hb, rightN_test.2 ⟨hx, hh x hx (bit_test.2 hb)⟩]; rfl
      · have hb' : s.testBit x = false := by simpa using hb
        rw [hb', Bool.and_false]
  constructor
  · rintro ⟨i, h1, h2⟩
    exact ⟨_, (all_mem hf).2 ⟨i, h1, rfl⟩, (key _).1 h2⟩
  · rintro ⟨c, h1, h2⟩
    obtain ⟨i, h3, h4⟩ := (all_mem hf).1 h1
    exact ⟨i, h3, (key _).2 (by rw [h4]; exact h2)⟩
def s110 : SCode := (.seq (.ops [⟨(some 4), none, .mov (.const (.bool false))⟩]) (.seq (.seq (.ops [⟨(some 5), none, .mov (.const (.int .i64 (0)))⟩]) (.block 0 (.loop (.seq (.seq (.ops [⟨(some 6), none, .mov (T 5)⟩, ⟨(some 7), none, .mov (T 0)⟩, ⟨(some 8), none, .len (T 7)⟩, ⟨(some 9), none, .int2 .lss (T 6) (T 8)⟩]) (.cond (T 9) .skip (.exit 0))) (.seq (.block 1 (.seq (.ops [⟨(some 12), none, .mov (T 0)⟩, ⟨(some 13), none, .mov (T 5)⟩, ⟨(some 14), none, .idxSl 1 (T 12) (T 13)⟩, ⟨(some 15), none, .load1 (T 14)⟩, ⟨(some 16), none, .mov (T 1)⟩, ⟨(some 17), none, .plain (.binOp .and 3 (T 15) (T 16) 3) 3⟩, ⟨(some 18), none, .mov (T 1)⟩, ⟨(some 19), none, .int2 .eql (T 17) (T 18)⟩]) (.cond (T 19) (.seq (.ops [⟨(some 4), none, .mov (.const (.bool true))⟩]) .ret) .skip))) (.ops [⟨(some 10), none, .mov (T 5)⟩, ⟨(some 11), none, .int2 .add (T 10) (.const (.int .i64 (1)))⟩, ⟨(some 5), none, .mov (T 11)⟩])))))) (.seq (.ops [⟨(some 4), none, .mov (.const (.bool false))⟩]) .ret)))
theorem fok110 : FnOk Try.prog 110 20 s110 [.tmp 4] := ⟨Try.f110, _, Try.func110, rfl, Try.ntmps110, by kernel_rfl, by kernel_rfl⟩
theorem can_c (hn : 3010 ≤ n) {va : Value} {Y : MY} (hf : faultN Y = 0) (ha : Ints h va (manyN Y.lo Y.hi Y.nf).toNat (allAt Y)) {s : Nat} (hs : s < 2 ^ Y.ns) :
    call n (.func (.func 110) #[] #[]) [va, .int .i64 (s : Int)] h = some (.bool (decide (CanB Y s)), h) := by
  obtain ⟨n, rfl⟩ : ∃ p, n = p + 1 := ⟨n - 1, by omega⟩
  obtain ⟨hG, hsz⟩ := fault_size hf
  obtain ⟨z1, z2, z3⟩ := hG.sz
  have hF : ∀ k, k < Y.nf → 0 ≤ Y.lo k ∧ Y.lo k ≤ Y.hi k ∧ Y.hi k ≤ 20 := hG.f
  have hmany := sizeN_many z1 hF Y.nf (Nat.le_refl _)
  have hc := can_iff hf hs
  have hs5 : (2 ^ Y.ns : Nat) ≤ 2 ^ 5 := Nat.pow_le_pow_right (by omega) z3
  obtain ⟨M, hM⟩ : ∃ M, M = (manyN Y.lo Y.hi Y.nf).toNat := ⟨_, rfl⟩
  have hM2 : M ≤ 2000 := by omega
  rw [← hM] at ha hc
  refine call_plain0 fok110 rfl rfl (by simp) rfl ?_
  have ha : Ints h.shutAll va M (allAt Y) := Cells.shut ha
  generalize h.shutAll = h at ha
  have hlt : ∀ i, rightN Y (nthB Y.lo Y.hi Y.nf i) Y.ns < 2 ^ 62 := fun i => by have := rightN_lt Y (nthB Y.lo Y.hi Y.nf i) Y.ns; omega
  simp only [rn0, rn1, rn2, rn3, rn4, rn5, rn6, rn7, rn8, if_true, if_false, Nat.le_refl, true_and, and_true, decide_true, decide_false, Bool.not_true, Bool.not_false, reduceIte, Nat.reduceEqDiff, Nat.reduceAdd, Nat.reduceMul, Nat.reduceSub, Nat.reduceLeDiff, Nat.reduceLT, s110]
  refine W_loop M (fun k f g ms => (∀ i, i < k → ¬ rightN Y (nthB Y.lo Y.hi Y.nf i) Y.ns &&& s = s) ∧ g = h ∧ ms = [] ∧ f 0 = va ∧ f 1 = .int .i64 (s : Int) ∧ f 5 = .int .i64 (k : Int)) (by simp; omega) ?_ ?_ ?_
  · simp only [rn0, rn1, rn2, rn3, rn4, rn5, rn6, rn7, rn8, if_true, if_false, Nat.le_refl, true_and, and_true, decide_true, decide_false, Bool.not_true, Bool.not_false, reduceIte, Nat.reduceEqDiff, Nat.reduceAdd, Nat.reduceMul, Nat.reduceSub, Nat.reduceLeDiff, Nat.reduceLT]
    exact ⟨fun i hi => by omega, rfl⟩
  · rintro k f g ms hk ⟨he, rfl, rfl, p0, p1, p5⟩
    have hk' : (k : Int) < (M : Int) := by omega
    have hw : wrapF .i64 ((k : Int) + 1) = ((k + 1 : Nat) : Int) := by rw [wrap_in (by omega) (by omega)]; rfl
    have la := Cells.ld ha hk Nat.zero_lt_one
    have hand : ∀ other, run2 andF other (.int .i64 (allAt Y k)) (.int .i64 (s : Int)) g = some (.int .i64 ((rightN Y (nthB Y.lo Y.hi Y.nf k) Y.ns &&& s : Nat) : Int), g) := fun other => r_and (hlt k) (by omega)
    by_cases c : rightN Y (nthB Y.lo Y.hi Y.nf k) Y.ns &&& s = s
    · have c' : ((rightN Y (nthB Y.lo Y.hi Y.nf k) Y.ns &&& s : Nat) : Int) = (s : Int) := by rw [c]
      have hd : decide (CanB Y s) = true := decide_eq_true (hc.1 ⟨k, hk, c⟩)
      simp only [rn0, rn1, rn2, rn3, rn4, rn5, rn6, rn7, rn8, if_true, if_false, Nat.le_refl, true_and, and_true, decide_true, decide_false, Bool.not_true, Bool.not_false, reduceIte, Nat.reduceEqDiff, Nat.reduceAdd, Nat.reduceMul, Nat.reduceSub, Nat.reduceLeDiff, Nat.reduceLT, p0, p1, p5, Cells.len ha, hk', Cells.idx ha hk, la, p_and, hand, valN_tmp, Nat.reduceLT, c', hd]
    · have c' : ¬ ((rightN Y (nthB Y.lo Y.hi Y.nf k) Y.ns &&& s : Nat) : Int) = (s : Int) := by omega
      simp only [rn0, rn1, rn2, rn3, rn4, rn5, rn6, rn7, rn8, if_true, if_false, Nat.le_refl, true_and, and_true, decide_true, decide_false, Bool.not_true, Bool.not_false, reduceIte, Nat.reduceEqDiff, Nat.reduceAdd, Nat.reduceMul, Nat.reduceSub, Nat.reduceLeDiff, Nat.reduceLT, p0, p1, p5, Cells.len ha, hk', Cells.idx ha hk, la, p_and, hand, valN_tmp, Nat.reduceLT, c', hw]
      intro i hi
      by_cases e : i = k
      · subst e; exact c
      · exact he i (by omega)
  · rintro f g ms ⟨he, rfl, rfl, p0, p1, p5⟩
    have hd : decide (CanB Y s) = false := decide_eq_false fun e => by obtain ⟨i, h1, h2⟩ := hc.2 e; exact he i h1 h2
    simp only [rn0, rn1, rn2, rn3, rn4, rn5, rn6, rn7, rn8, if_true, if_false, Nat.le_refl, true_and, and_true, decide_true, decide_false, Bool.not_true, Bool.not_false, reduceIte, Nat.reduceEqDiff, Nat.reduceAdd, Nat.reduceMul, Nat.reduceSub, Nat.reduceLeDiff, Nat.reduceLT, p0, p1, p5, Cells.len ha, Int.lt_irrefl, hd]
/-- the first wrong sample, by the reference -/
def s57 : SCode := (.seq (.ops [⟨(some 2), none, .box (T 0)⟩, ⟨(some 4), none, .mov (.const (.int .i64 (0)))⟩]) (.seq (.seq (.ops [⟨(some 5), none, .mov (.const (.int .i64 (0)))⟩]) (.block 0 (.loop (.seq (.seq (.ops [⟨(some 6), none, .mov (T 5)⟩, ⟨(some 7), none, .fieldAddr 2 (T 2)⟩, ⟨(some 8), none, .load1 (T 7)⟩, ⟨(some 9), none, .len (T 8)⟩, ⟨(some 10), none, .int2 .lss (T 6) (T 9)⟩]) (.cond (T 10) .skip (.exit 0))) (.seq (.block 1 (.seq (.ops [⟨(some 13), none, .mov (T 1)⟩, ⟨(some 14), none, .mov (T 5)⟩, ⟨(some 15), none, .plain (.convert 3 104 (T 14)) 104⟩, ⟨(some 16), none, .plain (.binOp .shl 3 (.const (.int .i64 (2))) (T 15) 104) 3⟩, ⟨(some 17), none, .int2 .sub (T 16) (.const (.int .i64 (1)))⟩, ⟨(some 18), none, .call (.func 110) [(T 13), (T 17)]⟩, ⟨(some 19), none, .not (T 18)⟩]) (.cond (T 19) (.seq (.ops [⟨(some 20), none, .mov (T 5)⟩, ⟨(some 4), none, .mov (T 20)⟩]) .ret) .skip))) (.ops [⟨(some 11), none, .mov (T 5)⟩, ⟨(some 12), none, .int2 .add (T 11) (.const (.int .i64 (1)))⟩, ⟨(some 5), none, .mov (T 12)⟩])))))) (.seq (.ops [⟨(some 4), none, .mov (.const (.int .i64 (-1)))⟩]) .ret)))
theorem fok57 : FnOk Try.prog 57 21 s57 [.tmp 4] := ⟨Try.f57, _, Try.func57, rfl, Try.ntmps57, by kernel_rfl, by kernel_rfl⟩
theorem firstRef_c (hn : 3020 ≤ n) (hr : h.next + 10 < far) {fv vv sv va : Value} {Y : MY} (hy : YardR h fv vv sv Y) (hf : faultN Y = 0) (ha : Ints h va (manyN Y.lo Y.hi Y.nf).toNat (allAt Y)) :
    call n (.func (.func 57) #[] #[]) [.agg ⟨[fv, vv, sv]⟩, va] h = some (.int .i64 (if (firstRun Y).2 = true then -1 else (firstRun Y).1), h) := by
  obtain ⟨n, rfl⟩ : ∃ p, n = p + 1 := ⟨n - 1, by omega⟩
  obtain ⟨hG, hsz⟩ := fault_size hf
  obtain ⟨z1, z2, z3⟩ := hG.sz
  refine call_plain0 fok57 rfl rfl (by simp) rfl ?_
  have hy := hy.shut
  have ha : Ints h.shutAll va (manyN Y.lo Y.hi Y.nf).toNat (allAt Y) := Cells.shut ha
  have hr : h.shutAll.next + 10 < far := hr
  generalize h.shutAll = h at hy ha hr
  -- up to where some blues have all samples right
  have hyes : ∀ k, k < Y.ns → ((firstRun Y).2 = true ∨ (k : Int) < (firstRun Y).1) → CanB Y (2 ^ (k + 1) - 1) := fun k hk hh => by
    by_cases h2 : (firstRun Y).2 = true
    · obtain ⟨t, ht⟩ := List.exists_mem_of_ne_nil _ (first_hit h2)
      obtain ⟨h3, h4⟩ := truths_mem.1 ht
      exact ⟨t, enum_mem.2 h3, fun x hx _ => h4 x hx⟩
    · obtain ⟨N, h3, h4, ⟨c, c1, c2⟩, _⟩ := first_miss hG.f (by simpa using h2)
      rcases hh with hh | hh
      · exact absurd hh h2
      · exact ⟨c, c1, fun x _ hb => c2 x (by have := low_bits.1 hb; omega)⟩
  have hno : (firstRun Y).2 = false → ∃ N : Nat, N < Y.ns ∧ (firstRun Y).1 = (N : Int) ∧ ¬ CanB Y (2 ^ (N + 1) - 1) := fun h2 => by
    obtain ⟨N, h3, h4, _, h5⟩ := first_miss hG.f h2
    exact ⟨N, h3, h4, fun ⟨c, c1, c2⟩ => by
      obtain ⟨j, j1, j2⟩ := h5 c c1
      exact j2 (c2 j (by omega) (low_bits.2 (by omega)))⟩
  obtain ⟨res, hres⟩ : ∃ r, r = (if (firstRun Y).2 = true then (-1 : Int) else (firstRun Y).1) := ⟨_, rfl⟩
  rw [← hres]
  simp only [s57, W_seq, W_ops]
  refine ops_box (cs := [fv, vv, sv]) (by omega) rfl hy.one fun g1 hx1 => ?_
  have n1 := hx1.next
  have hy1 := hy.mono hx1.sub
  have ha1 := Cells.mono ha hx1.sub
  have r1 := hx1.row
  simp only [rn0, rn1, rn2, rn3, rn4, rn5, rn6, rn7, rn8, if_true, if_false, Nat.le_refl, true_and, and_true, decide_true, decide_false, Bool.not_true, Bool.not_false, reduceIte, Nat.reduceEqDiff, Nat.reduceAdd, Nat.reduceMul, Nat.reduceSub, Nat.reduceLeDiff, Nat.reduceLT]
  refine W_loop Y.ns (fun k f g ms => ((firstRun Y).2 = true ∨ (k : Int) ≤ (firstRun Y).1) ∧ g = g1 ∧ ms = [] ∧ f 1 = va ∧ f 2 = .pointer (some ⟨h.next, 0, none⟩) ∧ f 5 = .int .i64 (k : Int)) (by simp; omega) ?_ ?_ ?_
  · simp only [rn0, rn1, rn2, rn3, rn4, rn5, rn6, rn7, rn8, if_true, if_false, Nat.le_refl, true_and, and_true, decide_true, decide_false, Bool.not_true, Bool.not_false, reduceIte, Nat.reduceEqDiff, Nat.reduceAdd, Nat.reduceMul, Nat.reduceSub, Nat.reduceLeDiff, Nat.reduceLT]
    by_cases h2 : (firstRun Y).2 = true
    · simp [h2]
    · obtain ⟨N, h3, h4, _⟩ := hno (by simpa using h2)
      simp [h4]
  · rintro k f g ms hk ⟨he, rfl, rfl, p1, p2, p5⟩
    have hk' : (k : Int) < (Y.ns : Int) := by omega
    have hw : wrapF .i64 ((k : Int) + 1) = ((k + 1 : Nat) : Int) := by rw [wrap_in (by omega) (by omega)]; rfl
    have hpw : (2 ^ (k + 1) : Nat) ≤ 2 ^ Y.ns := Nat.pow_le_pow_right (by omega) (by omega)
    have hs5 : (2 ^ Y.ns : Nat) ≤ 2 ^ 5 := Nat.pow_le_pow_right (by omega) z3
    have hp0 : 0 < (2 ^ (k + 1) : Nat) := Nat.pow_pos (by omega)
    obtain ⟨s, hsd⟩ : ∃ s, s = 2 ^ (k + 1) - 1 := ⟨_, rfl⟩
    have hw1 : wrapF .i64 (((2 ^ (k + 1) : Nat) : Int) - 1) = (s : Int) := by
      generalize (2 ^ (k + 1) : Nat) = z at hpw hp0 hsd
      rw [wrap_in (by omega) (by omega)]; omega
    have ec := can_c (n := n) (h := g) (s := s) (by omega) hf ha1 (by omega)
    by_cases hc : CanB Y s
    · rw [decide_eq_true hc] at ec
      simp only [rn0, rn1, rn2, rn3, rn4, rn5, rn6, rn7, rn8, if_true, if_false, Nat.le_refl, true_and, and_true, decide_true, decide_false, Bool.not_true, Bool.not_false, reduceIte, Nat.reduceEqDiff, Nat.reduceAdd, Nat.reduceMul, Nat.reduceSub, Nat.reduceLeDiff, Nat.reduceLT, p1, p2, p5, r1.ld, Nat.zero_add, List.getElem?_cons_zero, List.getElem?_cons_succ, Cells.len hy1.s, hk', p_uint, r_conv (k := k) (by omega), r_shl2 (k := k) (by omega), valN_tmp, valN_const, Nat.reduceLT, hw1, ec, hw]
      by_cases h2 : (firstRun Y).2 = true
      · simp [h2]
      · obtain ⟨N, h3, h4, h5⟩ := hno (by simpa using h2)
        rw [h4] at he ⊢
        right
        rcases he with he | he
        · exact absurd he h2
        · by_cases e : k = N
          · subst e; rw [hsd] at hc; exact absurd hc h5
          · omega
    · rw [decide_eq_false hc] at ec
      have h2 : (firstRun Y).2 = false := by
        cases h2 : (firstRun Y).2 with
        | true => exact absurd (by rw [hsd]; exact hyes k hk (.inl h2)) hc
        | false => rfl
      have hrk : res = (k : Int) := by
        rw [hres, if_neg (by rw [h2]; simp)]
        rcases he with he | he
        · rw [h2] at he; cases he
        · apply Classical.byContradiction
          intro hne
          exact hc (by rw [hsd]; exact hyes k hk (.inr (by omega)))
      subst hrk
      simp only [rn0, rn1, rn2, rn3, rn4, rn5, rn6, rn7, rn8, if_true, if_false, Nat.le_refl, true_and, and_true, decide_true, decide_false, Bool.not_true, Bool.not_false, reduceIte, Nat.reduceEqDiff, Nat.reduceAdd, Nat.reduceMul, Nat.reduceSub, Nat.reduceLeDiff, Nat.reduceLT, p1, p2, p5, r1.ld, Nat.zero_add, List.getElem?_cons_zero, List.getElem?_cons_succ, Cells.len hy1.s, hk', p_uint, r_conv (k := k) (by omega), r_shl2 (k := k) (by omega), valN_tmp, valN_const, Nat.reduceLT, hw1, ec, hw]
  · rintro f g ms ⟨he, rfl, rfl, p1, p2, p5⟩
    have hrm : res = -1 := by
      rw [hres]
      by_cases h2 : (firstRun Y).2 = true
      · rw [if_pos h2]
      · obtain ⟨N, h3, h4, h5⟩ := hno (by simpa using h2)
        rcases he with he | he
        · exact absurd he h2
        · omega
    rw [hrm]
    simp only [rn0, rn1, rn2, rn3, rn4, rn5, rn6, rn7, rn8, if_true, if_false, Nat.le_refl, true_and, and_true, decide_true, decide_false, Bool.not_true, Bool.not_false, reduceIte, Nat.reduceEqDiff, Nat.reduceAdd, Nat.reduceMul, Nat.reduceSub, Nat.reduceLeDiff, Nat.reduceLT, p1, p2, p5, r1.ld, Nat.zero_add, List.getElem?_cons_zero, List.getElem?_cons_succ, Cells.len hy1.s, Int.lt_irrefl]
end Go.Vm.Vat

namespace Go.Vm.Vat
open Go.Proofs
set_option linter.unusedSimpArgs false
set_option linter.unusedVariables false
set_option maxRecDepth 10000
variable {n : Nat} {h : AHeap}

theorem can_truth {Y : MY} {s : Nat} : CanB Y s ↔ truths (picked Y s) ≠ [] := by
  constructor
  · rintro ⟨c, h1, h2⟩ e
    have : c ∈ truths (picked Y s) := picked_truth.2 ⟨h1, h2⟩
    rw [e] at this; exact List.not_mem_nil this
  · intro h
    obtain ⟨c, hc⟩ := List.exists_mem_of_ne_nil _ h
    obtain ⟨h1, h2⟩ := picked_truth.1 hc
    exact ⟨c, h1, h2⟩
theorem sl_eq {a b : List Int} (h1 : ¬ SL a b) (h2 : ¬ SL b a) : a = b := by
  have hl : a.length = b.length := by
    apply Classical.byContradiction
    intro e
    by_cases c : a.length < b.length
    · exact h1 (.inl c)
    · exact h2 (.inl (by omega))
  have hx : ∀ m, m ≤ a.length → ∀ i, i < m → atL a i = atL b i := by
    intro m
    induction m with
    | zero => intro _ i hi; omega
    | succ m ih =>
      intro hm i hi
      have hp := ih (by omega)
      by_cases e : i = m
      · subst e
        apply Classical.byContradiction
        intro hne
        by_cases c : atL a i < atL b i
        · exact h1 (.inr ⟨hl, i, by omega, hp, c⟩)
        · exact h2 (.inr ⟨hl.symm, i, by omega, fun x hx => (hp x hx).symm, by omega⟩)
      · exact hp i (by omega)
  apply List.ext_getElem hl
  intro i i1 i2
  have := hx a.length (Nat.le_refl _) i i1
  unfold atL at this
  rw [List.getD_eq_getElem?_getD, List.getD_eq_getElem?_getD, List.getElem?_eq_getElem i1, List.getElem?_eq_getElem i2] at this
  exact this
theorem leave_bits {Y : MY} : pickL (Bit (bitsOf (leaveRun Y) (leaveRun Y).length)) Y.ns = leaveRun Y := by
  have main : ∀ p : Nat → Prop, leaveRun Y = pickL p Y.ns → pickL (Bit (bitsOf (leaveRun Y) (leaveRun Y).length)) Y.ns = leaveRun Y := fun p hp => by
    refine Eq.trans (pick_congr fun j hj => ?_) hp.symm
    rw [bit_test, bitsOf_test, hp]
    constructor
    · rintro ⟨i, h1, h2⟩
      obtain ⟨x, x1, x2, x3⟩ := pick_at h1
      rw [x2] at h2
      have : x = j := by simpa using h2
      rw [← this]; exact x3
    · intro h
      obtain ⟨i, h1, h2⟩ := pick_has hj h
      exact ⟨i, h1, by rw [h2]; simp⟩
  rcases (leave_is (Y := Y)).1 with h | ⟨c, _, h⟩
  · exact main _ h
  · exact main _ h
theorem leave_bits_lt {Y : MY} : bitsOf (leaveRun Y) (leaveRun Y).length < 2 ^ Y.ns := by
  have : ∀ k, k ≤ (leaveRun Y).length → bitsOf (leaveRun Y) k < 2 ^ Y.ns := by
    intro k
    induction k with
    | zero => intro _; exact Nat.pow_pos (by omega)
    | succ k ih =>
      intro hk
      rw [bitsOf]
      obtain ⟨j, j1, j2⟩ := leave_at (Y := Y) (i := k) (by omega)
      exact Nat.or_lt_two_pow (ih (by omega)) (Nat.pow_lt_pow_right (by omega) (by rw [j2]; simpa using j1))
  exact this _ (Nat.le_refl _)
/-- what the reference has found among the first k sets -/
def BestK (Y : MY) (k : Nat) (l : List Int) : Prop := (∃ b, b < 2 ^ Y.ns ∧ CanB Y (offN (2 ^ Y.ns - 1) b) ∧ l = pickL (Bit b) Y.ns) ∧ ∀ b, b < k → CanB Y (offN (2 ^ Y.ns - 1) b) → ¬ SL (pickL (Bit b) Y.ns) l
theorem best_all {Y : MY} (hF : ∀ k, k < Y.nf → 0 ≤ Y.lo k ∧ Y.lo k ≤ Y.hi k ∧ Y.hi k ≤ 20) (hns : Y.ns ≤ 5) {l : List Int} (hb : BestK Y (2 ^ Y.ns) l) : l = leaveRun Y := by
  obtain ⟨⟨b, b1, b2, b3⟩, h2⟩ := hb
  refine sl_eq ?_ ?_
  · rw [b3]; exact left_g hns (can_truth.1 b2)
  · have := h2 _ (leave_bits_lt (Y := Y)) (can_truth.2 (left_f hF hns))
    rw [leave_bits] at this; exact this
def s56 : SCode := (.seq (.ops [⟨(some 2), none, .box (T 0)⟩, ⟨(some 4), none, .mov (.const (.slice none 0 0))⟩]) (.seq (.ops [⟨(some 8), none, .loadN 3 (T 2)⟩, ⟨(some 9), none, .call (.func 70) [(T 8)]⟩, ⟨(some 10), none, .call (.func 72) [(T 9)]⟩, ⟨(some 5), none, .mov (T 10)⟩]) (.seq (.seq (.ops [⟨(some 6), none, .mov (.const (.int .i64 (0)))⟩]) (.block 0 (.loop (.seq (.seq (.ops [⟨(some 11), none, .mov (T 6)⟩, ⟨(some 12), none, .loadN 3 (T 2)⟩, ⟨(some 13), none, .call (.func 70) [(T 12)]⟩, ⟨(some 14), none, .int2 .leq (T 11) (T 13)⟩]) (.cond (T 14) .skip (.exit 0))) (.seq (.block 1 (.seq (.ops [⟨(some 17), none, .mov (T 6)⟩, ⟨(some 18), none, .call (.func 72) [(T 17)]⟩, ⟨(some 7), none, .mov (T 18)⟩]) (.seq (.ops [⟨(some 19), none, .mov (T 7)⟩, ⟨(some 20), none, .mov (T 5)⟩, ⟨(some 21), none, .call (.func 71) [(T 19), (T 20)]⟩, ⟨(some 22), none, .mov (T 21)⟩, ⟨(some 23), (some (22, true)), .mov (T 1)⟩, ⟨(some 24), (some (22, true)), .loadN 3 (T 2)⟩, ⟨(some 25), (some (22, true)), .call (.func 70) [(T 24)]⟩, ⟨(some 26), (some (22, true)), .mov (T 6)⟩, ⟨(some 27), (some (22, true)), .plain (.binOp .andNot 3 (T 25) (T 26) 3) 3⟩, ⟨(some 28), (some (22, true)), .call (.func 110) [(T 23), (T 27)]⟩, ⟨(some 29), none, .pick (T 22) (T 28) (.const (.bool false))⟩]) (.cond (T 29) (.ops [⟨(some 30), none, .mov (T 7)⟩, ⟨(some 5), none, .mov (T 30)⟩]) .skip)))) (.ops [⟨(some 15), none, .mov (T 6)⟩, ⟨(some 16), none, .int2 .add (T 15) (.const (.int .i64 (1)))⟩, ⟨(some 6), none, .mov (T 16)⟩])))))) (.seq (.ops [⟨(some 31), none, .mov (T 5)⟩, ⟨(some 4), none, .mov (T 31)⟩]) .ret))))
theorem fok56 : FnOk Try.prog 56 32 s56 [.tmp 4] := ⟨Try.f56, _, Try.func56, rfl, Try.ntmps56, by kernel_rfl, by kernel_rfl⟩
theorem leaveRef_c (hn : 11010 ≤ n) (hr : h.next + 4000 < far) (hfl : h.floor ≤ h.next) {fv vv sv va : Value} {Y : MY} (hy : YardR h fv vv sv Y) (hf : faultN Y = 0) (ha : Ints h va (manyN Y.lo Y.hi Y.nf).toNat (allAt Y)) :
    ∃ v h', call n (.func (.func 56) #[] #[]) [.agg ⟨[fv, vv, sv]⟩, va] h = some (v, h') ∧ Ints h' v (leaveRun Y).length (atL (leaveRun Y)) ∧ Made h h' 2000 := by
  obtain ⟨n, rfl⟩ : ∃ p, n = p + 1 := ⟨n - 1, by omega⟩
  obtain ⟨hG, hsz⟩ := fault_size hf
  obtain ⟨z1, z2, z3⟩ := hG.sz
  have hs5 : (2 ^ Y.ns : Nat) ≤ 2 ^ 5 := Nat.pow_le_pow_right (by omega) z3
  have hp0 : 0 < (2 ^ Y.ns : Nat) := Nat.pow_pos (by omega)
  obtain ⟨Fu, hFu⟩ : ∃ F, F = 2 ^ Y.ns - 1 := ⟨_, rfl⟩
  refine call_any0 fok56 rfl rfl (by simp) ?_
  simp only [s56, W_seq, W_ops]
  refine ops_box (cs := [fv, vv, sv]) (by omega) rfl hy.one fun g1 hx1 => ?_
  have n1 := hx1.next
  have f1 := hx1.floor
  have hy1 := hy.mono hx1.sub
  have x1 := hx1.row.whole (n := 3) rfl
  have ef1 := full_c (n := n) (h := g1) (by omega) (by omega) hy1 z3
  rw [← hFu] at ef1
  obtain ⟨v0, g2, eb0, hv0, ho0, n2, u2, f2⟩ := bits_c (n := n) (h := g1) (b := Fu) (B := Y.ns) (by omega) (by omega) (by omega) (by omega) (by omega)
  have r2 : Sub All h g2 := hx1.sub.trans (AHeap.subOf ho0)
  simp only [rn0, rn1, rn2, rn3, rn4, rn5, rn6, rn7, rn8, if_true, if_false, Nat.le_refl, true_and, and_true, decide_true, decide_false, Bool.not_true, Bool.not_false, reduceIte, Nat.reduceEqDiff, Nat.reduceAdd, Nat.reduceMul, Nat.reduceSub, Nat.reduceLeDiff, Nat.reduceLT, x1, ef1, eb0]
  refine W_loop (2 ^ Y.ns) (fun k f g ms => (∃ v l, BestK Y k l ∧ Ints g v l.length (atL l) ∧ f 5 = v ∧ Sub All g1 g ∧ g.floor = h.floor ∧ h.next < g.next ∧ g.next ≤ h.next + 51 + 50 * k) ∧ ms = [] ∧ f 1 = va ∧ f 2 = .pointer (some ⟨h.next, 0, none⟩) ∧ f 6 = .int .i64 (k : Int)) (by simp; omega) ?_ ?_ ?_
  · have hb0 : BestK Y 0 (pickL (Bit Fu) Y.ns) := ⟨⟨Fu, by omega, by
      have hx : (fun j => if j < Y.nf then Y.lo j else 0) ∈ enumB Y.lo Y.hi Y.nf 0 (fun _ => 0) := enum_mem.2 ⟨fun j hj => by simp only [hj, if_true]; exact ⟨Int.le_refl _, (hG.f j hj).2.1⟩, fun j hj => by simp only [show ¬ j < Y.nf by omega, if_false]⟩
      refine ⟨_, hx, fun x hx hb => ?_⟩
      rw [bit_test, offN_bit (by omega) (by omega), hFu, Nat.testBit_two_pow_sub_one] at hb
      simp [hx] at hb, rfl⟩, fun b hb => by omega⟩
    simp only [rn0, rn1, rn2, rn3, rn4, rn5, rn6, rn7, rn8, if_true, if_false, Nat.le_refl, true_and, and_true, decide_true, decide_false, Bool.not_true, Bool.not_false, reduceIte, Nat.reduceEqDiff, Nat.reduceAdd, Nat.reduceMul, Nat.reduceSub, Nat.reduceLeDiff, Nat.reduceLT]
    exact ⟨⟨_, _, hb0, hv0, rfl, AHeap.subOf ho0, by omega, by omega, by omega⟩, rfl⟩
  · rintro k f g ms hk ⟨⟨v, l, hbest, hv, p5, sg, fg, ug, ng⟩, rfl, p1, p2, p6⟩
    have hk' : (k : Int) ≤ (Fu : Int) := by omega
    have hw : wrapF .i64 ((k : Int) + 1) = ((k + 1 : Nat) : Int) := by rw [wrap_in (by omega) (by omega)]; rfl
    have hyg := hy1.mono sg
    have xg := (hx1.row.mono sg).whole (n := 3) rfl
    have efg := full_c (n := n) (h := g) (by omega) (by omega) hyg z3
    rw [← hFu] at efg
    obtain ⟨bs, g3, eb3, hb3, ho3, n3, u3, f3⟩ := bits_c (n := n) (h := g) (b := k) (B := Y.ns) (by omega) (by omega) (by omega) hk (by omega)
    have s3 : Sub All g g3 := AHeap.subOf ho3
    have hv3 := Cells.mono hv s3
    have hy3 := hyg.mono s3
    have x3 := ((hx1.row.mono sg).mono s3).whole (n := 3) rfl
    have ef3 := full_c (n := n) (h := g3) (by omega) (by omega) hy3 z3
    rw [← hFu] at ef3
    have hpl := pick_len (p := Bit k) Y.ns
    have hll : l.length ≤ 5 := by
      obtain ⟨⟨b, _, _, e⟩, _⟩ := hbest
      rw [e]; have := pick_len (p := Bit b) Y.ns; omega
    have esh := shorter_c (n := n) (h := g3) (by omega) (by omega) (by omega) hb3 hv3
    have hoff := offN_le (a := Fu) (b := k) (by omega)
    have ec := can_c (n := n) (h := g3) (s := offN Fu k) (by omega) hf (Cells.mono ha ((hx1.sub.trans sg).trans s3)) (by omega)
    by_cases c1 : Shortlex (atL (pickL (Bit k) Y.ns)) (pickL (Bit k) Y.ns).length (atL l) l.length
    · rw [decide_eq_true c1] at esh
      by_cases c2 : CanB Y (offN Fu k)
      · rw [decide_eq_true c2] at ec
        simp only [rn0, rn1, rn2, rn3, rn4, rn5, rn6, rn7, rn8, if_true, if_false, Nat.le_refl, true_and, and_true, decide_true, decide_false, Bool.not_true, Bool.not_false, reduceIte, Nat.reduceEqDiff, Nat.reduceAdd, Nat.reduceMul, Nat.reduceSub, Nat.reduceLeDiff, Nat.reduceLT, p1, p2, p5, p6, xg, efg, hk', eb3, esh, x3, ef3, p_andNot, r_andNot (a := Fu) (b := k) (by omega), valN_tmp, Nat.reduceLT, ec, hw]
        refine ⟨_, _, ⟨⟨k, hk, by rw [← hFu]; exact c2, rfl⟩, fun b hb hc => ?_⟩, hb3, rfl, sg.trans s3, by omega, by omega, by omega⟩
        by_cases e : b = k
        · subst e; exact sl_irr
        · exact fun hs => hbest.2 b (by omega) hc (sl_trans hs c1)
      · rw [decide_eq_false c2] at ec
        simp only [rn0, rn1, rn2, rn3, rn4, rn5, rn6, rn7, rn8, if_true, if_false, Nat.le_refl, true_and, and_true, decide_true, decide_false, Bool.not_true, Bool.not_false, reduceIte, Nat.reduceEqDiff, Nat.reduceAdd, Nat.reduceMul, Nat.reduceSub, Nat.reduceLeDiff, Nat.reduceLT, p1, p2, p5, p6, xg, efg, hk', eb3, esh, x3, ef3, p_andNot, r_andNot (a := Fu) (b := k) (by omega), valN_tmp, Nat.reduceLT, ec, hw]
        refine ⟨_, _, ⟨hbest.1, fun b hb hc => ?_⟩, hv3, rfl, sg.trans s3, by omega, by omega, by omega⟩
        by_cases e : b = k
        · subst e; rw [← hFu] at hc; exact absurd hc c2
        · exact hbest.2 b (by omega) hc
    · rw [decide_eq_false c1] at esh
      simp only [rn0, rn1, rn2, rn3, rn4, rn5, rn6, rn7, rn8, if_true, if_false, Nat.le_refl, true_and, and_true, decide_true, decide_false, Bool.not_true, Bool.not_false, reduceIte, Nat.reduceEqDiff, Nat.reduceAdd, Nat.reduceMul, Nat.reduceSub, Nat.reduceLeDiff, Nat.reduceLT, p1, p2, p5, p6, xg, efg, hk', eb3, esh, x3, ef3, hw]
      refine ⟨_, _, ⟨hbest.1, fun b hb hc => ?_⟩, hv3, rfl, sg.trans s3, by omega, by omega, by omega⟩
      by_cases e : b = k
      · subst e; exact c1
      · exact hbest.2 b (by omega) hc
  · rintro f g ms ⟨⟨v, l, hbest, hv, p5, sg, fg, ug, ng⟩, rfl, p1, p2, p6⟩
    have hyg := hy1.mono sg
    have xg := (hx1.row.mono sg).whole (n := 3) rfl
    have efg := full_c (n := n) (h := g) (by omega) (by omega) hyg z3
    rw [← hFu] at efg
    have hk' : ¬ ((2 ^ Y.ns : Nat) : Int) ≤ (Fu : Int) := by omega
    have hl := best_all hG.f z3 hbest
    subst hl
    simp only [rn0, rn1, rn2, rn3, rn4, rn5, rn6, rn7, rn8, if_true, if_false, Nat.le_refl, true_and, and_true, decide_true, decide_false, Bool.not_true, Bool.not_false, reduceIte, Nat.reduceEqDiff, Nat.reduceAdd, Nat.reduceMul, Nat.reduceSub, Nat.reduceLeDiff, Nat.reduceLT, p1, p2, p5, p6, xg, efg, hk']
    exact ⟨hv, hx1.sub.trans sg, by omega, by omega, by omega⟩
end Go.Vm.Vat

namespace Go.Vm.Vat
open Go.Proofs
set_option linter.unusedSimpArgs false
set_option linter.unusedVariables false
set_option maxRecDepth 10000
variable {n : Nat} {h : AHeap}

def s8 : SCode := (.seq (.ops [⟨(some 1), none, .box (T 0)⟩, ⟨(some 2), none, .mov (.const (.bool false))⟩]) (.seq (.seq (.ops [⟨(some 10), none, .loadN 3 (T 1)⟩, ⟨(some 11), none, .call (.func 23) [(T 10)]⟩, ⟨(some 12), none, .not (T 11)⟩]) (.cond (T 12) (.seq (.ops [⟨(some 13), none, .call (.func 24) []⟩, ⟨(some 2), none, .mov (T 13)⟩]) .ret) .skip)) (.seq (.ops [⟨(some 15), none, .loadN 3 (T 1)⟩, ⟨(some 16), none, .call (.func 26) [(T 15)]⟩, ⟨(some 17), none, .call (.func 53) [(T 16)]⟩, ⟨(some 14), none, .mov (T 17)⟩, ⟨(some 18), none, .extract 0 (T 14)⟩, ⟨(some 19), none, .extract 1 (T 14)⟩, ⟨(some 3), none, .mov (T 18)⟩, ⟨(some 4), none, .mov (T 19)⟩]) (.seq (.ops [⟨(some 21), none, .loadN 3 (T 1)⟩, ⟨(some 22), none, .call (.func 26) [(T 21)]⟩, ⟨(some 23), none, .call (.func 54) [(T 22)]⟩, ⟨(some 20), none, .mov (T 23)⟩, ⟨(some 24), none, .extract 0 (T 20)⟩, ⟨(some 25), none, .extract 1 (T 20)⟩, ⟨(some 5), none, .mov (T 24)⟩, ⟨(some 6), none, .mov (T 25)⟩]) (.seq (.seq (.ops [⟨(some 26), none, .loadN 3 (T 1)⟩, ⟨(some 27), none, .call (.func 29) [(T 26)]⟩, ⟨(some 7), none, .mov (T 27)⟩]) (.seq (.ops [⟨(some 28), none, .mov (T 7)⟩, ⟨(some 29), none, .int2 .neq (T 28) (.const (.int .i64 (0)))⟩]) (.cond (T 29) (.seq (.ops [⟨(some 30), none, .mov (T 4)⟩, ⟨(some 31), none, .mov (T 7)⟩, ⟨(some 32), none, .int2 .eql (T 30) (T 31)⟩, ⟨(some 33), none, .mov (T 32)⟩, ⟨(some 34), (some (33, true)), .mov (T 3)⟩, ⟨(some 35), (some (33, true)), .int2 .eql (T 34) (.const (.int .i64 (0)))⟩, ⟨(some 36), none, .pick (T 33) (T 35) (.const (.bool false))⟩, ⟨(some 37), none, .mov (T 36)⟩, ⟨(some 38), (some (37, true)), .mov (T 6)⟩, ⟨(some 39), (some (37, true)), .mov (T 7)⟩, ⟨(some 40), (some (37, true)), .int2 .eql (T 38) (T 39)⟩, ⟨(some 41), none, .pick (T 37) (T 40) (.const (.bool false))⟩, ⟨(some 42), none, .mov (T 41)⟩, ⟨(some 43), (some (42, true)), .mov (T 5)⟩, ⟨(some 44), (some (42, true)), .len (T 43)⟩, ⟨(some 45), (some (42, true)), .int2 .eql (T 44) (.const (.int .i64 (0)))⟩, ⟨(some 46), none, .pick (T 42) (T 45) (.const (.bool false))⟩, ⟨(some 47), none, .mov (T 46)⟩, ⟨(some 48), (some (47, true)), .call (.func 24) []⟩, ⟨(some 49), none, .pick (T 47) (T 48) (.const (.bool false))⟩, ⟨(some 2), none, .mov (T 49)⟩]) .ret) .skip))) (.seq (.ops [⟨(some 50), none, .loadN 3 (T 1)⟩, ⟨(some 51), none, .call (.func 55) [(T 50)]⟩, ⟨(some 8), none, .mov (T 51)⟩]) (.seq (.seq (.ops [⟨(some 52), none, .mov (T 6)⟩, ⟨(some 53), none, .int2 .neq (T 52) (.const (.int .i64 (0)))⟩, ⟨(some 54), none, .mov (T 53)⟩, ⟨(some 55), (some (54, false)), .mov (T 5)⟩, ⟨(some 56), (some (54, false)), .loadN 3 (T 1)⟩, ⟨(some 57), (some (54, false)), .mov (T 8)⟩, ⟨(some 58), (some (54, false)), .call (.func 56) [(T 56), (T 57)]⟩, ⟨(some 59), (some (54, false)), .call (.func 52) [(T 55), (T 58)]⟩, ⟨(some 60), (some (54, false)), .not (T 59)⟩, ⟨(some 61), none, .pick (T 54) (.const (.bool true)) (T 60)⟩]) (.cond (T 61) (.seq (.ops [⟨(some 2), none, .mov (.const (.bool false))⟩]) .ret) .skip)) (.seq (.ops [⟨(some 62), none, .loadN 3 (T 1)⟩, ⟨(some 63), none, .mov (T 8)⟩, ⟨(some 64), none, .call (.func 57) [(T 62), (T 63)]⟩, ⟨(some 9), none, .mov (T 64)⟩]) (.seq (.seq (.ops [⟨(some 65), none, .mov (T 9)⟩, ⟨(some 66), none, .int2 .lss (T 65) (.const (.int .i64 (0)))⟩]) (.cond (T 66) (.seq (.ops [⟨(some 67), none, .mov (T 4)⟩, ⟨(some 68), none, .int2 .eql (T 67) (.const (.int .i64 (7)))⟩, ⟨(some 69), none, .mov (T 68)⟩, ⟨(some 70), (some (69, true)), .mov (T 3)⟩, ⟨(some 71), (some (69, true)), .int2 .eql (T 70) (.const (.int .i64 (0)))⟩, ⟨(some 72), none, .pick (T 69) (T 71) (.const (.bool false))⟩, ⟨(some 73), none, .mov (T 72)⟩, ⟨(some 74), (some (73, true)), .call (.func 24) []⟩, ⟨(some 75), none, .pick (T 73) (T 74) (.const (.bool false))⟩, ⟨(some 2), none, .mov (T 75)⟩]) .ret) .skip)) (.seq (.ops [⟨(some 76), none, .mov (T 4)⟩, ⟨(some 77), none, .int2 .eql (T 76) (.const (.int .i64 (0)))⟩, ⟨(some 78), none, .mov (T 77)⟩, ⟨(some 79), (some (78, true)), .mov (T 3)⟩, ⟨(some 80), (some (78, true)), .mov (T 9)⟩, ⟨(some 81), (some (78, true)), .int2 .eql (T 79) (T 80)⟩, ⟨(some 82), none, .pick (T 78) (T 81) (.const (.bool false))⟩, ⟨(some 83), none, .mov (T 82)⟩, ⟨(some 84), (some (83, true)), .call (.func 24) []⟩, ⟨(some 85), none, .pick (T 83) (T 84) (.const (.bool false))⟩, ⟨(some 2), none, .mov (T 85)⟩]) .ret))))))))))
theorem fok8 : FnOk Try.prog 8 86 s8 [.tmp 2] := ⟨Try.f8, _, Try.func8, rfl, Try.ntmps8, by kernel_rfl, by kernel_rfl⟩
theorem leavesLaw_c (hn : 11200 ≤ n) (hr : h.next + 3000000 < far) (hfl : h.floor ≤ h.next) {fv vv sv : Value} {Y : MY} (hy : YardR h fv vv sv Y) :
    ∃ v h', call n (.func (.func 8) #[] #[]) [.agg ⟨[fv, vv, sv]⟩] h = some (v, h') ∧ v = .bool true := by
  obtain ⟨n, rfl⟩ : ∃ p, n = p + 1 := ⟨n - 1, by omega⟩
  refine call_any0 fok8 rfl rfl (by simp) ?_
  simp only [s8, W_seq, W_ops]
  refine ops_box (cs := [fv, vv, sv]) (by omega) rfl hy.one fun g1 hx1 => ?_
  have n1 := hx1.next
  have f1 := hx1.floor
  have hy1 := hy.mono hx1.sub
  have x1 := hx1.row.whole (n := 3) rfl
  have ht := thin_c (n := n) (h := g1) (by omega) (by omega) hy1
  by_cases hT : Thin Y
  case neg =>
    rw [decide_eq_false hT] at ht
    have haw := awake_c (n := n) (h := g1) (by omega)
    simp only [rn0, rn1, rn2, rn3, rn4, rn5, rn6, rn7, rn8, if_true, if_false, Nat.le_refl, true_and, and_true, decide_true, decide_false, Bool.not_true, Bool.not_false, reduceIte, Nat.reduceEqDiff, Nat.reduceAdd, Nat.reduceMul, Nat.reduceSub, Nat.reduceLeDiff, Nat.reduceLT, x1, ht, haw]
  rw [decide_eq_true hT] at ht
  obtain ⟨F1, V1, S1, g2, ey2, hy2, m2⟩ := yard_c (n := n) (h := g1) (by omega) (by omega) (by omega) hy1 hT
  have n2 := m2.next
  have u2 := m2.up
  have f2 := m2.floor
  have ef := first_c (n := n) (h := g2) (by omega) (by omega) hy2 hT
  have x2 := (hx1.row.mono m2.sub).whole (n := 3) rfl
  obtain ⟨F2, V2, S2, g3, ey3, hy3, m3⟩ := yard_c (n := n) (h := g2) (by omega) (by omega) (by omega) (hy1.mono m2.sub) hT
  have n3 := m3.next
  have u3 := m3.up
  have f3 := m3.floor
  obtain ⟨lv, g4, el, m4, hL⟩ := leave_c (n := n) (h := g3) (by omega) (by omega) (by omega) hy3 hT
  have n4 := m4.next
  have u4' := m4.up
  have f4 := m4.floor
  have s4 : Sub All g1 g4 := m2.sub.trans (m3.sub.trans m4.sub)
  have x4 := (hx1.row.mono s4).whole (n := 3) rfl
  have hy4 := hy1.mono s4
  have efl := faultL_c (n := n) (h := g4) (by omega) (by omega) hy4
  by_cases hf : faultN Y = 0
  case neg =>
    have haw := awake_c (n := n) (h := g4) (by omega)
    have hv : firstV Y = (0, faultN Y) := by unfold firstV; rw [if_pos hf]
    rw [hv] at ef
    rcases hL with ⟨_, rfl⟩ | ⟨h0, _⟩
    · simp only [rn0, rn1, rn2, rn3, rn4, rn5, rn6, rn7, rn8, if_true, if_false, Nat.le_refl, true_and, and_true, decide_true, decide_false, Bool.not_true, Bool.not_false, reduceIte, Nat.reduceEqDiff, Nat.reduceAdd, Nat.reduceMul, Nat.reduceSub, Nat.reduceLeDiff, Nat.reduceLT, x1, ht, ey2, ef, ex0, ex1, x2, ey3, el, x4, efl, hf, len_slice, Int.natCast_zero, haw]
    · exact absurd h0 hf
  rcases hL with ⟨h0, _⟩ | ⟨_, l, rfl, hl, hl5⟩
  · exact absurd hf h0
  obtain ⟨va, g5, ea, ha, m5⟩ := all_c (n := n) (h := g4) (by omega) (by omega) (by omega) hy4 hf
  have n5 := m5.next
  have u5 := m5.up
  have f5 := m5.floor
  have s5 : Sub All g1 g5 := s4.trans m5.sub
  have x5 := (hx1.row.mono s5).whole (n := 3) rfl
  have hy5 := hy1.mono s5
  obtain ⟨vb, g6, eb, hb, m6⟩ := leaveRef_c (n := n) (h := g5) (by omega) (by omega) (by omega) hy5 hf ha
  have n6 := m6.next
  have u6 := m6.up
  have f6 := m6.floor
  have s6 : Sub All g1 g6 := s5.trans m6.sub
  have x6 := (hx1.row.mono s6).whole (n := 3) rfl
  have hy6 := hy1.mono s6
  have es := same_c (n := n) (h := g6) (by omega) (Cells.mono hl (m5.sub.trans m6.sub)) hb (by omega)
  have hs : decide ((leaveRun Y).length = (leaveRun Y).length ∧ ∀ k, k < (leaveRun Y).length → atL (leaveRun Y) k = atL (leaveRun Y) k) = true := decide_eq_true ⟨rfl, fun _ _ => rfl⟩
  rw [hs] at es
  have er := firstRef_c (n := n) (h := g6) (by omega) (by omega) hy6 hf (Cells.mono ha m6.sub)
  have haw := awake_c (n := n) (h := g6) (by omega)
  by_cases hh : (firstRun Y).2 = true
  · have hv : firstV Y = (0, 7) := by unfold firstV; rw [if_neg (by simpa using hf), if_pos hh]
    rw [hv] at ef
    rw [if_pos hh] at er
    have hlt : (-1 : Int) < 0 := by omega
    simp only [rn0, rn1, rn2, rn3, rn4, rn5, rn6, rn7, rn8, if_true, if_false, Nat.le_refl, true_and, and_true, decide_true, decide_false, Bool.not_true, Bool.not_false, reduceIte, Nat.reduceEqDiff, Nat.reduceAdd, Nat.reduceMul, Nat.reduceSub, Nat.reduceLeDiff, Nat.reduceLT, x1, ht, ey2, ef, ex0, ex1, x2, ey3, el, x4, efl, hf, ea, x5, eb, es, x6, er, hlt, Int.reduceEq, haw]
  · have hv : firstV Y = ((firstRun Y).1, 0) := by unfold firstV; rw [if_neg (by simpa using hf), if_neg hh]
    rw [hv] at ef
    rw [if_neg hh] at er
    obtain ⟨N, h3, h4, _⟩ := first_miss (good_of hf).f (by simpa using hh)
    rw [h4] at ef er
    have hlt : ¬ (N : Int) < 0 := by omega
    simp only [rn0, rn1, rn2, rn3, rn4, rn5, rn6, rn7, rn8, if_true, if_false, Nat.le_refl, true_and, and_true, decide_true, decide_false, Bool.not_true, Bool.not_false, reduceIte, Nat.reduceEqDiff, Nat.reduceAdd, Nat.reduceMul, Nat.reduceSub, Nat.reduceLeDiff, Nat.reduceLT, x1, ht, ey2, ef, ex0, ex1, x2, ey3, el, x4, efl, hf, ea, x5, eb, es, x6, er, hlt, Int.reduceEq, haw]
end Go.Vm.Vat
