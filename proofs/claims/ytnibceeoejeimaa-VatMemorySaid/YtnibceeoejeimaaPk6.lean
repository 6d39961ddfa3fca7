/- Texts of the proofs of this seat, put together: VatNeeds, VatBounds, VmEq2, VatBounds2, VatReady, VatEnds, VatEnds2, VatSIter, VatIter2, VatWrong, VatFirst, VatSpread, VatMore, VatSpread2, VatBefore, VatLeave, VatBounds3. -/
import Derived.Test.YtnibceeoejeimaaPk5

namespace Go.Vm.Vat
open Go.Proofs
set_option linter.unusedSimpArgs false
set_option linter.unusedVariables false
set_option maxRecDepth 10000
variable {n : Nat} {h : AHeap}
/-! ### Slices without their first element -/
theorem tail_c {v : Value} {s m : Nat} {c : Nat → Nat → Value} (hc : Cells h v s m c) (hm : 0 < m) (hlong : Long v) (hf : h.next < far) :
    ∃ v' h', sliceA s false h v (some (.int .i64 1)) none none = some (v', h') ∧ Cells h' v' s (m - 1) (fun k j => c (k + 1) j) ∧ Sub All h h' ∧ h.next ≤ h'.next ∧ h'.next ≤ h.next + 1 ∧ h'.floor = h.floor ∧ oneCell v' = true ∧ ∀ g, Cells g v s m c → Cells g v' s (m - 1) (fun k j => c (k + 1) j) := by
  obtain ⟨b, o, cap, cs, w, gr, rfl, h1, h2⟩ := hc.ptr hm
  have e1 : boundA 0 (some (.int .i64 1)) = some 1 := rfl
  have e2 : boundA m none = some m := rfl
  have e3 : Nat.ble 1 m = true := ble_iff.2 hm
  have e4 : Nat.ble m m = true := ble_iff.2 (Nat.le_refl _)
  have hcell : ∀ g, Cells g (.slice (some ⟨b, o, none⟩) m cap) s m c → ∀ cp, Cells g (.slice (addrPlus (some ⟨b, o, none⟩) (1 * s)) (m - 1) cp) s (m - 1) (fun k j => c (k + 1) j) := fun g hcg cp => by
    obtain ⟨b', o', cap', cs, w, gr, e, h1, h2⟩ := hcg.ptr hm
    cases e
    have ea : addrPlus (some ⟨b, o, none⟩) (1 * s) = some ⟨b, o + s, none⟩ := by
      simp only [addrPlus, Nat.one_mul]
    rw [ea]
    refine ⟨_, cp, rfl, fun x e => by cases e; rfl, ?_⟩
    by_cases h0 : m - 1 = 0
    · exact .inl h0
    · exact .inr ⟨b, o + s, cs, w, gr, rfl, h1, fun k j hk hj => by
        have := h2 (k + 1) j (by omega) hj
        rw [Nat.add_mul, Nat.one_mul] at this
        rw [show o + s + k * s + j = o + (k * s + s) + j by omega]
        exact this⟩
  unfold sliceA
  simp only [e1, e2, e3, e4, Bool.and_self, cond_true]
  cases hc1 : Nat.blt cap unk with
  | true =>
    simp only [cond_true]
    cases hc2 : Nat.beq cap 1 with
    | true =>
      simp only [cond_true]
      by_cases h0 : m - 1 = 0
      · exact ⟨_, _, rfl, ⟨_, _, rfl, fun x e => by cases e; rfl, .inl h0⟩, Sub.refl, Nat.le_refl _, by omega, rfl, rfl, fun g _ => ⟨_, _, rfl, fun x e => by cases e; rfl, .inl h0⟩⟩
      · exact absurd (hlong _ _ _ rfl (beq_iff.1 hc2)) (by omega)
    | false =>
      simp only [cond_false]
      exact ⟨_, _, rfl, hcell h hc _, Sub.refl, Nat.le_refl _, by omega, rfl, rfl, fun g hg => hcell g hg _⟩
  | false =>
    have e5 : Nat.beq 1 0 = false := rfl
    simp only [cond_false, e5]
    cases hc3 : Nat.blt 1 m with
    | true =>
      simp only [cond_true]
      exact ⟨_, _, rfl, hcell h hc _, Sub.refl, Nat.le_refl _, by omega, rfl, rfl, fun g hg => hcell g hg _⟩
    | false =>
      have h0 : m - 1 = 0 := by
        have : ¬ 1 < m := fun h => by rw [blt_iff.2 h] at hc3; cases hc3
        omega
      simp only [cond_false]
      rw [push_run hf]
      have hmm := more_more hf none
      exact ⟨_, _, rfl, ⟨_, _, by rw [h0], fun x e => by cases e; rfl, .inl h0⟩, hmm.sub, by rw [hmm.next]; omega, by rw [hmm.next]; omega, hmm.floor, rfl, fun g _ => ⟨_, _, by rw [h0], fun x e => by cases e; rfl, .inl h0⟩⟩
def blueWith (Y : MY) (v f : Nat) (many : Nat) (t : Nat → Int) : Int := blueN t (Y.q v) Y.nf + many * t f
def s119 : SCode := (.seq (.ops [⟨(some 5), none, .box (T 0)⟩, ⟨(some 6), none, .mov (.const (.int .i64 (0)))⟩]) (.seq (.draw [⟨.rd1, ⟨(some 7), none, .loadN 4 (T 1)⟩⟩, ⟨.rd1, ⟨(some 8), none, .loadN 5 (T 5)⟩⟩, ⟨.rd1, ⟨(some 9), none, .load1 (T 2)⟩⟩, ⟨.up, ⟨(some 10), none, .call (.func 77) [(T 7), (T 8), (T 9)]⟩⟩, ⟨.rd, ⟨(some 11), none, .load1 (T 3)⟩⟩, ⟨.rd, ⟨(some 12), none, .load1 (T 4)⟩⟩, ⟨.free, ⟨(some 13), none, .idxArr 5 1 (T 5) (T 12)⟩⟩, ⟨.rd, ⟨(some 14), none, .load1 (T 13)⟩⟩, ⟨.free, ⟨(some 15), none, .int2 .mul (T 11) (T 14)⟩⟩, ⟨.free, ⟨(some 16), none, .int2 .add (T 10) (T 15)⟩⟩, ⟨.free, ⟨(some 6), none, .mov (T 16)⟩⟩]) .ret))
theorem fok119 : FnOk Try.prog 119 17 s119 [.tmp 6] := ⟨Try.f119, _, Try.func119, rfl, Try.ntmps119, by kernel_rfl, by kernel_rfl⟩
theorem sureBlue1_c (hn : 10003 ≤ n) (hr : h.next + 10 < far) {F V S T : Value} {Y : MY} {t : Nat → Int} {p0 p1 p2 p3 v f many : Nat} (ha : AtVat h V Y t) (h1 : allB oneCell [F, V, S, T] = true) (hv : v < Y.nv) (hf : f < Y.nf) (hm : many ≤ 100)
    (r0 : Row h p0 [F, V, S, T]) (r1 : Row h p1 [.int .i64 (v : Int)]) (r2 : Row h p2 [.int .i64 (many : Int)]) (r3 : Row h p3 [.int .i64 (f : Int)]) :
    call n (.func (.func 119) ⟨[]⟩ ⟨[.pointer (some ⟨p0, 0, none⟩), .pointer (some ⟨p1, 0, none⟩), .pointer (some ⟨p2, 0, none⟩), .pointer (some ⟨p3, 0, none⟩)]⟩) [.agg ⟨arr t⟩] h = some (.int .i64 (blueWith Y v f many t), h) := by
  obtain ⟨n, rfl⟩ : ∃ p, n = p + 1 := ⟨n - 1, by omega⟩
  refine call_plain (xs := []) (ys := [.pointer (some ⟨p0, 0, none⟩), .pointer (some ⟨p1, 0, none⟩), .pointer (some ⟨p2, 0, none⟩), .pointer (some ⟨p3, 0, none⟩)]) fok119 rfl rfl (by simp) rfl ?_
  have hsub : Sub All h h.shutAll := fun _ _ _ _ _ h => h
  have ha := ha.mono hsub
  have r0 := r0.mono hsub
  have r1 := r1.mono hsub
  have r2 := r2.mono hsub
  have r3 := r3.mono hsub
  have hr : h.shutAll.next + 10 < far := hr
  generalize h.shutAll = h at ha r0 r1 r2 r3 hr
  simp only [s119, List.cons_append, List.nil_append, W_seq, W_ops]
  refine ops_box (cs := arr t) (by omega) rfl arr_one fun g1 hx1 => ?_
  have n1 := hx1.next
  have ha := ha.mono hx1.sub
  have w0 := (r0.mono hx1.sub).whole (n := 4) rfl
  have w1 := r1.mono hx1.sub
  have w2 := r2.mono hx1.sub
  have w3 := r3.mono hx1.sub
  have w5 := hx1.row.whole arr_len
  obtain ⟨v1, v2⟩ := ha.ok v hv
  have ei := inVat_c (n := n) (h := g1) (b := t) (F := F) (S := S) (T := T) (at_ := v) (by omega) (by omega) ha.v h1 hv v1 ha.sz ha.b (fun i hi => v2 i (by omega))
  have hsz := ha.sz
  obtain ⟨b1, b2⟩ := blueN_bound (b := t) (q := Y.q v) (n := Y.nf) (by omega) ha.b (fun i hi => v2 i (by omega)) Y.nf (Nat.le_refl _)
  obtain ⟨t1, t2⟩ := ha.b f hf
  have m1 : (0 : Int) ≤ (many : Int) * t f := Int.mul_nonneg (by omega) t1
  have m2 : (many : Int) * t f ≤ 100 * 20 := Int.mul_le_mul (by omega) t2 t1 (by omega)
  have hw1 : wrapF .i64 ((many : Int) * t f) = many * t f := wrap_in (by omega) (by omega)
  have hw2 : wrapF .i64 (blueN t (Y.q v) Y.nf + many * t f) = blueWith Y v f many t := by rw [wrap_in (by omega) (by omega)]; rfl
  have hl : loadCell g1 (.pointer (some ⟨h.next, f, none⟩)) = some (.int .i64 (t f)) := by rw [hx1.row.ld, arr_get (by omega)]
  simp only [rn0, rn1, rn2, rn3, rn4, rn5, rn6, rn7, rn8, if_true, if_false, Nat.le_refl, true_and, and_true, decide_true, decide_false, Bool.not_true, Bool.not_false, reduceIte, Nat.reduceEqDiff, Nat.reduceAdd, Nat.reduceMul, Nat.reduceSub, Nat.reduceLeDiff, Nat.reduceLT]
  refine W_draw All ?_
  simp only [rn0, rn1, rn2, rn3, rn4, rn5, rn6, rn7, rn8, if_true, if_false, Nat.le_refl, true_and, and_true, decide_true, decide_false, Bool.not_true, Bool.not_false, reduceIte, Nat.reduceEqDiff, Nat.reduceAdd, Nat.reduceMul, Nat.reduceSub, Nat.reduceLeDiff, Nat.reduceLT, w0, w1.ld, w2.ld, w3.ld, w5, ei, List.getElem?_cons_zero, idxArr_p (l := 5) (k := f) (by omega), Nat.zero_add, hl, hw1, hw2]
/-- what is surely in the vat, with so many further bundles -/
def sureN (Y : MY) (v f many : Nat) (L : List (Nat → Int)) : Int := minN (blueWith Y v f many (L.getD 0 fun _ => 0)) (fun i => blueWith Y v f many (L.getD (i + 1) fun _ => 0)) (L.length - 1)
theorem truths_range {Y : MY} (hf : faultN Y = 0) {t : Nat → Int} (ht : t ∈ truths Y) : ∀ k, k < Y.nf → 0 ≤ t k ∧ t k ≤ 20 := fun k hk => by
  have h1 := (truths_mem.1 ht).1.1 k hk
  have h2 := (good_of hf).f k hk
  omega
theorem truths_at {Y : MY} {i : Nat} (hi : i < (truths Y).length) : (truths Y).getD i (fun _ => 0) ∈ truths Y := by rw [List.getD_eq_getElem?_getD, List.getElem?_eq_getElem hi]; exact List.getElem_mem hi
def s99 : SCode := (.seq (.ops [⟨(some 4), none, .box (T 0)⟩, ⟨(some 5), none, .box (T 1)⟩, ⟨(some 6), none, .box (T 2)⟩, ⟨(some 7), none, .box (T 3)⟩, ⟨(some 8), none, .mov (.const (.int .i64 (0)))⟩]) (.seq (.ops [⟨(some 13), none, .mkfunc 119 [] [(T 4), (T 5), (T 7), (T 6)]⟩, ⟨(some 9), none, .mov (T 13)⟩]) (.seq (.ops [⟨(some 14), none, .mov (T 9)⟩, ⟨(some 15), none, .fieldAddr 3 (T 4)⟩, ⟨(some 16), none, .load1 (T 15)⟩, ⟨(some 17), none, .idxSl 5 (T 16) (.const (.int .i64 (0)))⟩, ⟨(some 18), none, .loadN 5 (T 17)⟩, ⟨(some 19), none, .call (T 14) [(T 18)]⟩, ⟨(some 10), none, .mov (T 19)⟩]) (.seq (.seq (.ops [⟨(some 20), none, .fieldAddr 3 (T 4)⟩, ⟨(some 21), none, .load1 (T 20)⟩, ⟨(some 22), none, .slice 5 (T 21) (some (.const (.int .i64 (1)))) none none⟩, ⟨(some 23), none, .len (T 22)⟩, ⟨(some 24), none, .mov (.const (.int .i64 (0)))⟩]) (.block 0 (.loop (.seq (.ops [⟨(some 25), none, .int2 .lss (T 24) (T 23)⟩]) (.seq (.cond (T 25) .skip (.exit 0)) (.seq (.block 1 (.seq (.ops [⟨(some 26), none, .idxSl 5 (T 22) (T 24)⟩, ⟨(some 27), none, .loadN 5 (T 26)⟩, ⟨(some 12), none, .alloc [(.int .i64 (0)), (.int .i64 (0)), (.int .i64 (0)), (.int .i64 (0)), (.int .i64 (0))]⟩, ⟨none, none, .store 5 (T 12) (T 27)⟩]) (.ops [⟨(some 28), none, .mov (T 10)⟩, ⟨(some 29), none, .mov (T 9)⟩, ⟨(some 30), none, .loadN 5 (T 12)⟩, ⟨(some 31), none, .call (T 29) [(T 30)]⟩, ⟨(some 32), none, .bslice 1 1 [(.int .i64 (0))] [0] [(T 31)]⟩, ⟨(some 33), none, .call (.func 94) [(T 28), (T 32)]⟩, ⟨(some 10), none, .mov (T 33)⟩]))) (.ops [⟨(some 34), none, .int2 .add (T 24) (.const (.int .i64 (1)))⟩, ⟨(some 24), none, .mov (T 34)⟩]))))))) (.seq (.ops [⟨(some 35), none, .mov (T 10)⟩, ⟨(some 8), none, .mov (T 35)⟩]) .ret)))))
theorem fok99 : FnOk Try.prog 99 36 s99 [.tmp 8] := ⟨Try.f99, _, Try.func99, rfl, Try.ntmps99, by kernel_rfl, by kernel_rfl⟩
theorem sureBlue_c (hn : 10010 ≤ n) (hr : h.next + 100000 < far) {F V S tv : Value} {Y : MY} {v f many : Nat} (hy : YardR h F V S Y) (hf0 : faultN Y = 0) (hL : truths Y ≠ []) (htr : TruthsR h tv (truths Y)) (hlong : Long tv) (hv : v < Y.nv) (hf : f < Y.nf) (hm : many ≤ 100) :
    call n (.func (.func 99) #[] #[]) [.agg ⟨[F, V, S, tv]⟩, .int .i64 (v : Int), .int .i64 (f : Int), .int .i64 (many : Int)] h = some (.int .i64 (sureN Y v f many (truths Y)), h) := by
  obtain ⟨n, rfl⟩ : ∃ p, n = p + 1 := ⟨n - 1, by omega⟩
  refine call_plain0 fok99 rfl rfl (by simp) rfl ?_
  have hy := hy.shut
  have htr : TruthsR h.shutAll tv (truths Y) := Cells.shut htr
  have hr : h.shutAll.next + 100000 < far := hr
  have hfl : h.shutAll.floor ≤ h.shutAll.next := Nat.le_refl _
  generalize h.shutAll = h at hy htr hr hfl
  have hG := good_of hf0
  have hpos : 0 < (truths Y).length := List.length_pos_iff.2 hL
  have hlen := truths_len hf0
  have ho4 : allB oneCell [F, V, S, tv] = true := by have h1 := hy.one; have h2 := Cells.one htr; simp [allB] at h1 ⊢; simp [h1, h2]
  simp only [s99, W_seq, W_ops]
  refine ops_box (cs := [F, V, S, tv]) (by omega) rfl ho4 fun g1 hx1 => ?_
  refine ops_box (cs := [.int .i64 (v : Int)]) (by rw [hx1.next]; omega) rfl rfl fun g2 hx2 => ?_
  refine ops_box (cs := [.int .i64 (f : Int)]) (by rw [hx2.next, hx1.next]; omega) rfl rfl fun g3 hx3 => ?_
  refine ops_box (cs := [.int .i64 (many : Int)]) (by rw [hx3.next, hx2.next, hx1.next]; omega) rfl rfl fun g4 hx4 => ?_
  have n1 := hx1.next
  have n2 := hx2.next
  have n3 := hx3.next
  have n4 := hx4.next
  have r0 := ((hx1.row.mono hx2.sub).mono hx3.sub).mono hx4.sub
  have r1 := (hx2.row.mono hx3.sub).mono hx4.sub
  have r3 := hx3.row.mono hx4.sub
  have r2 := hx4.row
  have s4 : Sub All h g4 := hx1.sub.trans (hx2.sub.trans (hx3.sub.trans hx4.sub))
  have f4 : g4.floor = h.floor := by rw [hx4.floor, hx3.floor, hx2.floor, hx1.floor]
  have htr4 : TruthsR g4 tv (truths Y) := Cells.mono htr s4
  have hat : ∀ {g : AHeap} {t : Nat → Int}, Sub All h g → t ∈ truths Y → AtVat g V Y t := fun hs ht => ⟨(hy.mono hs).v, hG.sz.1, hG.v, truths_range hf0 ht⟩
  have q0 := truths_ld htr4 hpos
  have e0 := sureBlue1_c (n := n) (h := g4) (F := F) (S := S) (T := tv) (t := (truths Y).getD 0 fun _ => 0) (v := v) (f := f) (many := many) (by omega) (by omega) (hat s4 (truths_at hpos)) ho4 hv hf hm r0 r1 r2 r3
  have i0 : indexSl 5 tv (.int .i64 0) = some (ptrO tv 5 0 0) := Cells.idx htr4 hpos
  obtain ⟨tl, g5, et, ht5, s5, u5, b5, f5, o5, _⟩ := tail_c htr4 hpos hlong (by omega)
  simp only [rn0, rn1, rn2, rn3, rn4, rn5, rn6, rn7, rn8, if_true, if_false, Nat.le_refl, true_and, and_true, decide_true, decide_false, Bool.not_true, Bool.not_false, reduceIte, Nat.reduceEqDiff, Nat.reduceAdd, Nat.reduceMul, Nat.reduceSub, Nat.reduceLeDiff, Nat.reduceLT, r0.ld, Nat.zero_add, List.getElem?_cons_zero, List.getElem?_cons_succ, i0, q0, e0, Option.isSome_none, Option.map_some, Option.map_none, et, Cells.len ht5]
  refine W_loop ((truths Y).length - 1) (fun k f' g ms => (Sub All g5 g ∧ g.floor = g5.floor ∧ g5.next ≤ g.next ∧ g.next ≤ g5.next + 2 * k) ∧ ms = [] ∧
    f' 9 = .func (.func 119) ⟨[]⟩ ⟨[.pointer (some ⟨h.next, 0, none⟩), .pointer (some ⟨g1.next, 0, none⟩), .pointer (some ⟨g3.next, 0, none⟩), .pointer (some ⟨g2.next, 0, none⟩)]⟩ ∧
    f' 10 = .int .i64 (minN (blueWith Y v f many ((truths Y).getD 0 fun _ => 0)) (fun i => blueWith Y v f many ((truths Y).getD (i + 1) fun _ => 0)) k) ∧ f' 22 = tl ∧ f' 23 = .int .i64 (((truths Y).length - 1 : Nat) : Int) ∧ f' 24 = .int .i64 (k : Int)) (by simp; omega) ?_ ?_ ?_
  · simp only [rn0, rn1, rn2, rn3, rn4, rn5, rn6, rn7, rn8, if_true, if_false, Nat.le_refl, true_and, and_true, decide_true, decide_false, Bool.not_true, Bool.not_false, reduceIte, Nat.reduceEqDiff, Nat.reduceAdd, Nat.reduceMul, Nat.reduceSub, Nat.reduceLeDiff, Nat.reduceLT]
    exact ⟨by omega, rfl, rfl⟩
  · rintro k f' g ms hk ⟨⟨hs, hfg, hup, hnx⟩, rfl, f9, f10, f22, f23, f24⟩
    have hk' : (k : Int) < (((truths Y).length - 1 : Nat) : Int) := by omega
    have hw : wrapF .i64 ((k : Int) + 1) = ((k + 1 : Nat) : Int) := by rw [wrap_in (by omega) (by omega)]; rfl
    have ht := Cells.mono ht5 hs
    have hld : loadAgg 5 g (ptrO tl 5 k 0) = some (.agg ⟨arr ((truths Y).getD (k + 1) fun _ => 0)⟩) := by
      rw [Cells.ldN ht hk (by omega) (by omega)]; simp [arr, List.range_succ]
    simp only [rn0, rn1, rn2, rn3, rn4, rn5, rn6, rn7, rn8, if_true, if_false, Nat.le_refl, true_and, and_true, decide_true, decide_false, Bool.not_true, Bool.not_false, reduceIte, Nat.reduceEqDiff, Nat.reduceAdd, Nat.reduceMul, Nat.reduceSub, Nat.reduceLeDiff, Nat.reduceLT, f9, f10, f22, f23, f24, hk', Cells.idx ht hk, hld]
    refine step_new (vs := arr ((truths Y).getD (k + 1) fun _ => 0)) (by omega) (by omega) rfl (by simp only [rn0, rn1, rn2, rn3, rn4, rn5, rn6, rn7, rn8, if_true, if_false, Nat.le_refl, true_and, and_true, decide_true, decide_false, Bool.not_true, Bool.not_false, reduceIte, Nat.reduceEqDiff, Nat.reduceAdd, Nat.reduceMul, Nat.reduceSub, Nat.reduceLeDiff, Nat.reduceLT]; rfl) arr_one arr_len rfl fun g6 hx6 => ?_
    have n6 := hx6.next
    have f6 := hx6.floor
    have s46 : Sub All g4 g6 := s5.trans (hs.trans hx6.sub)
    have e6 := sureBlue1_c (n := n) (h := g6) (F := F) (S := S) (T := tv) (t := (truths Y).getD (k + 1) fun _ => 0) (v := v) (f := f) (many := many) (by omega) (by omega) (hat (s4.trans s46) (truths_at (by omega))) ho4 hv hf hm (r0.mono s46) (r1.mono s46) (r2.mono s46) (r3.mono s46)
    simp only [rn0, rn1, rn2, rn3, rn4, rn5, rn6, rn7, rn8, if_true, if_false, Nat.le_refl, true_and, and_true, decide_true, decide_false, Bool.not_true, Bool.not_false, reduceIte, Nat.reduceEqDiff, Nat.reduceAdd, Nat.reduceMul, Nat.reduceSub, Nat.reduceLeDiff, Nat.reduceLT, f9, f10, f22, f23, f24, hx6.row.whole arr_len, e6, sl_int]
    refine step_slice (by omega) rfl fun g7 hx7 => ?_
    have n7 := hx7.next
    have f7 := hx7.floor
    have hone : Ints g7 (.slice (some ⟨g6.next, 0, none⟩) 1 1) 1 (fun _ => blueWith Y v f many ((truths Y).getD (k + 1) fun _ => 0)) := ⟨_, _, rfl, fun x e => by cases e; rfl, .inr ⟨_, 0, _, _, _, rfl, hx7.get, fun i j hi hj => by
      have hi : i = 0 := by omega
      have hj : j = 0 := by omega
      subst hi hj; rfl⟩⟩
    have em := minimum_c (n := n) (h := g7) (m := 1) (by omega) (by omega) hone (minN (blueWith Y v f many ((truths Y).getD 0 fun _ => 0)) (fun i => blueWith Y v f many ((truths Y).getD (i + 1) fun _ => 0)) k)
    simp only [rn0, rn1, rn2, rn3, rn4, rn5, rn6, rn7, rn8, if_true, if_false, Nat.le_refl, true_and, and_true, decide_true, decide_false, Bool.not_true, Bool.not_false, reduceIte, Nat.reduceEqDiff, Nat.reduceAdd, Nat.reduceMul, Nat.reduceSub, Nat.reduceLeDiff, Nat.reduceLT, f9, f10, f22, f23, f24, em, hw]
    exact ⟨⟨hs.trans (hx6.sub.trans hx7.sub), by omega, by omega, by omega⟩, rfl⟩
  · rintro f' g ms ⟨⟨hs, hfg, hup, hnx⟩, rfl, f9, f10, f22, f23, f24⟩
    simp only [rn0, rn1, rn2, rn3, rn4, rn5, rn6, rn7, rn8, if_true, if_false, Nat.le_refl, true_and, and_true, decide_true, decide_false, Bool.not_true, Bool.not_false, reduceIte, Nat.reduceEqDiff, Nat.reduceAdd, Nat.reduceMul, Nat.reduceSub, Nat.reduceLeDiff, Nat.reduceLT, f9, f10, f22, f23, f24, Int.lt_irrefl]
    rfl
end Go.Vm.Vat

namespace Go.Vm.Vat
open Go.Proofs
set_option linter.unusedSimpArgs false
set_option linter.unusedVariables false
set_option maxRecDepth 10000
variable {n : Nat} {h : AHeap}
/-! ### Bounds in all truths -/
def maxN (x : Int) (a : Nat → Int) : Nat → Int
  | 0 => x
  | i + 1 => max (maxN x a i) (a i)
theorem map_splice {F F' : Nat → Value} {m off : Nat} {vs : List Value} (hl : off + vs.length ≤ m) (h1 : ∀ i, i < m → (i < off ∨ off + vs.length ≤ i) → F' i = F i) (h2 : ∀ j, j < vs.length → vs[j]? = some (F' (off + j))) :
    splice ((List.range m).map F) off vs = (List.range m).map F' := by
  apply List.ext_getElem?
  intro i
  have hlen : ((List.range m).map F).length = m := by simp
  simp only [splice]
  by_cases hi : i < m
  · rw [List.getElem?_map, List.getElem?_range hi]
    by_cases c1 : i < off
    · rw [List.getElem?_append_left (by simp [hlen]; omega), List.getElem?_take, if_pos c1, List.getElem?_map, List.getElem?_range hi]
      simp [h1 i hi (.inl c1)]
    · rw [List.getElem?_append_right (by simp [hlen]; omega)]
      have e : (List.take off ((List.range m).map F)).length = off := by simp [hlen]; omega
      rw [e]
      by_cases c2 : i < off + vs.length
      · rw [List.getElem?_append_left (by omega), h2 (i - off) (by omega)]
        simp [show off + (i - off) = i by omega]
      · rw [List.getElem?_append_right (by omega), List.getElem?_drop, show off + vs.length + (i - off - vs.length) = i by omega, List.getElem?_map, List.getElem?_range hi]
        simp [h1 i hi (.inr (by omega))]
  · rw [List.getElem?_eq_none (by simp; omega), List.getElem?_eq_none (by simp [hlen]; omega)]
theorem splice2 {a b c d : Value} : splice [a, b] 0 [c, d] = [c, d] := rfl
/-- so many ranges of which the first k are there -/
def mixR (k : Nat) (lo hi : Nat → Int) (i : Nat) : Value := .int .i64 (if i < 2 * k then (if i % 2 = 0 then lo (i / 2) else hi (i / 2)) else 0)
theorem mixR_one {m k : Nat} {lo hi : Nat → Int} : allB oneCell ((List.range m).map (mixR k lo hi)) = true := by rw [allB_iff]; intro v hv; obtain ⟨i, _, rfl⟩ := List.mem_map.1 hv; rfl
theorem mixR_splice {m k : Nat} {lo hi : Nat → Int} (hk : k < m) : splice ((List.range (2 * m)).map (mixR k lo hi)) (k * 2) [.int .i64 (lo k), .int .i64 (hi k)] = (List.range (2 * m)).map (mixR (k + 1) lo hi) := by
  refine map_splice (by simp; omega) (fun i hi hc => ?_) (fun j hj => ?_)
  · simp only [List.length_cons, List.length_nil] at hc
    simp only [mixR]
    congr 1
    by_cases c : i < 2 * k
    · rw [if_pos c, if_pos (by omega)]
    · rw [if_neg c, if_neg (by omega)]
  · simp only [List.length_cons, List.length_nil] at hj
    rcases j with _ | _ | j
    · simp only [mixR, Nat.add_zero, List.getElem?_cons_zero]
      rw [if_pos (by omega), if_pos (by omega), show k * 2 / 2 = k by omega]
    · simp only [mixR, List.getElem?_cons_succ, List.getElem?_cons_zero]
      rw [if_pos (by omega), if_neg (by omega), show (k * 2 + (0 + 1)) / 2 = k by omega]
    · omega
theorem repl_mixR {m : Nat} {lo hi : Nat → Int} : repl [.int .i64 0, .int .i64 0] m = (List.range (2 * m)).map (mixR 0 lo hi) := by
  have h0 : ∀ i, mixR 0 lo hi i = .int .i64 0 := fun i => by simp [mixR]
  have : ∀ m, repl [(.int .i64 0 : Value), .int .i64 0] m = List.replicate (2 * m) (.int .i64 0) := by
    intro m
    induction m with
    | zero => rfl
    | succ m ih => rw [repl, ih, show 2 * (m + 1) = 2 * m + 1 + 1 by omega, List.replicate_succ, List.replicate_succ]; rfl
  rw [this]
  apply List.ext_getElem?
  intro i
  by_cases hi : i < 2 * m
  · rw [List.getElem?_replicate, if_pos hi, List.getElem?_map, List.getElem?_range hi]; simp [h0]
  · rw [List.getElem?_eq_none (by simp; omega), List.getElem?_eq_none (by simp; omega)]
theorem make_ranges {z : List Value} {m : Nat} (hm : m ≤ 1000) : makeSl 2 16 z h (.int .i64 (m : Int)) (.int .i64 (m : Int)) = newSlice h (repl z m) m m 0 := by
  show (bif Nat.ble m m && Nat.ble (m * 16) maxBytes && Nat.ble m maxBytes then newSlice h (repl z m) m m 0 else none) = _
  have e1 : Nat.ble m m = true := ble_iff.2 (Nat.le_refl _)
  have e2 : Nat.ble (m * 16) maxBytes = true := ble_iff.2 (by simp [maxBytes]; omega)
  have e3 : Nat.ble m maxBytes = true := ble_iff.2 (by simp [maxBytes]; omega)
  rw [e1, e2, e3]; rfl
theorem idxSl_s {s k m c o : Nat} (hk : k < m) : indexSl s (.slice (some ⟨o, 0, none⟩) m c) (.int .i64 (k : Int)) = some (.pointer (some ⟨o, k * s, none⟩)) := by
  show placeAt ⟨o, 0, none⟩ (Int.ofNat k) m s = _
  unfold placeAt
  simp only [blt_iff.2 hk, cond_true, Nat.zero_add]
/-- the bounds of what is measured -/
def loN (val : (Nat → Int) → Int) (L : List (Nat → Int)) : Int := minN (val (L.getD 0 fun _ => 0)) (fun i => val (L.getD (i + 1) fun _ => 0)) (L.length - 1)
def hiN (val : (Nat → Int) → Int) (L : List (Nat → Int)) : Int := maxN (val (L.getD 0 fun _ => 0)) (fun i => val (L.getD (i + 1) fun _ => 0)) (L.length - 1)
def s90 : SCode := (.seq (.ops [⟨(some 3), none, .box (T 0)⟩, ⟨(some 4), none, .box (T 1)⟩, ⟨(some 6), none, .mov (.const (.slice none 0 0))⟩]) (.seq (.ops [⟨(some 14), none, .mov (T 2)⟩, ⟨(some 15), none, .mkslice 2 16 [(.int .i64 (0)), (.int .i64 (0))] (T 14) (T 14)⟩, ⟨(some 7), none, .mov (T 15)⟩]) (.seq (.seq (.ops [⟨(some 16), none, .mov (T 2)⟩, ⟨(some 17), none, .mov (.const (.int .i64 (0)))⟩]) (.block 0 (.loop (.seq (.ops [⟨(some 18), none, .int2 .lss (T 17) (T 16)⟩]) (.seq (.cond (T 18) .skip (.exit 0)) (.seq (.block 1 (.seq (.ops [⟨(some 19), none, .mov (T 17)⟩, ⟨(some 8), none, .mov (T 19)⟩]) (.seq (.draw [⟨.free, ⟨(some 20), none, .fieldAddr 0 (T 3)⟩⟩, ⟨.rd1, ⟨(some 21), none, .load1 (T 20)⟩⟩, ⟨.rd1, ⟨(some 22), none, .loadN 4 (T 4)⟩⟩, ⟨.free, ⟨(some 23), none, .fieldAddr 3 (T 4)⟩⟩, ⟨.rd1, ⟨(some 24), none, .load1 (T 23)⟩⟩, ⟨.free, ⟨(some 25), none, .idxSl 5 (T 24) (.const (.int .i64 (0)))⟩⟩, ⟨.rd1, ⟨(some 26), none, .loadN 5 (T 25)⟩⟩, ⟨.free, ⟨(some 27), none, .mov (T 8)⟩⟩, ⟨.any, ⟨(some 28), none, .call (T 21) [(T 22), (T 26), (T 27)]⟩⟩, ⟨.free, ⟨(some 9), none, .mov (T 28)⟩⟩]) (.seq (.ops [⟨(some 29), none, .mov (T 9)⟩, ⟨(some 30), none, .mov (T 9)⟩, ⟨(some 31), none, .build #[(0, 1), (1, 1)] [(.int .i64 (0)), (.int .i64 (0))] [0, 1] [(T 29), (T 30)]⟩, ⟨(some 10), none, .alloc [(.int .i64 (0)), (.int .i64 (0))]⟩, ⟨none, none, .store 2 (T 10) (T 31)⟩]) (.seq (.seq (.ops [⟨(some 32), none, .fieldAddr 3 (T 4)⟩, ⟨(some 33), none, .load1 (T 32)⟩, ⟨(some 34), none, .slice 5 (T 33) (some (.const (.int .i64 (1)))) none none⟩, ⟨(some 35), none, .len (T 34)⟩, ⟨(some 36), none, .mov (.const (.int .i64 (0)))⟩]) (.block 2 (.loop (.seq (.ops [⟨(some 37), none, .int2 .lss (T 36) (T 35)⟩]) (.seq (.cond (T 37) .skip (.exit 2)) (.seq (.block 3 (.seq (.ops [⟨(some 38), none, .idxSl 5 (T 34) (T 36)⟩, ⟨(some 39), none, .loadN 5 (T 38)⟩, ⟨(some 12), none, .alloc [(.int .i64 (0)), (.int .i64 (0)), (.int .i64 (0)), (.int .i64 (0)), (.int .i64 (0))]⟩, ⟨none, none, .store 5 (T 12) (T 39)⟩]) (.seq (.ops [⟨(some 40), none, .fieldAddr 0 (T 3)⟩, ⟨(some 41), none, .load1 (T 40)⟩, ⟨(some 42), none, .loadN 4 (T 4)⟩, ⟨(some 43), none, .loadN 5 (T 12)⟩, ⟨(some 44), none, .mov (T 8)⟩, ⟨(some 45), none, .call (T 41) [(T 42), (T 43), (T 44)]⟩, ⟨(some 13), none, .mov (T 45)⟩]) (.draw [⟨.free, ⟨(some 46), none, .fieldAddr 0 (T 10)⟩⟩, ⟨.rd, ⟨(some 47), none, .load1 (T 46)⟩⟩, ⟨.free, ⟨(some 48), none, .mov (T 13)⟩⟩, ⟨.up, ⟨(some 49), none, .bslice 1 1 [(.int .i64 (0))] [0] [(T 48)]⟩⟩, ⟨.up, ⟨(some 50), none, .call (.func 94) [(T 47), (T 49)]⟩⟩, ⟨.free, ⟨(some 51), none, .fieldAddr 1 (T 10)⟩⟩, ⟨.rd, ⟨(some 52), none, .load1 (T 51)⟩⟩, ⟨.free, ⟨(some 53), none, .mov (T 13)⟩⟩, ⟨.free, ⟨(some 54), none, .plain (.call { callee := .builtin .max, args := #[(T 52), (T 53)], argTypes := #[3, 3] }) 3⟩⟩, ⟨.free, ⟨(some 55), none, .build #[(0, 1), (1, 1)] [(.int .i64 (0)), (.int .i64 (0))] [0, 1] [(T 50), (T 54)]⟩⟩, ⟨.any, ⟨none, none, .store 2 (T 10) (T 55)⟩⟩])))) (.ops [⟨(some 56), none, .int2 .add (T 36) (.const (.int .i64 (1)))⟩, ⟨(some 36), none, .mov (T 56)⟩]))))))) (.ops [⟨(some 57), none, .mov (T 7)⟩, ⟨(some 58), none, .mov (T 8)⟩, ⟨(some 59), none, .loadN 2 (T 10)⟩, ⟨(some 60), none, .idxSl 2 (T 57) (T 58)⟩, ⟨none, none, .store 2 (T 60) (T 59)⟩])))))) (.ops [⟨(some 61), none, .int2 .add (T 17) (.const (.int .i64 (1)))⟩, ⟨(some 17), none, .mov (T 61)⟩]))))))) (.seq (.ops [⟨(some 62), none, .mov (T 7)⟩, ⟨(some 6), none, .mov (T 62)⟩]) .ret))))
theorem fok90 : FnOk Try.prog 90 63 s90 [.tmp 6] := ⟨Try.f90, _, Try.func90, rfl, Try.ntmps90, by kernel_rfl, by kernel_rfl⟩
end Go.Vm.Vat

namespace Go.Vm
variable {P : Program} {N : Nat} {f : Fr} {h : AHeap} {ty t u e : TypeId} {x y : Operand}
/-! ### Structs of two integers, compared -/
theorem pr_eqTwo {d : Nat} {f0 f1 : Field} {a0 a1 b0 b1 : Int} (ht : P.underlying t = some (.struct #[f0, f1])) (hp : P.stoodInHeld t = false) (n0 : f0.name ≠ "_") (n1 : f1.name ≠ "_") (o0 : f0.offset = 0) (o1 : f1.offset = 1)
    (e0 : P.underlying f0.type = some (.int .i64)) (e1 : P.underlying f1.type = some (.int .i64)) :
    pureRun P (Op.equalIn (d + 2) t (.agg ⟨[.int .i64 a0, .int .i64 a1]⟩) (.agg ⟨[.int .i64 b0, .int .i64 b1]⟩)) = some (decide (a0 = b0 ∧ a1 = b1)) := by
  have x0 : ∀ (p q : Int), pureRun P (part f0.type ⟨[.int .i64 p, .int .i64 q]⟩ f0.offset) = some (.int .i64 p) := fun p q => pr_part e0 (by rw [o0]; rfl)
  have x1 : ∀ (p q : Int), pureRun P (part f1.type ⟨[.int .i64 p, .int .i64 q]⟩ f1.offset) = some (.int .i64 q) := fun p q => pr_part e1 (by rw [o1]; rfl)
  rw [Op.equalIn]
  simp only [pureRun_bind, pr_under ht, Option.bind_some, pr_program, hp, Bool.false_eq_true, if_false]
  rw [← Array.forIn_toList]
  simp only [List.forIn_cons, List.forIn_nil, pureRun_bind, n0, n1, ne_eq, not_false_eq_true, if_true, x0, pr_eqInt e0, Option.bind_some]
  by_cases c0 : a0 = b0 <;> by_cases c1 : a1 = b1 <;> simp [c0, c1, pr_pure, pureRun_bind, x1, pr_eqInt e1]
theorem plainF_neqTwo {f0 f1 : Field} {a0 a1 b0 b1 : Int} (hx : valN N f x = .agg ⟨[.int .i64 a0, .int .i64 a1]⟩) (hy : valN N f y = .agg ⟨[.int .i64 b0, .int .i64 b1]⟩) (hg : P.eqGuardType P.depth t = false)
    (ht : P.underlying t = some (.struct #[f0, f1])) (hp : P.stoodInHeld t = false) (n0 : f0.name ≠ "_") (n1 : f1.name ≠ "_") (o0 : f0.offset = 0) (o1 : f1.offset = 1)
    (e0 : P.underlying f0.type = some (.int .i64)) (e1 : P.underlying f1.type = some (.int .i64)) :
    plainF P N (.binOp .neq t x y u) ty f h = some (.bool (!(decide (a0 = b0 ∧ a1 = b1))), h) := by
  unfold plainF
  have : allB (fun x => plainV (valN N f x)) (Op.binOp .neq t x y u).operands.toList = true := by simp [Op.operands, allB, hx, hy, plainV, plainE, plainCell]
  rw [this]
  have e : pureRun P (execOp (valN N f) (bare (.binOp .neq t x y u) ty)) = some (.value (.bool (!(decide (a0 = b0 ∧ a1 = b1))))) := by
    simp only [execOp, bare, hx, hy, pureRun_bind, pr_guard hg, Option.bind_some, binOp, Op.equal, Op.maxDepth, pr_eqTwo ht hp n0 n1 o0 o1 e0 e1, pr_pure]
  rw [e]
  rfl
theorem binA_neqAgg {op : Op} {l r : Array Value} : binA P N .neq op ty (.agg l) (.agg r) f h = plainF P N op ty f h := id rfl
end Go.Vm

namespace Go.Vm.Vat
open Go.Proofs
set_option linter.unusedSimpArgs false
set_option linter.unusedVariables false
set_option maxRecDepth 10000
variable {n : Nat} {h : AHeap}
def s91 : SCode := (.seq (.ops [⟨(some 3), none, .box (T 0)⟩, ⟨(some 4), none, .box (T 1)⟩, ⟨(some 6), none, .mov (.const (.int .i64 (0)))⟩]) (.seq (.ops [⟨(some 7), none, .mov (T 2)⟩, ⟨(some 8), none, .idxArr 5 1 (T 4) (T 7)⟩, ⟨(some 9), none, .load1 (T 8)⟩, ⟨(some 6), none, .mov (T 9)⟩]) .ret))
theorem fok91 : FnOk Try.prog 91 10 s91 [.tmp 6] := ⟨Try.f91, _, Try.func91, rfl, Try.ntmps91, by kernel_rfl, by kernel_rfl⟩
theorem inBundle_c (hn : 1 ≤ n) (hr : h.next + 3 < far) {F V S T : Value} (h1 : allB oneCell [F, V, S, T] = true) {t : Nat → Int} {k : Nat} (hk : k < 5) :
    call n (.func (.func 91) #[] #[]) [.agg ⟨[F, V, S, T]⟩, .agg ⟨arr t⟩, .int .i64 (k : Int)] h = some (.int .i64 (t k), h) := by
  obtain ⟨n, rfl⟩ : ∃ p, n = p + 1 := ⟨n - 1, by omega⟩
  refine call_plain0 fok91 rfl rfl (by simp) rfl ?_
  have hr : h.shutAll.next + 3 < far := hr
  generalize h.shutAll = h at hr
  simp only [s91, W_seq, W_ops]
  refine ops_box (cs := [F, V, S, T]) (by omega) rfl h1 fun g1 hx1 => ?_
  refine ops_box (cs := arr t) (by rw [hx1.next]; omega) rfl arr_one fun g2 hx2 => ?_
  have hl : loadCell g2 (.pointer (some ⟨g1.next, k, none⟩)) = some (.int .i64 (t k)) := by rw [hx2.row.ld, arr_get hk]
  simp only [rn0, rn1, rn2, rn3, rn4, rn5, rn6, rn7, rn8, if_true, if_false, Nat.le_refl, true_and, and_true, decide_true, decide_false, Bool.not_true, Bool.not_false, reduceIte, Nat.reduceEqDiff, Nat.reduceAdd, Nat.reduceMul, Nat.reduceSub, Nat.reduceLeDiff, Nat.reduceLT, idxArr_p (l := 5) (k := k) hk, Nat.zero_add, hl]
theorem build_fn {G : Nat} : buildA (fun x => (#[(0, 1)] : Array (Nat × Nat))[x]?) ⟨[.nilFunc]⟩ [0] h [.func (.func G) #[] #[]] = some (.agg ⟨[.func (.func G) #[] #[]]⟩, h) := id rfl
def s34 : SCode := (.seq (.ops [⟨(some 1), none, .box (T 0)⟩, ⟨(some 2), none, .mov (.const (.slice none 0 0))⟩, ⟨(some 3), none, .mov (.const (.int .i64 (0)))⟩]) (.seq (.ops [⟨(some 7), none, .loadN 3 (T 1)⟩, ⟨(some 8), none, .call (.func 89) [(T 7)]⟩, ⟨(some 6), none, .mov (T 8)⟩, ⟨(some 9), none, .extract 0 (T 6)⟩, ⟨(some 10), none, .extract 1 (T 6)⟩, ⟨(some 4), none, .alloc [(.slice none 0 0), (.slice none 0 0), (.slice none 0 0), (.slice none 0 0)]⟩, ⟨none, none, .store 4 (T 4) (T 9)⟩, ⟨(some 5), none, .mov (T 10)⟩]) (.seq (.seq (.ops [⟨(some 11), none, .mov (T 5)⟩, ⟨(some 12), none, .int2 .neq (T 11) (.const (.int .i64 (0)))⟩]) (.cond (T 12) (.seq (.ops [⟨(some 13), none, .mov (T 5)⟩, ⟨(some 2), none, .mov (.const (.slice none 0 0))⟩, ⟨(some 3), none, .mov (T 13)⟩]) .ret) .skip)) (.seq (.ops [⟨(some 14), none, .build #[(0, 1)] [.nilFunc] [0] [(.func 77)]⟩, ⟨(some 15), none, .loadN 4 (T 4)⟩, ⟨(some 16), none, .fieldAddr 0 (T 4)⟩, ⟨(some 17), none, .fieldAddr 1 (T 16)⟩, ⟨(some 18), none, .load1 (T 17)⟩, ⟨(some 19), none, .len (T 18)⟩, ⟨(some 20), none, .call (.func 90) [(T 14), (T 15), (T 19)]⟩, ⟨(some 2), none, .mov (T 20)⟩, ⟨(some 3), none, .mov (.const (.int .i64 (0)))⟩]) .ret))))
theorem fok34 : FnOk Try.prog 34 21 s34 [.tmp 2, .tmp 3] := ⟨Try.f34, _, Try.func34, rfl, Try.ntmps34, by kernel_rfl, by kernel_rfl⟩
def s35 : SCode := (.seq (.ops [⟨(some 1), none, .box (T 0)⟩, ⟨(some 2), none, .mov (.const (.slice none 0 0))⟩, ⟨(some 3), none, .mov (.const (.int .i64 (0)))⟩]) (.seq (.ops [⟨(some 7), none, .loadN 3 (T 1)⟩, ⟨(some 8), none, .call (.func 89) [(T 7)]⟩, ⟨(some 6), none, .mov (T 8)⟩, ⟨(some 9), none, .extract 0 (T 6)⟩, ⟨(some 10), none, .extract 1 (T 6)⟩, ⟨(some 4), none, .alloc [(.slice none 0 0), (.slice none 0 0), (.slice none 0 0), (.slice none 0 0)]⟩, ⟨none, none, .store 4 (T 4) (T 9)⟩, ⟨(some 5), none, .mov (T 10)⟩]) (.seq (.seq (.ops [⟨(some 11), none, .mov (T 5)⟩, ⟨(some 12), none, .int2 .neq (T 11) (.const (.int .i64 (0)))⟩]) (.cond (T 12) (.seq (.ops [⟨(some 13), none, .mov (T 5)⟩, ⟨(some 2), none, .mov (.const (.slice none 0 0))⟩, ⟨(some 3), none, .mov (T 13)⟩]) .ret) .skip)) (.seq (.ops [⟨(some 14), none, .build #[(0, 1)] [.nilFunc] [0] [(.func 91)]⟩, ⟨(some 15), none, .loadN 4 (T 4)⟩, ⟨(some 16), none, .fieldAddr 0 (T 4)⟩, ⟨(some 17), none, .fieldAddr 0 (T 16)⟩, ⟨(some 18), none, .load1 (T 17)⟩, ⟨(some 19), none, .len (T 18)⟩, ⟨(some 20), none, .call (.func 90) [(T 14), (T 15), (T 19)]⟩, ⟨(some 2), none, .mov (T 20)⟩, ⟨(some 3), none, .mov (.const (.int .i64 (0)))⟩]) .ret))))
theorem fok35 : FnOk Try.prog 35 21 s35 [.tmp 2, .tmp 3] := ⟨Try.f35, _, Try.func35, rfl, Try.ntmps35, by kernel_rfl, by kernel_rfl⟩
end Go.Vm.Vat

namespace Go.Vm.Vat
open Go.Proofs
set_option linter.unusedSimpArgs false
set_option linter.unusedVariables false
set_option maxRecDepth 10000
variable {n : Nat} {h : AHeap}
end Go.Vm.Vat

namespace Go.Vm.Vat
open Go.Proofs
set_option linter.unusedSimpArgs false
set_option linter.unusedVariables false
set_option maxRecDepth 10000
variable {n : Nat} {h : AHeap}
/-- among the first k -/
def Seen (L : List (Nat → Int)) (p : (Nat → Int) → Prop) (k : Nat) : Prop := ∃ i, i < k ∧ p (L.getD i fun _ => 0)
noncomputable instance (L : List (Nat → Int)) (p : (Nat → Int) → Prop) (k : Nat) : Decidable (Seen L p k) := Classical.propDecidable _
end Go.Vm.Vat

namespace Go.Vm.Vat
open Go.Proofs
set_option linter.unusedSimpArgs false
set_option linter.unusedVariables false
set_option maxRecDepth 10000
variable {n : Nat} {h : AHeap}
end Go.Vm.Vat

namespace Go.Vm.Vat
open Go.Proofs
set_option linter.unusedSimpArgs false
set_option linter.unusedVariables false
set_option maxRecDepth 10000
variable {n : Nat} {h : AHeap}
/-! ### The iterator over all spreads of so many bundles: each is handed to 'yield', in order -/
def arr4 (c : Nat → Int) : List Value := (List.range 4).map fun i => .int .i64 (c i)
theorem arr4_one {b : Nat → Int} : allB oneCell (arr4 b) = true := by rw [allB_iff]; intro v hv; obtain ⟨i, _, rfl⟩ := List.mem_map.1 hv; rfl
theorem arr4_len {b : Nat → Int} : (arr4 b).length = 4 := by simp [arr4]
theorem arr4_splice {k : Nat} {c : Nat → Int} {x : Int} (hk : k < 4) : splice (arr4 c) k [.int .i64 x] = arr4 fun j => if j = k then x else c j := by
  obtain rfl | rfl | rfl | rfl : k = 0 ∨ k = 1 ∨ k = 2 ∨ k = 3 := by omega
  all_goals simp [splice, arr4, List.range_succ]
/-- all ways to spread r over d + 1 vats from i on, in order -/
def enumS : Nat → Nat → Nat → (Nat → Int) → List (Nat → Int)
  | 0, i, r, c => [fun j => if j = i then (r : Int) else c j]
  | d + 1, i, r, c => (List.range (r + 1)).flatMap fun (k : Nat) => enumS d (i + 1) (r - k) fun j => if j = i then (k : Int) else c j
theorem enumS_congr : ∀ (d i r : Nat) (c c' : Nat → Int), (∀ j, j < i ∨ i + d < j → c j = c' j) → enumS d i r c = enumS d i r c'
  | 0, i, r, c, c', hc => by
    simp only [enumS]
    congr 1
    funext j
    by_cases e : j = i
    · simp [e]
    · simp only [e, if_false]; exact hc j (by omega)
  | d + 1, i, r, c, c', hc => by
    simp only [enumS]
    congr 1
    funext k
    refine enumS_congr d (i + 1) _ _ _ fun j hj => ?_
    by_cases e : j = i
    · simp [e]
    · simp only [e, if_false]
      exact hc j (by omega)
/-- the first i are numbers of bundles; there are no more than nv -/
def OkS (M nv : Nat) (i : Nat) (c : Nat → Int) : Prop := (∀ j, j < i → 0 ≤ c j ∧ c j ≤ (M : Int)) ∧ ∀ j, nv ≤ j → c j = 0
section
variable {σ : Type}
/-- the iterator's own rows -/
structure ItS (pv py pc : Nat) (nv : Nat) (yv cv : Value) (g : AHeap) : Prop where
  v : Row g pv [.int .i64 (nv : Int)]
  y : Row g py [yv]
  c : Row g pc [cv]
theorem ItS.set {pv py pc pb gr nv : Nat} {cs : List Value} {yv cv : Value} {g g' : AHeap} (hi' : ItS pv py pc nv yv cv g) (hs : Set1 g g' pb cs gr) (h1 : pv ≠ pb) (h2 : py ≠ pb) (h3 : pc ≠ pb) : ItS pv py pc nv yv cv g' :=
  ⟨hi'.v.keep hs.keep h1, hi'.y.keep hs.keep h2, hi'.c.keep hs.keep h3⟩
def fillV (pv py pb pc : Nat) : Value := .func (.func 128) ⟨[]⟩ ⟨[.pointer (some ⟨pv, 0, none⟩), .pointer (some ⟨pb, 0, none⟩), .pointer (some ⟨py, 0, none⟩), .pointer (some ⟨pc, 0, none⟩)]⟩
def s128 : SCode := (.seq (.ops [⟨(some 8), none, .mov (.const (.bool false))⟩]) (.seq (.seq (.ops [⟨(some 10), none, .mov (T 0)⟩, ⟨(some 11), none, .load1 (T 2)⟩, ⟨(some 12), none, .int2 .sub (T 11) (.const (.int .i64 (1)))⟩, ⟨(some 13), none, .int2 .eql (T 10) (T 12)⟩]) (.cond (T 13) (.seq (.ops [⟨(some 14), none, .mov (T 0)⟩, ⟨(some 15), none, .mov (T 1)⟩, ⟨(some 16), none, .idxArr 4 1 (T 3) (T 14)⟩, ⟨none, none, .store 1 (T 16) (T 15)⟩]) (.seq (.ops [⟨(some 17), none, .load1 (T 4)⟩, ⟨(some 18), none, .loadN 4 (T 3)⟩, ⟨(some 19), none, .call (T 17) [(T 18)]⟩, ⟨(some 8), none, .mov (T 19)⟩]) .ret)) .skip)) (.seq (.seq (.ops [⟨(some 20), none, .mov (T 1)⟩, ⟨(some 21), none, .int2 .add (T 20) (.const (.int .i64 (1)))⟩, ⟨(some 22), none, .mov (.const (.int .i64 (0)))⟩]) (.block 0 (.loop (.seq (.ops [⟨(some 23), none, .int2 .lss (T 22) (T 21)⟩]) (.seq (.cond (T 23) .skip (.exit 0)) (.seq (.block 1 (.seq (.ops [⟨(some 24), none, .mov (T 22)⟩, ⟨(some 9), none, .mov (T 24)⟩]) (.seq (.ops [⟨(some 25), none, .mov (T 0)⟩, ⟨(some 26), none, .mov (T 9)⟩, ⟨(some 27), none, .idxArr 4 1 (T 3) (T 25)⟩, ⟨none, none, .store 1 (T 27) (T 26)⟩]) (.seq (.ops [⟨(some 28), none, .load1 (T 5)⟩, ⟨(some 29), none, .mov (T 0)⟩, ⟨(some 30), none, .int2 .add (T 29) (.const (.int .i64 (1)))⟩, ⟨(some 31), none, .mov (T 1)⟩, ⟨(some 32), none, .mov (T 9)⟩, ⟨(some 33), none, .int2 .sub (T 31) (T 32)⟩, ⟨(some 34), none, .call (T 28) [(T 30), (T 33)]⟩, ⟨(some 35), none, .not (T 34)⟩]) (.cond (T 35) (.seq (.ops [⟨(some 8), none, .mov (.const (.bool false))⟩]) .ret) .skip))))) (.ops [⟨(some 36), none, .int2 .add (T 22) (.const (.int .i64 (1)))⟩, ⟨(some 22), none, .mov (T 36)⟩]))))))) (.seq (.ops [⟨(some 8), none, .mov (.const (.bool true))⟩]) .ret))))
theorem fok128 : FnOk Try.prog 128 37 s128 [.tmp 8] := ⟨Try.f128, _, Try.func128, rfl, Try.ntmps128, by kernel_rfl, by kernel_rfl⟩
theorem fill_c (step : σ → (Nat → Int) → σ × Bool) (J : σ → AHeap → Prop) {pv py pb pc K N0 fl nv M : Nat} {yv : Value} (hsz : nv ≤ 4) (hM : M ≤ 9)
    (d1 : pv ≠ pb) (d2 : py ≠ pb) (d3 : pc ≠ pb) (hfl : fl ≤ pb) (hN : 10002 ≤ N0)
    (hJ : ∀ s g g' cs, J s g → Set1 g g' pb cs 0 → J s g')
    (hY : ∀ n g s c, N0 ≤ n → ItS pv py pc nv yv (fillV pv py pb pc) g → g.get pb = some (.row (arr4 c) true 0) → OkS M nv nv c → J s g → g.floor = fl → g.next + K < far →
      ∃ g', call n yv [.agg ⟨arr4 c⟩] g = some (.bool (step s c).2, g') ∧ J (step s c).1 g' ∧ ItS pv py pc nv yv (fillV pv py pb pc) g' ∧ g'.get pb = some (.row (arr4 c) true 0) ∧ g'.floor = fl ∧ g'.next ≤ g.next + K) :
    ∀ (d i r n : Nat) (g : AHeap) (s : σ) (c : Nat → Int), i + d + 1 = nv → r ≤ M → N0 + d + 1 ≤ n → ItS pv py pc nv yv (fillV pv py pb pc) g → g.get pb = some (.row (arr4 c) true 0) → OkS M nv i c → J s g → g.floor = fl → g.next + K * (enumS d i r c).length < far →
      ∃ g', call n (fillV pv py pb pc) [.int .i64 (i : Int), .int .i64 (r : Int)] g = some (.bool (runL step s (enumS d i r c)).2, g') ∧ J (runL step s (enumS d i r c)).1 g' ∧ ItS pv py pc nv yv (fillV pv py pb pc) g' ∧
        (∃ c', g'.get pb = some (.row (arr4 c') true 0) ∧ ∀ j, j < i ∨ i + d < j → c' j = c j) ∧ g'.floor = fl ∧ g'.next ≤ g.next + K * (enumS d i r c).length := by
  intro d
  induction d with
  | zero =>
    intro i r n g s c hi' hr9 hn hit hb hok hj hfg hr
    obtain ⟨n, rfl⟩ : ∃ p, n = p + 1 := ⟨n - 1, by omega⟩
    simp only [enumS, List.length_singleton, Nat.mul_one] at hr ⊢
    have hw : wrapF .i64 ((nv : Int) - 1) = (i : Int) := by rw [wrap_in (by omega) (by omega)]; omega
    have hlt := AHeap.lt_of_get hb
    suffices hs : ∃ v g1, call (n + 1) (fillV pv py pb pc) [.int .i64 (i : Int), .int .i64 (r : Int)] g = some (v, g1) ∧ v = .bool (step s fun j => if j = i then (r : Int) else c j).2 ∧ J (step s fun j => if j = i then (r : Int) else c j).1 g1 ∧ ItS pv py pc nv yv (fillV pv py pb pc) g1 ∧ g1.get pb = some (.row (arr4 fun j => if j = i then (r : Int) else c j) true 0) ∧ g1.floor = fl ∧ g1.next ≤ g.next + K by
      obtain ⟨v, g1, e1, rfl, q1, q2, q3, q4, q5⟩ := hs
      have hrun : ∀ x, runL step s [x] = step s x := fun x => by
        simp only [runL]
        by_cases e : (step s x).2 = true
        · simp only [e, if_true]; exact (Prod.ext rfl e.symm)
        · simp only [e, Bool.false_eq_true, if_false]; exact (Prod.ext rfl (by simpa using (Bool.eq_false_iff.2 e).symm))
      rw [hrun]
      exact ⟨_, e1, q1, q2, ⟨_, q3, fun j hj => by rw [if_neg (by omega)]⟩, q4, q5⟩
    refine call_any (xs := []) (ys := [.pointer (some ⟨pv, 0, none⟩), .pointer (some ⟨pb, 0, none⟩), .pointer (some ⟨py, 0, none⟩), .pointer (some ⟨pc, 0, none⟩)]) fok128 rfl rfl (by simp) ?_
    simp only [rn0, rn1, rn2, rn3, rn4, rn5, rn6, rn7, rn8, if_true, if_false, Nat.le_refl, true_and, and_true, decide_true, decide_false, Bool.not_true, Bool.not_false, reduceIte, Nat.reduceEqDiff, Nat.reduceAdd, Nat.reduceMul, Nat.reduceSub, Nat.reduceLeDiff, Nat.reduceLT, s128, List.cons_append, List.nil_append, hit.v.ld, Nat.zero_add, List.getElem?_cons_zero, List.getElem?_cons_succ, hw, idxArr_p (l := 4) (k := i) (by omega)]
    refine step_store (vs := [.int .i64 (r : Int)]) rfl hb (by omega) (by omega) rfl rfl rfl (by rw [arr4_len]; simp; omega) fun g2 hs => ?_
    have n2 := hs.next
    have f2 := hs.floor
    have hb2 := hs.get
    rw [arr4_splice (by omega)] at hb2
    have it2 := hit.set hs d1 d2 d3
    have hbr : Row g2 pb (arr4 fun j => if j = i then (r : Int) else c j) := ⟨_, _, hb2⟩
    have hok2 : OkS M nv nv (fun j => if j = i then (r : Int) else c j) := by
      refine ⟨fun j hj => ?_, fun j hj => ?_⟩
      · by_cases e : j = i
        · simp only [e, if_true]; omega
        · simp only [e, if_false]; exact hok.1 j (by omega)
      · have e : ¬ j = i := by omega
        simp only [e, if_false]; exact hok.2 j hj
    obtain ⟨g', e, q1, q2, q3, q4, q5⟩ := hY n g2 s _ (by omega) it2 hb2 hok2 (hJ _ _ _ _ hj hs) (by omega) (by omega)
    simp only [rn0, rn1, rn2, rn3, rn4, rn5, rn6, rn7, rn8, if_true, if_false, Nat.le_refl, true_and, and_true, decide_true, decide_false, Bool.not_true, Bool.not_false, reduceIte, Nat.reduceEqDiff, Nat.reduceAdd, Nat.reduceMul, Nat.reduceSub, Nat.reduceLeDiff, Nat.reduceLT, it2.y.ld, hbr.whole arr4_len, Nat.zero_add, List.getElem?_cons_zero, List.getElem?_cons_succ, e]
    exact ⟨q1, q2, q3, q4, by omega⟩
  | succ d ih =>
    intro i r n g s c hi' hr9 hn hit hb hok hj hfg hr
    obtain ⟨n, rfl⟩ : ∃ p, n = p + 1 := ⟨n - 1, by omega⟩
    have hw0 : wrapF .i64 ((nv : Int) - 1) = (nv : Int) - 1 := wrap_in (by omega) (by omega)
    have hin : ¬ (i : Int) = (nv : Int) - 1 := by omega
    have hwr : wrapF .i64 ((r : Int) + 1) = ((r + 1 : Nat) : Int) := by rw [wrap_in (by omega) (by omega)]; rfl
    suffices hs : ∃ v g1, call (n + 1) (fillV pv py pb pc) [.int .i64 (i : Int), .int .i64 (r : Int)] g = some (v, g1) ∧ v = .bool (runL step s (enumS (d + 1) i r c)).2 ∧ J (runL step s (enumS (d + 1) i r c)).1 g1 ∧ ItS pv py pc nv yv (fillV pv py pb pc) g1 ∧
        (∃ c', g1.get pb = some (.row (arr4 c') true 0) ∧ ∀ j, j < i ∨ i + (d + 1) < j → c' j = c j) ∧ g1.floor = fl ∧ g1.next ≤ g.next + K * (enumS (d + 1) i r c).length by
      obtain ⟨v, g1, e1, rfl, h2⟩ := hs
      exact ⟨g1, e1, h2⟩
    refine call_any (xs := []) (ys := [.pointer (some ⟨pv, 0, none⟩), .pointer (some ⟨pb, 0, none⟩), .pointer (some ⟨py, 0, none⟩), .pointer (some ⟨pc, 0, none⟩)]) fok128 rfl rfl (by simp) ?_
    simp only [rn0, rn1, rn2, rn3, rn4, rn5, rn6, rn7, rn8, if_true, if_false, Nat.le_refl, true_and, and_true, decide_true, decide_false, Bool.not_true, Bool.not_false, reduceIte, Nat.reduceEqDiff, Nat.reduceAdd, Nat.reduceMul, Nat.reduceSub, Nat.reduceLeDiff, Nat.reduceLT, s128, List.cons_append, List.nil_append, hit.v.ld, Nat.zero_add, List.getElem?_cons_zero, List.getElem?_cons_succ, hw0, hin, hwr]
    let part : Nat → List (Nat → Int) := fun k => enumS d (i + 1) (r - k) fun j => if j = i then (k : Int) else c j
    have hen : enumS (d + 1) i r c = (List.range (r + 1)).flatMap part := rfl
    rw [hen] at hr ⊢
    generalize hmm : r + 1 = m at hr
    refine W_loop m (fun k f g1 ms => (ItS pv py pc nv yv (fillV pv py pb pc) g1 ∧ (∃ c', g1.get pb = some (.row (arr4 c') true 0) ∧ ∀ j, j < i ∨ i + (d + 1) < j → c' j = c j) ∧ J (runL step s ((List.range k).flatMap part)).1 g1 ∧ (runL step s ((List.range k).flatMap part)).2 = true ∧
      g1.floor = fl ∧ g1.next ≤ g.next + K * ((List.range k).flatMap part).length) ∧ ms = [] ∧ f 0 = .int .i64 (i : Int) ∧ f 1 = .int .i64 (r : Int) ∧ f 3 = .pointer (some ⟨pb, 0, none⟩) ∧ f 5 = .pointer (some ⟨pc, 0, none⟩) ∧ f 21 = .int .i64 (m : Int) ∧ f 22 = .int .i64 (k : Int)) (by simp; omega) ?_ ?_ ?_
    · simp only [rn0, rn1, rn2, rn3, rn4, rn5, rn6, rn7, rn8, if_true, if_false, Nat.le_refl, true_and, and_true, decide_true, decide_false, Bool.not_true, Bool.not_false, reduceIte, Nat.reduceEqDiff, Nat.reduceAdd, Nat.reduceMul, Nat.reduceSub, Nat.reduceLeDiff, Nat.reduceLT, Int.natCast_zero, Int.add_zero]
      simp only [List.range_zero, List.flatMap_nil, runL, List.length_nil, Nat.mul_zero, Nat.add_zero, Nat.le_refl, and_true]
      exact ⟨hit, ⟨c, hb, fun _ _ => rfl⟩, hj, trivial, hfg⟩
    · rintro k f g1 ms hkm ⟨⟨it1, ⟨c', hb1, hc'⟩, hj1, hr1, hf1, hn1⟩, rfl, f0, f1, f3, f5, f21, f22⟩
      have hkm' : (k : Int) < (m : Int) := by omega
      have hlt := AHeap.lt_of_get hb1
      obtain ⟨rest, hpart⟩ := part_flat part hkm
      have hlen : ((List.range m).flatMap part).length = ((List.range k).flatMap part).length + ((part k).length + rest.length) := by rw [hpart]; simp
      have hK : K * ((List.range m).flatMap part).length = K * ((List.range k).flatMap part).length + (K * (part k).length + K * rest.length) := by rw [hlen, Nat.mul_add, Nat.mul_add]
      simp only [rn0, rn1, rn2, rn3, rn4, rn5, rn6, rn7, rn8, if_true, if_false, Nat.le_refl, true_and, and_true, decide_true, decide_false, Bool.not_true, Bool.not_false, reduceIte, Nat.reduceEqDiff, Nat.reduceAdd, Nat.reduceMul, Nat.reduceSub, Nat.reduceLeDiff, Nat.reduceLT, f0, f1, f3, f5, f21, f22, hkm', idxArr_p (l := 4) (k := i) (by omega), Nat.zero_add]
      refine step_store (vs := [.int .i64 (k : Int)]) rfl hb1 (by omega) (by omega) rfl rfl rfl (by rw [arr4_len]; simp; omega) fun g2 hs => ?_
      have hb2 := hs.get
      rw [arr4_splice (by omega)] at hb2
      have it2 := it1.set hs d1 d2 d3
      have hw : wrapF .i64 ((i : Int) + 1) = ((i + 1 : Nat) : Int) := by rw [wrap_in (by omega) (by omega)]; rfl
      have hwk : wrapF .i64 ((r : Int) - (k : Int)) = ((r - k : Nat) : Int) := by rw [wrap_in (by omega) (by omega)]; omega
      have hcg : enumS d (i + 1) (r - k) (fun j => if j = i then (k : Int) else c' j) = part k := enumS_congr d (i + 1) _ _ _ fun j hj => by
        by_cases e : j = i
        · simp [e]
        · simp only [e, if_false]; exact hc' j (by omega)
      have hnx := hs.next
      have hok2 : OkS M nv (i + 1) (fun j => if j = i then (k : Int) else c' j) := by
        refine ⟨fun j hj => ?_, fun j hj => ?_⟩
        · by_cases e : j = i
          · simp only [e, if_true]; omega
          · simp only [e, if_false]; rw [hc' j (by omega)]; exact hok.1 j (by omega)
        · have e : ¬ j = i := by omega
          simp only [e, if_false]; rw [hc' j (by omega)]; exact hok.2 j hj
      obtain ⟨g3, e, j3, it3, ⟨c3, hb3, hc3⟩, fl3, n3⟩ := ih (i + 1) (r - k) n g2 _ _ (by omega) (by omega) (by omega) it2 hb2 hok2 (hJ _ _ _ _ hj1 hs) (by rw [hs.floor, hf1]) (by rw [hcg]; omega)
      rw [hcg] at e j3 n3
      have hw2 : wrapF .i64 ((k : Int) + 1) = ((k + 1 : Nat) : Int) := by rw [wrap_in (by omega) (by omega)]; omega
      have hc3' : ∀ j, j < i ∨ i + (d + 1) < j → c3 j = c j := fun j hj => by
        rw [hc3 j (by omega), if_neg (by omega)]; exact hc' j hj
      by_cases hq : (runL step (runL step s ((List.range k).flatMap part)).1 (part k)).2 = true
      · have hrun : runL step s ((List.range (k + 1)).flatMap part) = runL step (runL step s ((List.range k).flatMap part)).1 (part k) := by
          rw [List.range_succ, List.flatMap_append, runL_append, hr1, if_pos rfl]; simp
        have hl3 : ((List.range (k + 1)).flatMap part).length = ((List.range k).flatMap part).length + (part k).length := by rw [List.range_succ, List.flatMap_append, List.length_append]; simp
        rw [hq] at e
        simp only [rn0, rn1, rn2, rn3, rn4, rn5, rn6, rn7, rn8, if_true, if_false, Nat.le_refl, true_and, and_true, decide_true, decide_false, Bool.not_true, Bool.not_false, reduceIte, Nat.reduceEqDiff, Nat.reduceAdd, Nat.reduceMul, Nat.reduceSub, Nat.reduceLeDiff, Nat.reduceLT, f0, f1, f3, f5, f21, f22, it2.c.ld, Nat.zero_add, List.getElem?_cons_zero, List.getElem?_cons_succ, hw, hwk, e, hw2]
        rw [hrun, hl3, Nat.mul_add]
        exact ⟨it3, ⟨c3, hb3, hc3'⟩, j3, hq, fl3, by omega⟩
      · have hq' : (runL step (runL step s ((List.range k).flatMap part)).1 (part k)).2 = false := by simpa using hq
        have hrun : runL step s ((List.range m).flatMap part) = runL step (runL step s ((List.range k).flatMap part)).1 (part k) := by
          rw [hpart, runL_append, hr1, if_pos rfl, runL_append, hq', if_neg (by simp)]
        rw [hq'] at e
        simp only [rn0, rn1, rn2, rn3, rn4, rn5, rn6, rn7, rn8, if_true, if_false, Nat.le_refl, true_and, and_true, decide_true, decide_false, Bool.not_true, Bool.not_false, reduceIte, Nat.reduceEqDiff, Nat.reduceAdd, Nat.reduceMul, Nat.reduceSub, Nat.reduceLeDiff, Nat.reduceLT, f0, f1, f3, f5, f21, f22, it2.c.ld, Nat.zero_add, List.getElem?_cons_zero, List.getElem?_cons_succ, hw, hwk, e]
        rw [hrun, hq']
        exact ⟨rfl, j3, it3, ⟨c3, hb3, hc3'⟩, fl3, by omega⟩
    · rintro f g1 ms ⟨⟨it1, ⟨c', hb1, hc'⟩, hj1, hr1, hf1, hn1⟩, rfl, f0, f1, f3, f5, f21, f22⟩
      simp only [rn0, rn1, rn2, rn3, rn4, rn5, rn6, rn7, rn8, if_true, if_false, Nat.le_refl, true_and, and_true, decide_true, decide_false, Bool.not_true, Bool.not_false, reduceIte, Nat.reduceEqDiff, Nat.reduceAdd, Nat.reduceMul, Nat.reduceSub, Nat.reduceLeDiff, Nat.reduceLT, f0, f1, f3, f5, f21, f22, Int.lt_irrefl]
      exact ⟨by rw [hr1], hj1, it1, ⟨c', hb1, hc'⟩, hf1, hn1⟩
def s127 : SCode := (.seq (.ops [⟨(some 3), none, .box (T 0)⟩]) (.seq (.ops [⟨(some 4), none, .alloc [(.int .i64 (0)), (.int .i64 (0)), (.int .i64 (0)), (.int .i64 (0))]⟩]) (.seq (.ops [⟨(some 5), none, .alloc [.nilFunc]⟩]) (.seq (.ops [⟨(some 6), none, .mkfunc 128 [] [(T 1), (T 4), (T 3), (T 5)]⟩, ⟨none, none, .store 1 (T 5) (T 6)⟩]) (.ops [⟨(some 7), none, .load1 (T 5)⟩, ⟨(some 8), none, .load1 (T 2)⟩, ⟨(some 9), none, .call (T 7) [(.const (.int .i64 (0))), (T 8)]⟩])))))
theorem fok127 : FnOk Try.prog 127 10 s127 [] := ⟨Try.f127, _, Try.func127, rfl, Try.ntmps127, by kernel_rfl, by kernel_rfl⟩
theorem iterS_c (step : σ → (Nat → Int) → σ × Bool) (J : σ → AHeap → Prop) {g : AHeap} {pv pm K N0 n nv many : Nat} {yv : Value} (s : σ) (hv0 : 0 < nv) (hsz : nv ≤ 4) (hm : many ≤ 9)
    (hv : Row g pv [.int .i64 (nv : Int)]) (hmr : Row g pm [.int .i64 (many : Int)]) (hyv : oneCell yv = true) (hfl : g.floor ≤ g.next) (hN : 10002 ≤ N0) (hn : N0 + 7 ≤ n)
    (hJ : ∀ s g1 g' cs, J s g1 → Set1 g1 g' (g.next + 1) cs 0 → J s g')
    (hJ0 : ∀ g3, Old g g3 3 → J s g3)
    (hY : ∀ n g1 s c, N0 ≤ n → ItS pv g.next (g.next + 2) nv yv (fillV pv g.next (g.next + 1) (g.next + 2)) g1 → g1.get (g.next + 1) = some (.row (arr4 c) true 0) → OkS many nv nv c → J s g1 → g1.floor = g.floor → g1.next + K < far →
      ∃ g', call n yv [.agg ⟨arr4 c⟩] g1 = some (.bool (step s c).2, g') ∧ J (step s c).1 g' ∧ ItS pv g.next (g.next + 2) nv yv (fillV pv g.next (g.next + 1) (g.next + 2)) g' ∧ g'.get (g.next + 1) = some (.row (arr4 c) true 0) ∧ g'.floor = g.floor ∧ g'.next ≤ g1.next + K)
    (hr : g.next + 3 + K * (enumS (nv - 1) 0 many fun _ => 0).length < far) :
    ∃ v g', call n (.func (.func 127) ⟨[]⟩ ⟨[.pointer (some ⟨pv, 0, none⟩), .pointer (some ⟨pm, 0, none⟩)]⟩) [yv] g = some (v, g') ∧ J (runL step s (enumS (nv - 1) 0 many fun _ => 0)).1 g' ∧ g'.floor = g.floor ∧ g'.next ≤ g.next + 3 + K * (enumS (nv - 1) 0 many fun _ => 0).length := by
  obtain ⟨n, rfl⟩ : ∃ p, n = p + 1 := ⟨n - 1, by omega⟩
  refine call_any (xs := []) (ys := [.pointer (some ⟨pv, 0, none⟩), .pointer (some ⟨pm, 0, none⟩)]) fok127 rfl rfl (by simp) ?_
  simp only [s127, List.cons_append, List.nil_append, W_seq, W_ops]
  refine ops_box (cs := [yv]) (by omega) (by simp only [rn0, rn1, rn2, rn3, rn4, rn5, rn6, rn7, rn8, if_true, if_false, Nat.le_refl, true_and, and_true, decide_true, decide_false, Bool.not_true, Bool.not_false, reduceIte, Nat.reduceEqDiff, Nat.reduceAdd, Nat.reduceMul, Nat.reduceSub, Nat.reduceLeDiff, Nat.reduceLT]; cases yv <;> first | rfl | cases hyv) (by simp [allB, hyv]) fun g1 hx1 => ?_
  have n1 := hx1.next
  have f1 := hx1.floor
  simp only [rn0, rn1, rn2, rn3, rn4, rn5, rn6, rn7, rn8, if_true, if_false, Nat.le_refl, true_and, and_true, decide_true, decide_false, Bool.not_true, Bool.not_false, reduceIte, Nat.reduceEqDiff, Nat.reduceAdd, Nat.reduceMul, Nat.reduceSub, Nat.reduceLeDiff, Nat.reduceLT]
  refine step_row (cs := arr4 fun _ => 0) (by omega) rfl arr4_one fun g2 hx2 => ?_
  have n2 := hx2.next
  have f2 := hx2.floor
  simp only [rn0, rn1, rn2, rn3, rn4, rn5, rn6, rn7, rn8, if_true, if_false, Nat.le_refl, true_and, and_true, decide_true, decide_false, Bool.not_true, Bool.not_false, reduceIte, Nat.reduceEqDiff, Nat.reduceAdd, Nat.reduceMul, Nat.reduceSub, Nat.reduceLeDiff, Nat.reduceLT]
  refine step_row (cs := [.nilFunc]) (by omega) rfl rfl fun g3 hx3 => ?_
  have n3 := hx3.next
  have f3 := hx3.floor
  have hpv : pv < g.next := by obtain ⟨w, gr, e⟩ := hv; exact AHeap.lt_of_get e
  simp only [rn0, rn1, rn2, rn3, rn4, rn5, rn6, rn7, rn8, if_true, if_false, Nat.le_refl, true_and, and_true, decide_true, decide_false, Bool.not_true, Bool.not_false, reduceIte, Nat.reduceEqDiff, Nat.reduceAdd, Nat.reduceMul, Nat.reduceSub, Nat.reduceLeDiff, Nat.reduceLT]
  have e1 : g1.next = g.next + 1 := n1
  have e2 : g2.next = g.next + 2 := by omega
  rw [e1, e2]
  refine step_store (b := g.next + 2) (gr := 0) (vs := [fillV pv g.next (g.next + 1) (g.next + 2)]) rfl (by have := hx3.get; rw [e2] at this; exact this) (by omega) (by omega) rfl rfl rfl (by simp) fun g4 hs => ?_
  have hc4 := hs.row
  have hs4 : ∀ i, i < g.next + 2 → g4.get i = g2.get i := fun i hi => by rw [hs.old i (by omega), hx3.old i (by omega)]
  have hb4 : g4.get (g.next + 1) = some (.row (arr4 fun _ => 0) true 0) := by
    rw [hs4 _ (by omega)]; have := hx2.get; rw [e1] at this; exact this
  have hy4 : g4.get g.next = some (.row [yv] true 0) := by
    rw [hs4 _ (by omega), hx2.old _ (by omega)]; exact hx1.get
  have ho4 : Old g g4 3 := ⟨fun i hi => by rw [hs4 i (by omega), hx2.old i (by omega), hx1.old i hi], by have := hs.next; omega, by have := hs.floor; omega⟩
  have hit : ItS pv g.next (g.next + 2) nv yv (fillV pv g.next (g.next + 1) (g.next + 2)) g4 := ⟨hv.mono ho4.sub, ⟨_, _, hy4⟩, by simpa [splice] using hc4⟩
  have hch := fill_c step J (pv := pv) (py := g.next) (pb := g.next + 1) (pc := g.next + 2) (K := K) (N0 := N0) (fl := g.floor) (nv := nv) (yv := yv) (M := many) hsz hm (by omega) (by omega) (by omega) (by omega) hN hJ hY (nv - 1) 0 many n g4 s (fun _ => 0) (by omega) (Nat.le_refl _) (by omega) hit hb4 ⟨fun j hj => by omega, fun _ _ => rfl⟩ (hJ0 _ ho4) ho4.floor (by have := ho4.next; omega)
  obtain ⟨g5, q1, q2, q3, q4, q5, q6⟩ := hch
  have hl : loadCell g4 (.pointer (some ⟨g.next + 2, 0, none⟩)) = some (fillV pv g.next (g.next + 1) (g.next + 2)) := by rw [hc4.ld]; simp [splice]
  have hlm := (hmr.mono ho4.sub).ld 0
  rw [List.getElem?_cons_zero] at hlm
  have q1' : call n (fillV pv g.next (g.next + 1) (g.next + 2)) [.int .i64 0, .int .i64 (many : Int)] g4 = some (.bool (runL step s (enumS (nv - 1) 0 many fun _ => 0)).2, g5) := q1
  simp only [rn0, rn1, rn2, rn3, rn4, rn5, rn6, rn7, rn8, if_true, if_false, Nat.le_refl, true_and, and_true, decide_true, decide_false, Bool.not_true, Bool.not_false, reduceIte, Nat.reduceEqDiff, Nat.reduceAdd, Nat.reduceMul, Nat.reduceSub, Nat.reduceLeDiff, Nat.reduceLT, hl, hlm, q1']
  exact ⟨_, rfl, q2, by rw [q5], by have := ho4.next; omega⟩
end
end Go.Vm.Vat

namespace Go.Vm.Vat
open Go.Proofs
set_option linter.unusedSimpArgs false
set_option linter.unusedVariables false
set_option maxRecDepth 10000
variable {n : Nat} {h : AHeap}
/-! ### The iterator once more: yield is told of no state behind which it has said false -/
section
variable {σ : Type}
end
end Go.Vm.Vat

namespace Go.Vm.Vat
open Go.Proofs
set_option linter.unusedSimpArgs false
set_option linter.unusedVariables false
set_option maxRecDepth 10000
variable {n : Nat} {h : AHeap}
open Classical in
/-- the samples among the first k that are wrong -/
noncomputable def wrongTo (Y : MY) (b : Nat → Int) : Nat → List Int
  | 0 => []
  | k + 1 => if RightB Y b k then wrongTo Y b k else wrongTo Y b k ++ [(k : Int)]
theorem wrongTo_yes {Y : MY} {b : Nat → Int} {k : Nat} (h : RightB Y b k) : wrongTo Y b (k + 1) = wrongTo Y b k := by rw [wrongTo, if_pos h]
theorem wrongTo_no {Y : MY} {b : Nat → Int} {k : Nat} (h : ¬ RightB Y b k) : wrongTo Y b (k + 1) = wrongTo Y b k ++ [(k : Int)] := by rw [wrongTo, if_neg h]
theorem wrongTo_len {Y : MY} {b : Nat → Int} : ∀ k, (wrongTo Y b k).length ≤ k
  | 0 => Nat.le_refl _
  | k + 1 => by
    have := wrongTo_len (Y := Y) (b := b) k
    by_cases h : RightB Y b k
    · rw [wrongTo_yes h]; omega
    · rw [wrongTo_no h, List.length_append, List.length_singleton]; omega
theorem splice3 {a b c d e f : Value} : splice [a, b, c] 0 [d, e, f] = [d, e, f] := rfl
def s106 : SCode := (.seq (.ops [⟨(some 2), none, .box (T 0)⟩, ⟨(some 3), none, .box (T 1)⟩, ⟨(some 4), none, .mov (.const (.slice none 0 0))⟩]) (.seq (.ops [⟨(some 5), none, .mov (.const (.slice none 0 0))⟩]) (.seq (.seq (.ops [⟨(some 8), none, .fieldAddr 0 (T 2)⟩, ⟨(some 9), none, .fieldAddr 2 (T 8)⟩, ⟨(some 10), none, .load1 (T 9)⟩, ⟨(some 11), none, .len (T 10)⟩, ⟨(some 12), none, .mov (.const (.int .i64 (0)))⟩]) (.block 0 (.loop (.seq (.ops [⟨(some 13), none, .int2 .lss (T 12) (T 11)⟩]) (.seq (.cond (T 13) .skip (.exit 0)) (.seq (.block 1 (.seq (.ops [⟨(some 14), none, .mov (T 12)⟩, ⟨(some 15), none, .idxSl 3 (T 10) (T 12)⟩, ⟨(some 16), none, .loadN 3 (T 15)⟩, ⟨(some 7), none, .alloc [(.int .i64 (0)), (.int .i64 (0)), (.int .i64 (0))]⟩, ⟨(some 6), none, .mov (T 14)⟩, ⟨none, none, .store 3 (T 7) (T 16)⟩]) (.seq (.ops [⟨(some 17), none, .loadN 4 (T 2)⟩, ⟨(some 18), none, .loadN 5 (T 3)⟩, ⟨(some 19), none, .loadN 3 (T 7)⟩, ⟨(some 20), none, .call (.func 123) [(T 17), (T 18), (T 19)]⟩, ⟨(some 21), none, .not (T 20)⟩]) (.cond (T 21) (.ops [⟨(some 22), none, .mov (T 5)⟩, ⟨(some 23), none, .mov (T 6)⟩, ⟨(some 24), none, .bslice 1 1 [(.int .i64 (0))] [0] [(T 23)]⟩, ⟨(some 25), none, .append 1 8 (T 22) (T 24)⟩, ⟨(some 5), none, .mov (T 25)⟩]) .skip)))) (.ops [⟨(some 26), none, .int2 .add (T 12) (.const (.int .i64 (1)))⟩, ⟨(some 12), none, .mov (T 26)⟩]))))))) (.seq (.ops [⟨(some 27), none, .mov (T 5)⟩, ⟨(some 4), none, .mov (T 27)⟩]) .ret))))
theorem fok106 : FnOk Try.prog 106 28 s106 [.tmp 4] := ⟨Try.f106, _, Try.func106, rfl, Try.ntmps106, by kernel_rfl, by kernel_rfl⟩
end Go.Vm.Vat

namespace Go.Vm.Vat
open Go.Proofs
set_option linter.unusedSimpArgs false
set_option linter.unusedVariables false
set_option maxRecDepth 10000
variable {n : Nat} {h : AHeap}
/-- what lies in memory meanwhile -/
structure JF (h2 : AHeap) (p : Nat) (r : ALoop) (s : Int × Bool) (g : AHeap) : Prop where
  old : ∀ i, i < h2.next → i ≠ p + 1 → i ≠ p + 2 → i ≠ p + 3 → i ≠ p + 7 → g.get i = h2.get i
  fst : g.get (p + 3) = some (.row [.int .i64 s.1] true 0)
  r1 : g.get (p + 1) = some (.row [.int .i64 0] true 0)
  r2 : g.get (p + 2) = some (.row [.int .i64 (if s.2 then 7 else 0)] true 0)
  lp : g.get (p + 7) = some (.loop (if s.2 then leftBy r .ret else r))
  up : h2.next + 3 ≤ g.next
theorem splice1 {a b : Value} : splice [a] 0 [b] = [b] := rfl
theorem row_ld0 {b : Nat} {x : Value} {w : Bool} {gr : Nat} (hg : h.get b = some (.row [x] w gr)) : loadCell h (.pointer (some ⟨b, 0, none⟩)) = some x := by
  have : Row h b [x] := ⟨_, _, hg⟩
  rw [this.ld]; rfl
end Go.Vm.Vat

namespace Go.Vm.Vat
open Go.Proofs
set_option linter.unusedSimpArgs false
set_option linter.unusedVariables false
set_option maxRecDepth 10000
variable {n : Nat} {h : AHeap}
/-! ### The best spread -/
/-- the least blue of a spread, of what each vat surely has with so many bundles -/
def lowS (S : Nat → Nat → Int) (nv : Nat) (c : Nat → Int) : Int := minN (S 0 (c 0).toNat) (fun v => S v (c v).toNat) nv
noncomputable def spStep (S : Nat → Nat → Int) (nv : Nat) (s : (Nat → Int) × Int) (c : Nat → Int) : ((Nat → Int) × Int) × Bool := (if s.2 < lowS S nv c then (c, lowS S nv c) else s, true)
noncomputable def spRun (S : Nat → Nat → Int) (nv many : Nat) : (Nat → Int) × Int := (runL (spStep S nv) ((fun _ => 0), -1) (enumS (nv - 1) 0 many fun _ => 0)).1
/-- the table of what each vat surely has, as far as it is filled -/
def sureL (S : Nat → Nat → Int) (m v k : Nat) : List Value := (List.range 40).map fun i => .int .i64 (if (i / 10 < v ∧ i % 10 < m) ∨ (i / 10 = v ∧ i % 10 < k) then S (i / 10) (i % 10) else 0)
theorem sureL_len {S : Nat → Nat → Int} {m v k : Nat} : (sureL S m v k).length = 40 := by simp [sureL]
theorem sureL_one {S : Nat → Nat → Int} {m v k : Nat} : allB oneCell (sureL S m v k) = true := by rw [allB_iff]; intro v hv; obtain ⟨i, _, rfl⟩ := List.mem_map.1 hv; rfl
theorem sureL_next {S : Nat → Nat → Int} {m v : Nat} : sureL S m v m = sureL S m (v + 1) 0 := by
  unfold sureL
  congr 1
  funext i
  congr 1
  by_cases c : i / 10 < v + 1 ∧ i % 10 < m
  · rw [if_pos (by omega), if_pos (.inl c)]
  · rw [if_neg (by omega), if_neg (by omega)]
theorem sureL_zero {S : Nat → Nat → Int} {m : Nat} : sureL S m 0 0 = (List.range 40).map fun _ => .int .i64 0 := by
  unfold sureL
  congr 1
  funext i
  rw [if_neg (by omega)]
theorem sureL_splice {S : Nat → Nat → Int} {m v k : Nat} (hv : v < 4) (hk : k < 10) : splice (sureL S m v k) (v * 10 + k) [.int .i64 (S v k)] = sureL S m v (k + 1) := by
  refine map_splice (by simp; omega) (fun i hi hc => ?_) (fun j hj => ?_)
  · simp only [List.length_cons, List.length_nil] at hc
    congr 1
    by_cases c : (i / 10 < v ∧ i % 10 < m) ∨ (i / 10 = v ∧ i % 10 < k)
    · rw [if_pos c, if_pos (by omega)]
    · rw [if_neg c, if_neg (by omega)]
  · simp only [List.length_cons, List.length_nil] at hj
    obtain rfl : j = 0 := by omega
    simp only [Nat.add_zero, List.getElem?_cons_zero]
    rw [if_pos (by omega), show (v * 10 + k) / 10 = v by omega, show (v * 10 + k) % 10 = k by omega]
theorem sureL_get {S : Nat → Nat → Int} {m v j k : Nat} (hv : j < v) (h4 : j < 4) (hk : k < m) (h10 : k < 10) : (sureL S m v 0)[j * 10 + k]? = some (.int .i64 (S j k)) := by
  unfold sureL
  rw [List.getElem?_map, List.getElem?_range (by omega), Option.map_some, if_pos (by omega), show (j * 10 + k) / 10 = j by omega, show (j * 10 + k) % 10 = k by omega]
theorem idxArr_s {l s k b o : Nat} (hk : k < l) : indexArr l s (.pointer (some ⟨b, o, none⟩)) (.int .i64 (k : Int)) = some (.pointer (some ⟨b, o + k * s, none⟩)) := by
  show placeAt ⟨b, o, none⟩ (Int.ofNat k) l s = _
  unfold placeAt
  simp only [blt_iff.2 hk, cond_true]
theorem enumS_len : ∀ (d i r : Nat) (c : Nat → Int), (enumS d i r c).length ≤ (r + 1) ^ d
  | 0, _, _, _ => by simp [enumS]
  | d + 1, i, r, c => by
    simp only [enumS]
    have : ∀ k, k ≤ r + 1 → ((List.range k).flatMap fun (k : Nat) => enumS d (i + 1) (r - k) fun j => if j = i then (k : Int) else c j).length ≤ k * (r + 1) ^ d := by
      intro k
      induction k with
      | zero => intro _; simp
      | succ k ih =>
        intro hk
        rw [List.range_succ, List.flatMap_append, List.length_append, Nat.succ_mul]
        have h1 := ih (by omega)
        have h2 := enumS_len d (i + 1) (r - k) fun j => if j = i then (k : Int) else c j
        have h3 : (r - k + 1) ^ d ≤ (r + 1) ^ d := Nat.pow_le_pow_left (by omega) d
        simp only [List.flatMap_cons, List.flatMap_nil, List.append_nil]
        omega
    have := this (r + 1) (Nat.le_refl _)
    rw [Nat.pow_succ, Nat.mul_comm]
    exact this
def s120 : SCode := (.seq (.ops [⟨(some 2), none, .box (T 0)⟩, ⟨(some 3), none, .box (T 1)⟩, ⟨(some 4), none, .mov (.const .nilFunc)⟩]) (.seq (.ops [⟨(some 5), none, .mkfunc 127 [] [(T 2), (T 3)]⟩, ⟨(some 4), none, .mov (T 5)⟩]) .ret))
theorem fok120 : FnOk Try.prog 120 6 s120 [.tmp 4] := ⟨Try.f120, _, Try.func120, rfl, Try.ntmps120, by kernel_rfl, by kernel_rfl⟩
theorem allSpreads_c (hn : 1 ≤ n) (hr : h.next + 2 < far) (nv many : Int) :
    ∃ h', call n (.func (.func 120) #[] #[]) [.int .i64 nv, .int .i64 many] h = some (.func (.func 127) ⟨[]⟩ ⟨[.pointer (some ⟨h.next, 0, none⟩), .pointer (some ⟨h.next + 1, 0, none⟩)]⟩, h') ∧ Old h h' 2 ∧ Row h' h.next [.int .i64 nv] ∧ Row h' (h.next + 1) [.int .i64 many] := by
  obtain ⟨n, rfl⟩ : ∃ p, n = p + 1 := ⟨n - 1, by omega⟩
  suffices hs : ∃ v h', call (n + 1) (.func (.func 120) #[] #[]) [.int .i64 nv, .int .i64 many] h = some (v, h') ∧ v = .func (.func 127) ⟨[]⟩ ⟨[.pointer (some ⟨h.next, 0, none⟩), .pointer (some ⟨h.next + 1, 0, none⟩)]⟩ ∧ Old h h' 2 ∧ Row h' h.next [.int .i64 nv] ∧ Row h' (h.next + 1) [.int .i64 many] by
    obtain ⟨v, h', e, rfl, hx⟩ := hs
    exact ⟨h', e, hx⟩
  refine call_any0 fok120 rfl rfl (by simp) ?_
  simp only [s120, W_seq, W_ops]
  refine ops_box (cs := [.int .i64 nv]) (by omega) rfl rfl fun g1 hx1 => ?_
  have n1 := hx1.next
  have f1 := hx1.floor
  refine ops_box (cs := [.int .i64 many]) (by omega) rfl rfl fun g2 hx2 => ?_
  have n2 := hx2.next
  have f2 := hx2.floor
  have e1 : g1.next = h.next + 1 := n1
  simp only [rn0, rn1, rn2, rn3, rn4, rn5, rn6, rn7, rn8, if_true, if_false, Nat.le_refl, true_and, and_true, decide_true, decide_false, Bool.not_true, Bool.not_false, reduceIte, Nat.reduceEqDiff, Nat.reduceAdd, Nat.reduceMul, Nat.reduceSub, Nat.reduceLeDiff, Nat.reduceLT, e1]
  have := hx2.row
  rw [e1] at this
  exact ⟨⟨fun i hi => by rw [hx2.old i (by omega), hx1.old i hi], by omega, by omega⟩, hx1.row.mono hx2.sub, this⟩
theorem res_41 {a b : Nat} {f : Fr} {x y : Value} (h1 : loadAgg 4 h (f a) = some x) (h2 : loadCell h (f b) = some y) : resV f h [.cellN a 4, .cell1 b] = some (.tuple ⟨[x, y]⟩) := by
  simp [resV, resL, res1, h1, h2]
/-- what lies in memory while the spreads are gone through -/
structure JS (h2 : AHeap) (p : Nat) (s : (Nat → Int) × Int) (g : AHeap) : Prop where
  old : ∀ i, i < h2.next → i ≠ p + 1 → i ≠ p + 2 → g.get i = h2.get i
  bst : g.get (p + 1) = some (.row (arr4 s.1) true 0)
  lst : g.get (p + 2) = some (.row [.int .i64 s.2] true 0)
  up : h2.next + 3 ≤ g.next
noncomputable def s101 : SCode := (.seq (.ops [⟨(some 3), none, .box (T 0)⟩, ⟨(some 6), none, .alloc [(.int .i64 (0)), (.int .i64 (0)), (.int .i64 (0)), (.int .i64 (0))]⟩, ⟨(some 7), none, .alloc [(.int .i64 (0))]⟩]) (.seq (.ops [⟨(some 8), none, .alloc [(.int .i64 (0)), (.int .i64 (0)), (.int .i64 (0)), (.int .i64 (0)), (.int .i64 (0)), (.int .i64 (0)), (.int .i64 (0)), (.int .i64 (0)), (.int .i64 (0)), (.int .i64 (0)), (.int .i64 (0)), (.int .i64 (0)), (.int .i64 (0)), (.int .i64 (0)), (.int .i64 (0)), (.int .i64 (0)), (.int .i64 (0)), (.int .i64 (0)), (.int .i64 (0)), (.int .i64 (0)), (.int .i64 (0)), (.int .i64 (0)), (.int .i64 (0)), (.int .i64 (0)), (.int .i64 (0)), (.int .i64 (0)), (.int .i64 (0)), (.int .i64 (0)), (.int .i64 (0)), (.int .i64 (0)), (.int .i64 (0)), (.int .i64 (0)), (.int .i64 (0)), (.int .i64 (0)), (.int .i64 (0)), (.int .i64 (0)), (.int .i64 (0)), (.int .i64 (0)), (.int .i64 (0)), (.int .i64 (0))]⟩]) (.seq (.seq (.ops [⟨(some 14), none, .fieldAddr 0 (T 3)⟩, ⟨(some 15), none, .fieldAddr 1 (T 14)⟩, ⟨(some 16), none, .load1 (T 15)⟩, ⟨(some 17), none, .len (T 16)⟩, ⟨(some 18), none, .mov (.const (.int .i64 (0)))⟩]) (.block 0 (.loop (.seq (.ops [⟨(some 19), none, .int2 .lss (T 18) (T 17)⟩]) (.seq (.cond (T 19) .skip (.exit 0)) (.seq (.block 1 (.seq (.ops [⟨(some 20), none, .mov (T 18)⟩, ⟨(some 9), none, .mov (T 20)⟩]) (.seq (.ops [⟨(some 21), none, .mov (T 2)⟩, ⟨(some 22), none, .int2 .add (T 21) (.const (.int .i64 (1)))⟩, ⟨(some 23), none, .mov (.const (.int .i64 (0)))⟩]) (.block 2 (.loop (.seq (.ops [⟨(some 24), none, .int2 .lss (T 23) (T 22)⟩]) (.seq (.cond (T 24) .skip (.exit 2)) (.seq (.block 3 (.seq (.ops [⟨(some 25), none, .mov (T 23)⟩, ⟨(some 10), none, .mov (T 25)⟩]) (.draw [⟨.free, ⟨(some 26), none, .mov (T 9)⟩⟩, ⟨.free, ⟨(some 27), none, .mov (T 10)⟩⟩, ⟨.rd1, ⟨(some 28), none, .loadN 4 (T 3)⟩⟩, ⟨.free, ⟨(some 29), none, .mov (T 9)⟩⟩, ⟨.free, ⟨(some 30), none, .mov (T 1)⟩⟩, ⟨.free, ⟨(some 31), none, .mov (T 10)⟩⟩, ⟨.any, ⟨(some 32), none, .call (.func 99) [(T 28), (T 29), (T 30), (T 31)]⟩⟩, ⟨.free, ⟨(some 33), none, .idxArr 4 10 (T 8) (T 26)⟩⟩, ⟨.free, ⟨(some 34), none, .idxArr 10 1 (T 33) (T 27)⟩⟩, ⟨.any, ⟨none, none, .store 1 (T 34) (T 32)⟩⟩]))) (.ops [⟨(some 35), none, .int2 .add (T 23) (.const (.int .i64 (1)))⟩, ⟨(some 23), none, .mov (T 35)⟩]))))))))) (.ops [⟨(some 36), none, .int2 .add (T 18) (.const (.int .i64 (1)))⟩, ⟨(some 18), none, .mov (T 36)⟩]))))))) (.seq (.ops [⟨none, none, .store 1 (T 7) (.const (.int .i64 (-1)))⟩]) (.seq (.seq (.ops [⟨(some 37), none, .fieldAddr 0 (T 3)⟩, ⟨(some 38), none, .fieldAddr 1 (T 37)⟩, ⟨(some 39), none, .load1 (T 38)⟩, ⟨(some 40), none, .len (T 39)⟩, ⟨(some 41), none, .mov (T 2)⟩, ⟨(some 42), none, .call (.func 120) [(T 40), (T 41)]⟩]) (.block 4 (.range (T 42) #[43] (rangeOf Try.f101 0).1 (rangeOf Try.f101 0).2))) (.seq (.draw [⟨.rd1, ⟨(some 72), none, .loadN 4 (T 6)⟩⟩, ⟨.rd, ⟨(some 73), none, .load1 (T 7)⟩⟩, ⟨.up, ⟨none, none, .store 4 (T 6) (T 72)⟩⟩, ⟨.any, ⟨none, none, .store 1 (T 7) (T 73)⟩⟩]) .ret))))))
theorem fok101 : FnOk Try.prog 101 74 s101 [.cellN 6 4, .cell1 7] := ⟨Try.f101, _, Try.func101, rfl, Try.ntmps101, by kernel_rfl, by kernel_rfl⟩
def ra101_0 : SCode := (.ops [⟨(some 11), none, .alloc [(.int .i64 (0)), (.int .i64 (0)), (.int .i64 (0)), (.int .i64 (0))]⟩, ⟨none, none, .store 4 (T 11) (T 43)⟩])
theorem raok101_0 : compCode Try.prog 74 (rangeOf Try.f101 0).1 = some ra101_0 := by kernel_rfl
def rb101_0 : SCode := (.block 5 (.seq (.ops [⟨(some 44), none, .idxArr 4 1 (T 11) (.const (.int .i64 (0)))⟩, ⟨(some 45), none, .load1 (T 44)⟩, ⟨(some 46), none, .idxArr 4 10 (T 8) (.const (.int .i64 (0)))⟩, ⟨(some 47), none, .idxArr 10 1 (T 46) (T 45)⟩, ⟨(some 48), none, .load1 (T 47)⟩, ⟨(some 12), none, .mov (T 48)⟩]) (.seq (.seq (.ops [⟨(some 49), none, .fieldAddr 0 (T 3)⟩, ⟨(some 50), none, .fieldAddr 1 (T 49)⟩, ⟨(some 51), none, .load1 (T 50)⟩, ⟨(some 52), none, .len (T 51)⟩, ⟨(some 53), none, .mov (.const (.int .i64 (0)))⟩]) (.block 6 (.loop (.seq (.ops [⟨(some 54), none, .int2 .lss (T 53) (T 52)⟩]) (.seq (.cond (T 54) .skip (.exit 6)) (.seq (.block 7 (.seq (.ops [⟨(some 55), none, .mov (T 53)⟩, ⟨(some 13), none, .mov (T 55)⟩]) (.draw [⟨.free, ⟨(some 56), none, .mov (T 12)⟩⟩, ⟨.free, ⟨(some 57), none, .mov (T 13)⟩⟩, ⟨.free, ⟨(some 58), none, .mov (T 13)⟩⟩, ⟨.free, ⟨(some 59), none, .idxArr 4 1 (T 11) (T 58)⟩⟩, ⟨.rd1, ⟨(some 60), none, .load1 (T 59)⟩⟩, ⟨.free, ⟨(some 61), none, .idxArr 4 10 (T 8) (T 57)⟩⟩, ⟨.free, ⟨(some 62), none, .idxArr 10 1 (T 61) (T 60)⟩⟩, ⟨.rd1, ⟨(some 63), none, .load1 (T 62)⟩⟩, ⟨.any, ⟨(some 64), none, .bslice 1 1 [(.int .i64 (0))] [0] [(T 63)]⟩⟩, ⟨.any, ⟨(some 65), none, .call (.func 94) [(T 56), (T 64)]⟩⟩, ⟨.free, ⟨(some 12), none, .mov (T 65)⟩⟩]))) (.ops [⟨(some 66), none, .int2 .add (T 53) (.const (.int .i64 (1)))⟩, ⟨(some 53), none, .mov (T 66)⟩]))))))) (.seq (.ops [⟨(some 67), none, .mov (T 12)⟩, ⟨(some 68), none, .load1 (T 7)⟩, ⟨(some 69), none, .int2 .gtr (T 67) (T 68)⟩]) (.cond (T 69) (.ops [⟨(some 70), none, .loadN 4 (T 11)⟩, ⟨(some 71), none, .mov (T 12)⟩, ⟨none, none, .store 4 (T 6) (T 70)⟩, ⟨none, none, .store 1 (T 7) (T 71)⟩]) .skip)))))
theorem rbok101_0 : compCode Try.prog 74 (rangeOf Try.f101 0).2 = some rb101_0 := by kernel_rfl
theorem bestSpread_c (hn : 10060 ≤ n) (hr : h.next + 200000 < far) (hfl : h.floor ≤ h.next) {F V S tv : Value} {Y : MY} {f many : Nat} (hy : YardR h F V S Y) (hf0 : faultN Y = 0) (hL : truths Y ≠ []) (htr : TruthsR h tv (truths Y)) (hlong : Long tv) (hv0 : 0 < Y.nv) (hf : f < Y.nf) (hm : many ≤ 9) :
    ∃ v h', call n (.func (.func 101) #[] #[]) [.agg ⟨[F, V, S, tv]⟩, .int .i64 (f : Int), .int .i64 (many : Int)] h = some (v, h') ∧ v = .tuple ⟨[.agg ⟨arr4 (spRun (fun v k => sureN Y v f k (truths Y)) Y.nv many).1⟩, .int .i64 (spRun (fun v k => sureN Y v f k (truths Y)) Y.nv many).2]⟩ ∧ Made h h' 120000 := by
  obtain ⟨n, rfl⟩ : ∃ p, n = p + 1 := ⟨n - 1, by omega⟩
  generalize hSS : (fun v k => sureN Y v f k (truths Y)) = SS
  have hS : ∀ v k, SS v k = sureN Y v f k (truths Y) := fun v k => by rw [← hSS]
  clear hSS
  have hG := good_of hf0
  obtain ⟨z1, z2, z3⟩ := hG.sz
  have ho4 : allB oneCell [F, V, S, tv] = true := by have h1 := hy.one; have h2 := Cells.one htr; simp [allB] at h1 ⊢; simp [h1, h2]
  refine call_any0 fok101 rfl rfl (by simp) ?_
  simp only [s101, W_seq, W_ops]
  refine ops_box (cs := [F, V, S, tv]) (by omega) rfl ho4 fun g1 hx1 => ?_
  have n1 := hx1.next
  have f1 := hx1.floor
  have e1 : g1.next = h.next + 1 := n1
  simp only [rn0, rn1, rn2, rn3, rn4, rn5, rn6, rn7, rn8, if_true, if_false, Nat.le_refl, true_and, and_true, decide_true, decide_false, Bool.not_true, Bool.not_false, reduceIte, Nat.reduceEqDiff, Nat.reduceAdd, Nat.reduceMul, Nat.reduceSub, Nat.reduceLeDiff, Nat.reduceLT]
  refine step_row (cs := arr4 fun _ => 0) (by omega) rfl arr4_one fun g2 hx2 => ?_
  have n2 := hx2.next
  have f2 := hx2.floor
  have e2 : g2.next = h.next + 2 := by omega
  simp only [rn0, rn1, rn2, rn3, rn4, rn5, rn6, rn7, rn8, if_true, if_false, Nat.le_refl, true_and, and_true, decide_true, decide_false, Bool.not_true, Bool.not_false, reduceIte, Nat.reduceEqDiff, Nat.reduceAdd, Nat.reduceMul, Nat.reduceSub, Nat.reduceLeDiff, Nat.reduceLT]
  refine step_row (cs := [.int .i64 0]) (by omega) rfl rfl fun g3 hx3 => ?_
  have n3 := hx3.next
  have f3 := hx3.floor
  have e3 : g3.next = h.next + 3 := by omega
  simp only [rn0, rn1, rn2, rn3, rn4, rn5, rn6, rn7, rn8, if_true, if_false, Nat.le_refl, true_and, and_true, decide_true, decide_false, Bool.not_true, Bool.not_false, reduceIte, Nat.reduceEqDiff, Nat.reduceAdd, Nat.reduceMul, Nat.reduceSub, Nat.reduceLeDiff, Nat.reduceLT]
  refine step_row (cs := sureL SS (many + 1) 0 0) (by omega) (by rw [sureL_zero]; rfl) sureL_one fun g4 hx4 => ?_
  have n4 := hx4.next
  have f4 := hx4.floor
  have e4 : g4.next = h.next + 4 := by omega
  rw [e1, e2, e3]
  have s4 : Sub All h g4 := hx1.sub.trans (hx2.sub.trans (hx3.sub.trans hx4.sub))
  have r1 : Row g4 h.next [F, V, S, tv] := ((hx1.row.mono hx2.sub).mono hx3.sub).mono hx4.sub
  have k1 : g4.get (h.next + 1) = some (.row (arr4 fun _ => 0) true 0) := by rw [hx4.old _ (by omega), hx3.old _ (by omega)]; have := hx2.get; rw [e1] at this; exact this
  have k2 : g4.get (h.next + 2) = some (.row [.int .i64 0] true 0) := by rw [hx4.old _ (by omega)]; have := hx3.get; rw [e2] at this; exact this
  have k3 : g4.get (h.next + 3) = some (.row (sureL SS (many + 1) 0 0) true 0) := by have := hx4.get; rw [e3] at this; exact this
  have hy4 := hy.mono s4
  obtain ⟨rr, hrw, hq⟩ := hy4.v
  have hwm : wrapF .i64 ((many : Int) + 1) = ((many + 1 : Nat) : Int) := by rw [wrap_in (by omega) (by omega)]; rfl
  -- what holds while the table is filled
  have kin : ∀ {g : AHeap}, Keep (h.next + 3) g4 g → Sub All h g := fun hk i cs w gr t hg => hk.sub _ _ _ _ (by have := AHeap.lt_of_get hg; omega) (s4 _ _ _ _ t hg)
  have r1k : ∀ {g : AHeap}, Keep (h.next + 3) g4 g → Row g h.next [F, V, S, tv] := fun hk => r1.keep hk (by omega)
  simp only [rn0, rn1, rn2, rn3, rn4, rn5, rn6, rn7, rn8, if_true, if_false, Nat.le_refl, true_and, and_true, decide_true, decide_false, Bool.not_true, Bool.not_false, reduceIte, Nat.reduceEqDiff, Nat.reduceAdd, Nat.reduceMul, Nat.reduceSub, Nat.reduceLeDiff, Nat.reduceLT, r1.ld, Nat.zero_add, List.getElem?_cons_zero, List.getElem?_cons_succ, Cells.len hrw]
  refine W_loop Y.nv (fun v f' g ms => (Keep (h.next + 3) g4 g ∧ g.next = g4.next ∧ g.get (h.next + 3) = some (.row (sureL SS (many + 1) v 0) true 0)) ∧ ms = [] ∧ f' 1 = .int .i64 (f : Int) ∧ f' 2 = .int .i64 (many : Int) ∧ f' 3 = .pointer (some ⟨h.next, 0, none⟩) ∧ f' 6 = .pointer (some ⟨h.next + 1, 0, none⟩) ∧ f' 7 = .pointer (some ⟨h.next + 2, 0, none⟩) ∧ f' 8 = .pointer (some ⟨h.next + 3, 0, none⟩) ∧
    f' 17 = .int .i64 (Y.nv : Int) ∧ f' 18 = .int .i64 (v : Int)) (by simp; omega) ?_ ?_ ?_
  · simp only [rn0, rn1, rn2, rn3, rn4, rn5, rn6, rn7, rn8, if_true, if_false, Nat.le_refl, true_and, and_true, decide_true, decide_false, Bool.not_true, Bool.not_false, reduceIte, Nat.reduceEqDiff, Nat.reduceAdd, Nat.reduceMul, Nat.reduceSub, Nat.reduceLeDiff, Nat.reduceLT]
    exact ⟨⟨Keep.refl, k3⟩, rfl⟩
  · rintro v f' g ms hv ⟨⟨kg, ng, gg⟩, rfl, p1, p2, p3, p6, p7, p8, p17, p18⟩
    have hv' : (v : Int) < (Y.nv : Int) := by omega
    have hwv : wrapF .i64 ((v : Int) + 1) = ((v + 1 : Nat) : Int) := by rw [wrap_in (by omega) (by omega)]; rfl
    simp only [rn0, rn1, rn2, rn3, rn4, rn5, rn6, rn7, rn8, if_true, if_false, Nat.le_refl, true_and, and_true, decide_true, decide_false, Bool.not_true, Bool.not_false, reduceIte, Nat.reduceEqDiff, Nat.reduceAdd, Nat.reduceMul, Nat.reduceSub, Nat.reduceLeDiff, Nat.reduceLT, p1, p2, p3, p6, p7, p8, p17, p18, hv', hwm]
    refine W_loop (many + 1) (fun k f' g ms => (Keep (h.next + 3) g4 g ∧ g.next = g4.next ∧ g.get (h.next + 3) = some (.row (sureL SS (many + 1) v k) true 0)) ∧ ms = [] ∧ f' 1 = .int .i64 (f : Int) ∧ f' 2 = .int .i64 (many : Int) ∧ f' 3 = .pointer (some ⟨h.next, 0, none⟩) ∧ f' 6 = .pointer (some ⟨h.next + 1, 0, none⟩) ∧ f' 7 = .pointer (some ⟨h.next + 2, 0, none⟩) ∧ f' 8 = .pointer (some ⟨h.next + 3, 0, none⟩) ∧
      f' 17 = .int .i64 (Y.nv : Int) ∧ f' 18 = .int .i64 (v : Int) ∧ f' 9 = .int .i64 (v : Int) ∧ f' 22 = .int .i64 ((many + 1 : Nat) : Int) ∧ f' 23 = .int .i64 (k : Int)) (by simp; omega) ?_ ?_ ?_
    · simp only [rn0, rn1, rn2, rn3, rn4, rn5, rn6, rn7, rn8, if_true, if_false, Nat.le_refl, true_and, and_true, decide_true, decide_false, Bool.not_true, Bool.not_false, reduceIte, Nat.reduceEqDiff, Nat.reduceAdd, Nat.reduceMul, Nat.reduceSub, Nat.reduceLeDiff, Nat.reduceLT, p1, p2, p3, p6, p7, p8, p17, p18]
      exact ⟨⟨kg, ng, gg⟩, rfl⟩
    · rintro k f' g ms hk ⟨⟨kg, ng, gg⟩, rfl, p1, p2, p3, p6, p7, p8, p17, p18, p9, p22, p23⟩
      have hk' : (k : Int) < ((many + 1 : Nat) : Int) := by omega
      have hwk : wrapF .i64 ((k : Int) + 1) = ((k + 1 : Nat) : Int) := by rw [wrap_in (by omega) (by omega)]; rfl
      have fg := kg.floor
      have es := sureBlue_c (n := n) (h := g) (v := v) (f := f) (many := k) (by omega) (by omega) (hy.mono (kin kg)) hf0 hL (Cells.mono htr (kin kg)) hlong (by omega) hf (by omega)
      rw [← hS] at es
      simp only [rn0, rn1, rn2, rn3, rn4, rn5, rn6, rn7, rn8, if_true, if_false, Nat.le_refl, true_and, and_true, decide_true, decide_false, Bool.not_true, Bool.not_false, reduceIte, Nat.reduceEqDiff, Nat.reduceAdd, Nat.reduceMul, Nat.reduceSub, Nat.reduceLeDiff, Nat.reduceLT, p1, p2, p3, p6, p7, p8, p17, p18, p9, p22, p23, hk']
      refine W_draw All ?_
      simp only [rn0, rn1, rn2, rn3, rn4, rn5, rn6, rn7, rn8, if_true, if_false, Nat.le_refl, true_and, and_true, decide_true, decide_false, Bool.not_true, Bool.not_false, reduceIte, Nat.reduceEqDiff, Nat.reduceAdd, Nat.reduceMul, Nat.reduceSub, Nat.reduceLeDiff, Nat.reduceLT, p1, p2, p3, p6, p7, p8, p17, p18, p9, p22, p23, (r1k kg).whole (n := 4) rfl, es, idxArr_s (l := 4) (s := 10) (k := v) (by omega), idxArr_s (l := 10) (s := 1) (k := k) (by omega)]
      refine up_store (b := h.next + 3) (off := v * 10 + k) (vs := [.int .i64 (SS v k)]) (by simp) gg (by omega) (by omega) rfl rfl rfl (by rw [sureL_len]; simp; omega) (fun _ _ => trivial) fun g5 hs5 => ?_
      rw [sureL_splice (by omega) (by omega)] at hs5
      have n5 := hs5.next
      have f5 := hs5.floor
      simp only [rn0, rn1, rn2, rn3, rn4, rn5, rn6, rn7, rn8, if_true, if_false, Nat.le_refl, true_and, and_true, decide_true, decide_false, Bool.not_true, Bool.not_false, reduceIte, Nat.reduceEqDiff, Nat.reduceAdd, Nat.reduceMul, Nat.reduceSub, Nat.reduceLeDiff, Nat.reduceLT, p1, p2, p3, p6, p7, p8, p17, p18, p9, p22, p23, hwk]
      exact ⟨kg.trans hs5.keep, by omega, hs5.get⟩
    · rintro f' g ms ⟨⟨kg, ng, gg⟩, rfl, p1, p2, p3, p6, p7, p8, p17, p18, p9, p22, p23⟩
      rw [sureL_next] at gg
      simp only [rn0, rn1, rn2, rn3, rn4, rn5, rn6, rn7, rn8, if_true, if_false, Nat.le_refl, true_and, and_true, decide_true, decide_false, Bool.not_true, Bool.not_false, reduceIte, Nat.reduceEqDiff, Nat.reduceAdd, Nat.reduceMul, Nat.reduceSub, Nat.reduceLeDiff, Nat.reduceLT, p1, p2, p3, p6, p7, p8, p17, p18, p9, p22, p23, Int.lt_irrefl, hwv]
      exact ⟨kg, ng, gg⟩
  rintro f' g5 ms ⟨⟨kg, ng, gg⟩, rfl, p1, p2, p3, p6, p7, p8, p17, p18⟩
  have fg := kg.floor
  have q1 : g5.get (h.next + 1) = some (.row (arr4 fun _ => 0) true 0) := kg.sub _ _ _ _ (by omega) k1
  have q2 : g5.get (h.next + 2) = some (.row [.int .i64 0] true 0) := kg.sub _ _ _ _ (by omega) k2
  simp only [rn0, rn1, rn2, rn3, rn4, rn5, rn6, rn7, rn8, if_true, if_false, Nat.le_refl, true_and, and_true, decide_true, decide_false, Bool.not_true, Bool.not_false, reduceIte, Nat.reduceEqDiff, Nat.reduceAdd, Nat.reduceMul, Nat.reduceSub, Nat.reduceLeDiff, Nat.reduceLT, p1, p2, p3, p6, p7, p8, p17, p18, Int.lt_irrefl]
  refine step_store (vs := [.int .i64 (-1)]) rfl q2 (by omega) (by omega) rfl rfl rfl (by simp) fun g6 hs6 => ?_
  rw [splice1] at hs6
  have n6 := hs6.next
  have f6 := hs6.floor
  have s6 : Sub All h g6 := fun i cs w gr t hg => by rw [hs6.old i (by have := AHeap.lt_of_get hg; omega)]; exact kin kg _ _ _ _ t hg
  have r16 : Row g6 h.next [F, V, S, tv] := by
    obtain ⟨w, gr, e⟩ := r1k kg
    exact ⟨w, gr, by rw [hs6.old _ (by omega)]; exact e⟩
  have hy6 := hy.mono s6
  obtain ⟨rr6, hrw6, hq6⟩ := hy6.v
  obtain ⟨g7, eA, ho7, ra7, rb7⟩ := allSpreads_c (n := n) (h := g6) (by omega) (by omega) (Y.nv : Int) (many : Int)
  have n7 := ho7.next
  have f7 := ho7.floor
  have e6 : g6.next = h.next + 4 := by omega
  rw [e6] at eA ra7 rb7
  simp only [rn0, rn1, rn2, rn3, rn4, rn5, rn6, rn7, rn8, if_true, if_false, Nat.le_refl, true_and, and_true, decide_true, decide_false, Bool.not_true, Bool.not_false, reduceIte, Nat.reduceEqDiff, Nat.reduceAdd, Nat.reduceMul, Nat.reduceSub, Nat.reduceLeDiff, Nat.reduceLT, p1, p2, p3, p6, p7, p8, p17, p18, r16.ld, Nat.zero_add, List.getElem?_cons_zero, List.getElem?_cons_succ, Cells.len hrw6, eA]
  refine W_range' rfl (by omega) (by simp only [rn0, rn1, rn2, rn3, rn4, rn5, rn6, rn7, rn8, if_true, if_false, Nat.le_refl, true_and, and_true, decide_true, decide_false, Bool.not_true, Bool.not_false, reduceIte, Nat.reduceEqDiff, Nat.reduceAdd, Nat.reduceMul, Nat.reduceSub, Nat.reduceLeDiff, Nat.reduceLT]; rfl) fun f0 hf0 ts hv h2 hl => ?_
  have c3 : f0 3 = .pointer (some ⟨h.next, 0, none⟩) := by rw [hf0]; simp only [rn0, rn1, rn2, rn3, rn4, rn5, rn6, rn7, rn8, if_true, if_false, Nat.le_refl, true_and, and_true, decide_true, decide_false, Bool.not_true, Bool.not_false, reduceIte, Nat.reduceEqDiff, Nat.reduceAdd, Nat.reduceMul, Nat.reduceSub, Nat.reduceLeDiff, Nat.reduceLT, p3]
  have c6 : f0 6 = .pointer (some ⟨h.next + 1, 0, none⟩) := by rw [hf0]; simp only [rn0, rn1, rn2, rn3, rn4, rn5, rn6, rn7, rn8, if_true, if_false, Nat.le_refl, true_and, and_true, decide_true, decide_false, Bool.not_true, Bool.not_false, reduceIte, Nat.reduceEqDiff, Nat.reduceAdd, Nat.reduceMul, Nat.reduceSub, Nat.reduceLeDiff, Nat.reduceLT, p6]
  have c7 : f0 7 = .pointer (some ⟨h.next + 2, 0, none⟩) := by rw [hf0]; simp only [rn0, rn1, rn2, rn3, rn4, rn5, rn6, rn7, rn8, if_true, if_false, Nat.le_refl, true_and, and_true, decide_true, decide_false, Bool.not_true, Bool.not_false, reduceIte, Nat.reduceEqDiff, Nat.reduceAdd, Nat.reduceMul, Nat.reduceSub, Nat.reduceLeDiff, Nat.reduceLT, p7]
  have c8 : f0 8 = .pointer (some ⟨h.next + 3, 0, none⟩) := by rw [hf0]; simp only [rn0, rn1, rn2, rn3, rn4, rn5, rn6, rn7, rn8, if_true, if_false, Nat.le_refl, true_and, and_true, decide_true, decide_false, Bool.not_true, Bool.not_false, reduceIte, Nat.reduceEqDiff, Nat.reduceAdd, Nat.reduceMul, Nat.reduceSub, Nat.reduceLeDiff, Nat.reduceLT, p8]
  clear hf0
  have nl := hl.next
  have fl := hl.floor
  have en : g7.next = h.next + 6 := by omega
  have oldh : ∀ i, i < h.next + 4 → h2.get i = g6.get i := fun i hi => by rw [hl.old i (by omega), ho7.old i (by omega)]
  have hbase : ∀ i, i < h.next → ∀ o, h.get i = some o → True := fun _ _ _ _ => trivial
  have sub2 : Sub All h h2 := fun i cs w gr t hg => by rw [oldh i (by have := AHeap.lt_of_get hg; omega)]; exact s6 _ _ _ _ t hg
  have d0 : Row h2 h.next [F, V, S, tv] := by
    obtain ⟨w, gr, e⟩ := r16
    exact ⟨w, gr, by rw [oldh _ (by omega)]; exact e⟩
  have d1 : h2.get (h.next + 1) = some (.row (arr4 fun _ => 0) true 0) := by rw [oldh _ (by omega), hs6.old _ (by omega)]; exact q1
  have d2 : h2.get (h.next + 2) = some (.row [.int .i64 (-1)] true 0) := by rw [oldh _ (by omega)]; exact hs6.get
  have d3 : h2.get (h.next + 3) = some (.row (sureL SS (many + 1) Y.nv 0) true 0) := by rw [oldh _ (by omega), hs6.old _ (by omega)]; exact gg
  have hpv : Row h2 (h.next + 4) [.int .i64 (Y.nv : Int)] := ra7.mono hl.sub
  have hpm : Row h2 (h.next + 5) [.int .i64 (many : Int)] := rb7.mono hl.sub
  have hloop := hl.loop
  have hmark := hl.mark
  rw [en] at hloop hmark
  rw [en]
  rw [en] at hl
  generalize hr0 : loopO _ ts _ _ _ _ = r at hloop ⊢
  have r1' : r.state = .ready := by rw [← hr0]; rfl
  have r2' : View 74 r.tmps f0 := by rw [← hr0]; exact hv
  have r3x : r.params = #[43] := by rw [← hr0]; rfl
  have r4 : compCode Try.prog 74 r.assign = some ra101_0 := by rw [← hr0]; exact raok101_0
  have r5 : compCode Try.prog 74 r.body = some rb101_0 := by rw [← hr0]; exact rbok101_0
  have r6 : leftBy r .norm = r := by rw [← hr0]; rfl
  clear hr0 hl hv
  have hlenE : (enumS (Y.nv - 1) 0 many fun _ => 0).length ≤ 1000 := by
    have h1 := enumS_len (Y.nv - 1) 0 many fun _ => 0
    have h2 : (many + 1) ^ (Y.nv - 1) ≤ 10 ^ (Y.nv - 1) := Nat.pow_le_pow_left (by omega) _
    have h3 : 10 ^ (Y.nv - 1) ≤ 10 ^ 3 := Nat.pow_le_pow_right (by omega) (by omega)
    omega
  have hit := iterS_c (spStep SS Y.nv) (JS h2 h.next) (g := h2) (pv := h.next + 4) (pm := h.next + 5) (K := 20) (N0 := 10020) (n := n) (nv := Y.nv) (many := many) (yv := .func (.yield (h.next + 7)) #[] #[]) ((fun _ => 0), -1) hv0 (by omega) hm hpv hpm rfl (by omega) (by omega) (by omega)
    (fun s g1 g' cs hj hs => by
      have hup := hj.up
      have hsn := hs.next
      exact ⟨fun i hi a1 a2 => by rw [hs.old i (by omega)]; exact hj.old i hi a1 a2, by rw [hs.old _ (by omega)]; exact hj.bst, by rw [hs.old _ (by omega)]; exact hj.lst, by omega⟩)
    (fun g3 ho => by
      have hon := ho.next
      exact ⟨fun i hi _ _ => ho.old i hi, by rw [ho.old _ (by omega)]; exact d1, by rw [ho.old _ (by omega)]; exact d2, by omega⟩)
    (fun m g1 s c hmN it hb hok hj hfg hr1 => by
      obtain ⟨m, rfl⟩ : ∃ p, m = p + 1 := ⟨m - 1, by omega⟩
      rw [call_yield]
      have hup := hj.up
      have hloop1 : g1.get (h.next + 7) = some (.loop r) := by rw [hj.old _ (by omega) (by omega) (by omega)]; exact hloop
      suffices key : ∃ e g', roundA Try.prog (call m) m (h.next + 7) [.agg ⟨arr4 c⟩] g1 = some (.bool (goesOn e), g') ∧ (e = .norm ∧ JS h2 h.next (spStep SS Y.nv s c).1 g' ∧ (∀ i, i < h2.next + 3 → i ≠ h.next + 1 → i ≠ h.next + 2 → g'.get i = g1.get i) ∧ g'.floor = h2.floor ∧ g'.next ≤ g1.next + 20) by
        obtain ⟨e, g', k1, rfl, k2, k3, k4, k5⟩ := key
        have krow : ∀ i cs, i < h2.next + 3 → i ≠ h.next + 1 → i ≠ h.next + 2 → Row g1 i cs → Row g' i cs := fun i cs h1 h2 h3 ⟨w, gr, e⟩ => ⟨w, gr, by rw [k3 i h1 h2 h3]; exact e⟩
        refine ⟨g', k1, k2, ⟨krow _ _ (by omega) (by omega) (by omega) it.v, krow _ _ (by omega) (by omega) (by omega) it.y, krow _ _ (by omega) (by omega) (by omega) it.c⟩, by rw [k3 _ (by omega) (by omega) (by omega)]; exact hb, k4, k5⟩
      refine round_run (f := f0) hloop1 r1' r2' (by rw [r3x]; rfl) (by omega) r4 r5 ?_
      have hset : setFr f0 r.params.toList [.agg ⟨arr4 c⟩] = upd f0 43 (.agg ⟨arr4 c⟩) := by rw [r3x]; rfl
      rw [hset]
      simp only [rn0, rn1, rn2, rn3, rn4, rn5, rn6, rn7, rn8, if_true, if_false, Nat.le_refl, true_and, and_true, decide_true, decide_false, Bool.not_true, Bool.not_false, reduceIte, Nat.reduceEqDiff, Nat.reduceAdd, Nat.reduceMul, Nat.reduceSub, Nat.reduceLeDiff, Nat.reduceLT, ra101_0]
      refine step_new (vs := arr4 c) (by omega) (by omega) rfl (by simp only [rn0, rn1, rn2, rn3, rn4, rn5, rn6, rn7, rn8, if_true, if_false, Nat.le_refl, true_and, and_true, decide_true, decide_false, Bool.not_true, Bool.not_false, reduceIte, Nat.reduceEqDiff, Nat.reduceAdd, Nat.reduceMul, Nat.reduceSub, Nat.reduceLeDiff, Nat.reduceLT]; rfl) arr4_one arr4_len rfl fun g2 hx2 => ?_
      have n2 := hx2.next
      have f2 := hx2.floor
      simp only [rn0, rn1, rn2, rn3, rn4, rn5, rn6, rn7, rn8, if_true, if_false, Nat.le_refl, true_and, and_true, decide_true, decide_false, Bool.not_true, Bool.not_false, reduceIte, Nat.reduceEqDiff, Nat.reduceAdd, Nat.reduceMul, Nat.reduceSub, Nat.reduceLeDiff, Nat.reduceLT]
      refine ⟨by rw [hx2.old _ (by omega)]; exact hloop1, by omega, fun g3 hp3 => ?_⟩
      have n3 := hp3.next
      have f3 := hp3.floor
      have g3old : ∀ i, i < g1.next → i ≠ h.next + 7 → g3.get i = g1.get i := fun i hi hne => by rw [hp3.old i hne, hx2.old i hi]
      have hsub3 : Sub All h g3 := fun i cs w gr t hg => by
        have := AHeap.lt_of_get hg
        rw [g3old i (by omega) (by omega), hj.old i (by omega) (by omega) (by omega)]
        exact sub2 _ _ _ _ t hg
      have hy3 := hy.mono hsub3
      obtain ⟨rr3, hrw3, hq3⟩ := hy3.v
      have rp3 : Row g3 h.next [F, V, S, tv] := by
        obtain ⟨w, gr, e⟩ := d0
        exact ⟨w, gr, by rw [g3old _ (by omega) (by omega), hj.old _ (by omega) (by omega) (by omega)]; exact e⟩
      have rs3 : Row g3 (h.next + 3) (sureL SS (many + 1) Y.nv 0) := ⟨_, _, by rw [g3old _ (by omega) (by omega), hj.old _ (by omega) (by omega) (by omega)]; exact d3⟩
      have rc3 : Row g3 g1.next (arr4 c) := by
        obtain ⟨w, gr, e⟩ := hx2.row
        exact ⟨w, gr, by rw [hp3.old _ (by omega)]; exact e⟩
      have rl3 : g3.get (h.next + 2) = some (.row [.int .i64 s.2] true 0) := by rw [g3old _ (by omega) (by omega)]; exact hj.lst
      have rb3 : g3.get (h.next + 1) = some (.row (arr4 s.1) true 0) := by rw [g3old _ (by omega) (by omega)]; exact hj.bst
      have hcn : ∀ v, v < Y.nv → ∃ k : Nat, c v = k ∧ k ≤ 9 := fun v hv => ⟨(c v).toNat, by have := hok.1 v hv; omega, by have := hok.1 v hv; omega⟩
      have hsum : ∀ v, v < Y.nv → (c v).toNat < many + 1 := fun v hv => by have := hok.1 v hv; omega
      have hcv : ∀ v, v < Y.nv → c v = (((c v).toNat : Nat) : Int) := fun v hv => by have := hok.1 v hv; omega
      have lc : ∀ (g : AHeap) v, v < Y.nv → Row g g1.next (arr4 c) → loadCell g (.pointer (some ⟨g1.next, v, none⟩)) = some (.int .i64 (c v)) := fun g v hv hr => by
        rw [hr.ld]; unfold arr4; rw [List.getElem?_map, List.getElem?_range (by omega)]; rfl
      have lsu : ∀ (g : AHeap) v, v < Y.nv → Row g (h.next + 3) (sureL SS (many + 1) Y.nv 0) → loadCell g (.pointer (some ⟨h.next + 3, v * 10 + (c v).toNat, none⟩)) = some (.int .i64 (SS v (c v).toNat)) := fun g v hv hr => by
        rw [hr.ld]; exact sureL_get hv (by omega) (hsum v hv) (by have := hok.1 v hv; omega)
      have ix2 : ∀ v, v < Y.nv → indexArr 10 1 (.pointer (some ⟨h.next + 3, v * 10, none⟩)) (.int .i64 (c v)) = some (.pointer (some ⟨h.next + 3, v * 10 + (c v).toNat, none⟩)) := fun v hv => by
        have e := hcv v hv
        have hb := hok.1 v hv
        generalize (c v).toNat = x at e
        rw [e, idxArr_p (by omega)]
      have i00 : indexArr 4 1 (.pointer (some ⟨g1.next, 0, none⟩)) (.int .i64 0) = some (.pointer (some ⟨g1.next, 0, none⟩)) := idxArr_p (k := 0) (by omega)
      have i01 : indexArr 4 10 (.pointer (some ⟨h.next + 3, 0, none⟩)) (.int .i64 0) = some (.pointer (some ⟨h.next + 3, 0, none⟩)) := idxArr_s (s := 10) (k := 0) (by omega)
      have ix20 := ix2 0 hv0
      have ls0 := lsu g3 0 hv0 rs3
      simp only [Nat.zero_mul, Nat.zero_add] at ix20 ls0
      simp only [rn0, rn1, rn2, rn3, rn4, rn5, rn6, rn7, rn8, if_true, if_false, Nat.le_refl, true_and, and_true, decide_true, decide_false, Bool.not_true, Bool.not_false, reduceIte, Nat.reduceEqDiff, Nat.reduceAdd, Nat.reduceMul, Nat.reduceSub, Nat.reduceLeDiff, Nat.reduceLT, rb101_0, c3, c6, c7, c8, i00, i01, lc g3 0 hv0 rc3, ix20, ls0, rp3.ld, Nat.zero_add, List.getElem?_cons_zero, List.getElem?_cons_succ, Cells.len hrw3]
      refine W_loop Y.nv (fun v f' g ms => ((∀ i, i < g3.next → g.get i = g3.get i) ∧ g.floor = g3.floor ∧ g3.next ≤ g.next ∧ g.next ≤ g3.next + 2 * v) ∧ ms = [] ∧ f' 3 = .pointer (some ⟨h.next, 0, none⟩) ∧ f' 6 = .pointer (some ⟨h.next + 1, 0, none⟩) ∧ f' 7 = .pointer (some ⟨h.next + 2, 0, none⟩) ∧ f' 8 = .pointer (some ⟨h.next + 3, 0, none⟩) ∧ f' 11 = .pointer (some ⟨g1.next, 0, none⟩) ∧
        f' 12 = .int .i64 (minN (SS 0 (c 0).toNat) (fun v => SS v (c v).toNat) v) ∧ f' 52 = .int .i64 (Y.nv : Int) ∧ f' 53 = .int .i64 (v : Int)) (by simp; omega) ?_ ?_ ?_
      · simp only [rn0, rn1, rn2, rn3, rn4, rn5, rn6, rn7, rn8, if_true, if_false, Nat.le_refl, true_and, and_true, decide_true, decide_false, Bool.not_true, Bool.not_false, reduceIte, Nat.reduceEqDiff, Nat.reduceAdd, Nat.reduceMul, Nat.reduceSub, Nat.reduceLeDiff, Nat.reduceLT, c3, c6, c7, c8]
        exact ⟨⟨fun _ _ => trivial, by omega⟩, rfl, rfl⟩
      · rintro v f' g ms hv ⟨⟨og, fg, ug, bg⟩, rfl, p3, p6, p7, p8, p11, p12, p52, p53⟩
        have hv' : (v : Int) < (Y.nv : Int) := by omega
        have hwv : wrapF .i64 ((v : Int) + 1) = ((v + 1 : Nat) : Int) := by rw [wrap_in (by omega) (by omega)]; rfl
        have rcg : Row g g1.next (arr4 c) := by
          obtain ⟨w, gr, e⟩ := rc3
          exact ⟨w, gr, by rw [og _ (by omega)]; exact e⟩
        have rsg : Row g (h.next + 3) (sureL SS (many + 1) Y.nv 0) := by
          obtain ⟨w, gr, e⟩ := rs3
          exact ⟨w, gr, by rw [og _ (by omega)]; exact e⟩
        simp only [rn0, rn1, rn2, rn3, rn4, rn5, rn6, rn7, rn8, if_true, if_false, Nat.le_refl, true_and, and_true, decide_true, decide_false, Bool.not_true, Bool.not_false, reduceIte, Nat.reduceEqDiff, Nat.reduceAdd, Nat.reduceMul, Nat.reduceSub, Nat.reduceLeDiff, Nat.reduceLT, p3, p6, p7, p8, p11, p12, p52, p53, hv']
        refine W_draw All ?_
        simp only [rn0, rn1, rn2, rn3, rn4, rn5, rn6, rn7, rn8, if_true, if_false, Nat.le_refl, true_and, and_true, decide_true, decide_false, Bool.not_true, Bool.not_false, reduceIte, Nat.reduceEqDiff, Nat.reduceAdd, Nat.reduceMul, Nat.reduceSub, Nat.reduceLeDiff, Nat.reduceLT, p3, p6, p7, p8, p11, p12, p52, p53, idxArr_p (l := 4) (k := v) (b := g1.next) (o := 0) (by omega), idxArr_s (l := 4) (s := 10) (k := v) (b := h.next + 3) (o := 0) (by omega), Nat.zero_add, lc g v hv rcg, ix2 v hv, lsu g v hv rsg, sl_int]
        refine up_slice (by omega) rfl (fun g7 hx => trivial) fun g7 hx7 => ?_
        have n7 := hx7.next
        have f7 := hx7.floor
        have hone : Ints g7 (.slice (some ⟨g.next, 0, none⟩) 1 1) 1 (fun _ => SS v (c v).toNat) := ⟨_, _, rfl, fun x e => by cases e; rfl, .inr ⟨_, 0, _, _, _, rfl, hx7.get, fun i j hi hj => by
          have hi : i = 0 := by omega
          have hj : j = 0 := by omega
          subst hi hj; rfl⟩⟩
        have em := minimum_c (n := m) (h := g7) (m := 1) (by omega) (by omega) hone (minN (SS 0 (c 0).toNat) (fun v => SS v (c v).toNat) v)
        have hmin : minN (minN (SS 0 (c 0).toNat) (fun v => SS v (c v).toNat) v) (fun _ => SS v (c v).toNat) 1 = minN (SS 0 (c 0).toNat) (fun v => SS v (c v).toNat) (v + 1) := by simp only [minN]
        rw [hmin] at em
        simp only [rn0, rn1, rn2, rn3, rn4, rn5, rn6, rn7, rn8, if_true, if_false, Nat.le_refl, true_and, and_true, decide_true, decide_false, Bool.not_true, Bool.not_false, reduceIte, Nat.reduceEqDiff, Nat.reduceAdd, Nat.reduceMul, Nat.reduceSub, Nat.reduceLeDiff, Nat.reduceLT, p3, p6, p7, p8, p11, p12, p52, p53, em, hwv]
        exact ⟨fun i hi => by rw [hx7.old i (by omega)]; exact og i hi, by omega, by omega, by omega⟩
      rintro f' g ms ⟨⟨og, fg, ug, bg⟩, rfl, p3, p6, p7, p8, p11, p12, p52, p53⟩
      change f' 12 = .int .i64 (lowS SS Y.nv c) at p12
      have rcg : Row g g1.next (arr4 c) := by
        obtain ⟨w, gr, e⟩ := rc3
        exact ⟨w, gr, by rw [og _ (by omega)]; exact e⟩
      have rlg : g.get (h.next + 2) = some (.row [.int .i64 s.2] true 0) := by rw [og _ (by omega)]; exact rl3
      have rbg : g.get (h.next + 1) = some (.row (arr4 s.1) true 0) := by rw [og _ (by omega)]; exact rb3
      have kl : g.get (h.next + 7) = some (.loop { r with state := .busy }) := by rw [og _ (by omega)]; exact hp3.get
      have gold : ∀ i, i < g1.next → i ≠ h.next + 7 → g.get i = g1.get i := fun i hi hne => by rw [og i (by omega)]; exact g3old i hi hne
      have l7 : loadCell g (.pointer (some ⟨h.next + 2, 0, none⟩)) = some (.int .i64 s.2) := row_ld0 rlg
      by_cases hlt : s.2 < lowS SS Y.nv c
      · have hst : (spStep SS Y.nv s c).1 = (c, lowS SS Y.nv c) := by unfold spStep; rw [if_pos hlt]
        simp only [rn0, rn1, rn2, rn3, rn4, rn5, rn6, rn7, rn8, if_true, if_false, Nat.le_refl, true_and, and_true, decide_true, decide_false, Bool.not_true, Bool.not_false, reduceIte, Nat.reduceEqDiff, Nat.reduceAdd, Nat.reduceMul, Nat.reduceSub, Nat.reduceLeDiff, Nat.reduceLT, p3, p6, p7, p8, p11, p12, p52, p53, Int.lt_irrefl, l7, hlt, rcg.whole arr4_len]
        refine step_store (b := h.next + 1) (off := 0) (vs := arr4 c) rfl rbg (by omega) (by omega) rfl arr4_one arr4_len (by rw [arr4_len]; omega) fun g6 hs6 => ?_
        rw [splice_all (by rw [arr4_len, arr4_len])] at hs6
        have n6 := hs6.next
        have f6 := hs6.floor
        simp only [rn0, rn1, rn2, rn3, rn4, rn5, rn6, rn7, rn8, if_true, if_false, Nat.le_refl, true_and, and_true, decide_true, decide_false, Bool.not_true, Bool.not_false, reduceIte, Nat.reduceEqDiff, Nat.reduceAdd, Nat.reduceMul, Nat.reduceSub, Nat.reduceLeDiff, Nat.reduceLT, p3, p6, p7, p8, p11, p12, p52, p53]
        refine step_store (b := h.next + 2) (off := 0) (vs := [.int .i64 (lowS SS Y.nv c)]) rfl (by rw [hs6.old _ (by omega)]; exact rlg) (by omega) (by omega) rfl rfl rfl (by simp) fun g7 hs7 => ?_
        rw [splice1] at hs7
        have n7 := hs7.next
        have f7 := hs7.floor
        simp only [rn0, rn1, rn2, rn3, rn4, rn5, rn6, rn7, rn8, if_true, if_false, Nat.le_refl, true_and, and_true, decide_true, decide_false, Bool.not_true, Bool.not_false, reduceIte, Nat.reduceEqDiff, Nat.reduceAdd, Nat.reduceMul, Nat.reduceSub, Nat.reduceLeDiff, Nat.reduceLT]
        refine ⟨by rw [hs7.old _ (by omega), hs6.old _ (by omega)]; exact kl, by omega, by omega, fun g8 hp8 => ⟨?_, ?_, by rw [hp8.floor]; omega, by rw [hp8.next]; omega⟩⟩
        · rw [hst]
          have hn8 := hp8.next
          refine ⟨fun i hi a1 a2 => ?_, ?_, ?_, by omega⟩
          · by_cases e : i = h.next + 7
            · subst e; rw [hp8.get, r6]; exact hloop.symm
            · rw [hp8.old i e, hs7.old i a2, hs6.old i a1, gold i (by omega) e]; exact hj.old i hi a1 a2
          · rw [hp8.old _ (by omega), hs7.old _ (by omega)]; exact hs6.get
          · rw [hp8.old _ (by omega)]; exact hs7.get
        · intro i hi a1 a2
          by_cases e : i = h.next + 7
          · subst e; rw [hp8.get, r6]; exact hloop1.symm
          · rw [hp8.old i e, hs7.old i a2, hs6.old i a1]
            exact gold i (by omega) e
      · have hst : (spStep SS Y.nv s c).1 = s := by unfold spStep; rw [if_neg hlt]
        simp only [rn0, rn1, rn2, rn3, rn4, rn5, rn6, rn7, rn8, if_true, if_false, Nat.le_refl, true_and, and_true, decide_true, decide_false, Bool.not_true, Bool.not_false, reduceIte, Nat.reduceEqDiff, Nat.reduceAdd, Nat.reduceMul, Nat.reduceSub, Nat.reduceLeDiff, Nat.reduceLT, p3, p6, p7, p8, p11, p12, p52, p53, Int.lt_irrefl, l7, hlt]
        refine ⟨kl, by omega, by omega, fun g8 hp8 => ⟨?_, ?_, by rw [hp8.floor]; omega, by rw [hp8.next]; omega⟩⟩
        · rw [hst]
          have hn8 := hp8.next
          refine ⟨fun i hi a1 a2 => ?_, ?_, ?_, by omega⟩
          · by_cases e : i = h.next + 7
            · subst e; rw [hp8.get, r6]; exact hloop.symm
            · rw [hp8.old i e, gold i (by omega) e]; exact hj.old i hi a1 a2
          · rw [hp8.old _ (by omega)]; exact rbg
          · rw [hp8.old _ (by omega)]; exact rlg
        · intro i hi a1 a2
          by_cases e : i = h.next + 7
          · subst e; rw [hp8.get, r6]; exact hloop1.symm
          · rw [hp8.old i e]
            exact gold i (by omega) e)
    (by omega)
  obtain ⟨v5, g8, e8, j8, fl8, n8⟩ := hit
  change JS h2 h.next (spRun SS Y.nv many) g8 at j8
  generalize spRun SS Y.nv many = sr at j8 ⊢
  have hup := j8.up
  refine ⟨v5, g8, .norm, by exact e8, by omega, by omega, by rw [r6, j8.old _ (by omega) (by omega) (by omega)]; exact hloop, fun g9 hp9 => ?_⟩
  have n9 := hp9.next
  have f9 := hp9.floor
  have m9 : g9.get (h.next + 6) = some .deferred := by rw [hp9.old _ (by omega), j8.old _ (by omega) (by omega) (by omega)]; exact hmark
  have b9 : g9.get (h.next + 1) = some (.row (arr4 sr.1) true 0) := by rw [hp9.old _ (by omega)]; exact j8.bst
  have l9 : g9.get (h.next + 2) = some (.row [.int .i64 sr.2] true 0) := by rw [hp9.old _ (by omega)]; exact j8.lst
  have w9 := (show Row g9 (h.next + 1) (arr4 sr.1) from ⟨_, _, b9⟩).whole arr4_len
  have v9 : loadCell g9 (.pointer (some ⟨h.next + 2, 0, none⟩)) = some (.int .i64 sr.2) := row_ld0 l9
  simp only [rn0, rn1, rn2, rn3, rn4, rn5, rn6, rn7, rn8, if_true, if_false, Nat.le_refl, true_and, and_true, decide_true, decide_false, Bool.not_true, Bool.not_false, reduceIte, Nat.reduceEqDiff, Nat.reduceAdd, Nat.reduceMul, Nat.reduceSub, Nat.reduceLeDiff, Nat.reduceLT]
  refine W_draw All ?_
  simp only [rn0, rn1, rn2, rn3, rn4, rn5, rn6, rn7, rn8, if_true, if_false, Nat.le_refl, true_and, and_true, decide_true, decide_false, Bool.not_true, Bool.not_false, reduceIte, Nat.reduceEqDiff, Nat.reduceAdd, Nat.reduceMul, Nat.reduceSub, Nat.reduceLeDiff, Nat.reduceLT, c6, c7, w9, v9]
  refine up_store (b := h.next + 1) (off := 0) (vs := arr4 sr.1) rfl b9 (by omega) (by omega) rfl arr4_one arr4_len (by rw [arr4_len]; omega) (fun g hs => ?_) fun g10 hs10 => ?_
  · rw [splice_all (cs := arr4 sr.1) (vs := arr4 sr.1) rfl] at hs
    intro i cs w gr _ hg
    by_cases e : i = h.next + 1
    · subst e
      rw [b9] at hg
      cases hg
      exact hs.get
    · rw [hs.old i e]; exact hg
  rw [splice_all (cs := arr4 sr.1) (vs := arr4 sr.1) rfl] at hs10
  have n10 := hs10.next
  have f10 := hs10.floor
  simp only [rn0, rn1, rn2, rn3, rn4, rn5, rn6, rn7, rn8, if_true, if_false, Nat.le_refl, true_and, and_true, decide_true, decide_false, Bool.not_true, Bool.not_false, reduceIte, Nat.reduceEqDiff, Nat.reduceAdd, Nat.reduceMul, Nat.reduceSub, Nat.reduceLeDiff, Nat.reduceLT, c6, c7]
  refine up_store (b := h.next + 2) (off := 0) (vs := [.int .i64 sr.2]) rfl (by rw [hs10.old _ (by omega)]; exact l9) (by omega) (by omega) rfl rfl rfl (by simp) (fun g hs => trivial) fun g11 hs11 => ?_
  rw [splice1] at hs11
  have n11 := hs11.next
  have f11 := hs11.floor
  simp only [rn0, rn1, rn2, rn3, rn4, rn5, rn6, rn7, rn8, if_true, if_false, Nat.le_refl, true_and, and_true, decide_true, decide_false, Bool.not_true, Bool.not_false, reduceIte, Nat.reduceEqDiff, Nat.reduceAdd, Nat.reduceMul, Nat.reduceSub, Nat.reduceLeDiff, Nat.reduceLT]
  refine ret_mark (.inr rfl) (by rw [hs11.old _ (by omega), hs10.old _ (by omega)]; exact m9) (by omega) (by omega) fun g12 hp12 => ?_
  have n12 := hp12.next
  have f12 := hp12.floor
  have w12 := (show Row g12 (h.next + 1) (arr4 sr.1) from ⟨_, _, by rw [hp12.old _ (by omega), hs11.old _ (by omega)]; exact hs10.get⟩).whole arr4_len
  have v12 : loadCell g12 (.pointer (some ⟨h.next + 2, 0, none⟩)) = some (.int .i64 sr.2) := row_ld0 (by rw [hp12.old _ (by omega)]; exact hs11.get)
  refine ⟨_, res_41 (x := .agg ⟨arr4 sr.1⟩) (y := .int .i64 sr.2) (by simp only [rn0, rn1, rn2, rn3, rn4, rn5, rn6, rn7, rn8, if_true, if_false, Nat.le_refl, true_and, and_true, decide_true, decide_false, Bool.not_true, Bool.not_false, reduceIte, Nat.reduceEqDiff, Nat.reduceAdd, Nat.reduceMul, Nat.reduceSub, Nat.reduceLeDiff, Nat.reduceLT, c6, w12]) (by simp only [rn0, rn1, rn2, rn3, rn4, rn5, rn6, rn7, rn8, if_true, if_false, Nat.le_refl, true_and, and_true, decide_true, decide_false, Bool.not_true, Bool.not_false, reduceIte, Nat.reduceEqDiff, Nat.reduceAdd, Nat.reduceMul, Nat.reduceSub, Nat.reduceLeDiff, Nat.reduceLT, c7, v12]), rfl, ?_⟩
  refine ⟨fun i cs w gr t hg => ?_, by omega, by omega, by omega⟩
  have := AHeap.lt_of_get hg
  rw [hp12.old i (by omega), hs11.old i (by omega), hs10.old i (by omega), hp9.old i (by omega), j8.old i (by omega) (by omega) (by omega)]
  exact sub2 _ _ _ _ t hg
end Go.Vm.Vat

namespace Go.Vm.Vat
open Go.Proofs
set_option linter.unusedSimpArgs false
set_option linter.unusedVariables false
set_option maxRecDepth 10000
variable {n : Nat} {h : AHeap}
end Go.Vm.Vat

namespace Go.Vm.Vat
open Go.Proofs
set_option linter.unusedSimpArgs false
set_option linter.unusedVariables false
set_option maxRecDepth 10000
variable {n : Nat} {h : AHeap}
theorem x_eqNil {P : Program} {cf : CallF} {N : Nat} {f : Fr} {w : Bool} {x y : Operand} : sem P cf N f h (.eqNil w x y) = eqNilA w (val f x) (val f y) h := id rfl
theorem eqNil_no {w : Bool} {a : Addr} {k c k2 c2 : Nat} : eqNilA w (.slice (some a) k c) (.slice none k2 c2) h = some (.bool (!w), h) := id rfl
def s102 : SCode := (.seq (.ops [⟨(some 2), none, .mov (.const (.slice none 0 0))⟩]) (.seq (.seq (.ops [⟨(some 3), none, .mov (T 0)⟩, ⟨(some 4), none, .eqNil true (T 3) (.const (.slice none 0 0))⟩]) (.cond (T 4) (.seq (.ops [⟨(some 2), none, .mov (.const (.slice none 0 0))⟩]) .ret) .skip)) (.seq (.ops [⟨(some 5), none, .bslice 1 0 [(.int .i64 (0))] [] []⟩, ⟨(some 6), none, .mov (T 0)⟩, ⟨(some 7), none, .append 1 8 (T 5) (T 6)⟩, ⟨(some 2), none, .mov (T 7)⟩]) .ret)))
theorem fok102 : FnOk Try.prog 102 8 s102 [.tmp 2] := ⟨Try.f102, _, Try.func102, rfl, Try.ntmps102, by kernel_rfl, by kernel_rfl⟩
def s100 : SCode := (.seq (.ops [⟨(some 2), none, .mov (.const (.bool false))⟩]) (.seq (.ops [⟨(some 3), none, .mov (T 0)⟩, ⟨(some 4), none, .int2 .leq (.const (.int .i64 (0))) (T 3)⟩, ⟨(some 5), none, .mov (T 4)⟩, ⟨(some 6), (some (5, true)), .mov (T 0)⟩, ⟨(some 7), (some (5, true)), .int2 .leq (T 6) (.const (.int .i64 (9)))⟩, ⟨(some 8), none, .pick (T 5) (T 7) (.const (.bool false))⟩, ⟨(some 2), none, .mov (T 8)⟩]) .ret))
theorem fok100 : FnOk Try.prog 100 9 s100 [.tmp 2] := ⟨Try.f100, _, Try.func100, rfl, Try.ntmps100, by kernel_rfl, by kernel_rfl⟩
theorem isFurther_c (hn : 1 ≤ n) (m : Int) : call n (.func (.func 100) #[] #[]) [.int .i64 m] h = some (.bool (decide (0 ≤ m ∧ m ≤ 9)), h) := by
  obtain ⟨n, rfl⟩ : ∃ p, n = p + 1 := ⟨n - 1, by omega⟩
  refine call_plain0 fok100 rfl rfl (by simp) rfl ?_
  by_cases c1 : 0 ≤ m <;> by_cases c2 : m ≤ 9 <;> simp only [rn0, rn1, rn2, rn3, rn4, rn5, rn6, rn7, rn8, if_true, if_false, Nat.le_refl, true_and, and_true, decide_true, decide_false, Bool.not_true, Bool.not_false, reduceIte, Nat.reduceEqDiff, Nat.reduceAdd, Nat.reduceMul, Nat.reduceSub, Nat.reduceLeDiff, Nat.reduceLT, s100, c1, c2, and_self, and_false, false_and]
/-- what Spread asks of its arguments -/
def SpreadArgs (Y : MY) (field many : Int) : Prop := (0 ≤ field ∧ field ≤ (Y.nf : Int) - 1) ∧ 0 ≤ many ∧ many ≤ 9
open Classical in
/-- the error of Spread -/
noncomputable def spreadE (Y : MY) (field many : Int) : Int := if faultN Y ≠ 0 then faultN Y else if ¬ SpreadArgs Y field many then 2 else if truths Y = [] then 11 else if Y.nv = 0 then 7 else 0
/-- the best spread, and its least blue -/
noncomputable def bestS (Y : MY) (f many : Nat) : (Nat → Int) × Int := spRun (fun v k => sureN Y v f k (truths Y)) Y.nv many
theorem ret_ttt {a b c : Nat} {f : Fr} : resV f h [.tmp a, .tmp b, .tmp c] = some (.tuple ⟨[f a, f b, f c]⟩) := id rfl
theorem x_sliceArr {P : Program} {cf : CallF} {N : Nat} {f : Fr} {m s : Nat} {x : Operand} {lo hi : Option Operand} : sem P cf N f h (.sliceArr m s x lo hi) = sliceArr m s h (val f x) (lo.map (val f)) (hi.map (val f)) := id rfl
theorem sliceArr4 {b m : Nat} (hm : m ≤ 4) : sliceArr 4 1 h (.pointer (some ⟨b, 0, none⟩)) none (some (.int .i64 (m : Int))) = some (.slice (some ⟨b, 0, none⟩) m 4, h) := by
  have e1 : boundA 0 none = some 0 := rfl
  have e2 : boundA 4 (some (.int .i64 (m : Int))) = some m := rfl
  have e3 : Nat.ble 0 m = true := ble_iff.2 (Nat.zero_le _)
  have e4 : Nat.ble m 4 = true := ble_iff.2 hm
  have e5 : Nat.beq 4 0 = false := rfl
  unfold sliceArr
  simp only [e1, e2, e3, e4, e5, Bool.and_self, cond_true, cond_false, addrPlus, Nat.zero_mul, Nat.add_zero, Nat.sub_zero]
def s48 : SCode := (.seq (.ops [⟨(some 3), none, .box (T 0)⟩, ⟨(some 6), none, .mov (.const (.slice none 0 0))⟩, ⟨(some 7), none, .mov (.const (.int .i64 (0)))⟩, ⟨(some 8), none, .mov (.const (.int .i64 (0)))⟩]) (.seq (.ops [⟨(some 12), none, .loadN 3 (T 3)⟩, ⟨(some 13), none, .call (.func 78) [(T 12)]⟩, ⟨(some 11), none, .mov (T 13)⟩, ⟨(some 14), none, .extract 0 (T 11)⟩, ⟨(some 15), none, .extract 1 (T 11)⟩, ⟨(some 9), none, .alloc [(.slice none 0 0), (.slice none 0 0), (.slice none 0 0), (.slice none 0 0)]⟩, ⟨none, none, .store 4 (T 9) (T 14)⟩, ⟨(some 8), none, .mov (T 15)⟩]) (.seq (.block 0 (.seq (.ops [⟨(some 17), none, .mov (T 8)⟩, ⟨(some 18), none, .int2 .neq (T 17) (.const (.int .i64 (0)))⟩, ⟨(some 16), none, .mov (T 18)⟩]) (.cond (T 16) (.seq (.ops [⟨(some 19), none, .mov (T 8)⟩, ⟨(some 6), none, .mov (.const (.slice none 0 0))⟩, ⟨(some 7), none, .mov (.const (.int .i64 (0)))⟩, ⟨(some 8), none, .mov (T 19)⟩]) .ret) (.seq (.ops [⟨(some 21), none, .loadN 4 (T 9)⟩, ⟨(some 22), none, .mov (T 1)⟩, ⟨(some 23), none, .call (.func 98) [(T 21), (T 22)]⟩, ⟨(some 24), none, .not (T 23)⟩, ⟨(some 25), none, .mov (T 24)⟩, ⟨(some 26), (some (25, false)), .mov (T 2)⟩, ⟨(some 27), (some (25, false)), .call (.func 100) [(T 26)]⟩, ⟨(some 28), (some (25, false)), .not (T 27)⟩, ⟨(some 29), none, .pick (T 25) (.const (.bool true)) (T 28)⟩, ⟨(some 20), none, .mov (T 29)⟩]) (.cond (T 20) (.seq (.ops [⟨(some 6), none, .mov (.const (.slice none 0 0))⟩, ⟨(some 7), none, .mov (.const (.int .i64 (0)))⟩, ⟨(some 8), none, .mov (.const (.int .i64 (2)))⟩]) .ret) (.seq (.ops [⟨(some 31), none, .fieldAddr 3 (T 9)⟩, ⟨(some 32), none, .load1 (T 31)⟩, ⟨(some 33), none, .len (T 32)⟩, ⟨(some 34), none, .int2 .eql (T 33) (.const (.int .i64 (0)))⟩, ⟨(some 30), none, .mov (T 34)⟩]) (.cond (T 30) (.seq (.ops [⟨(some 6), none, .mov (.const (.slice none 0 0))⟩, ⟨(some 7), none, .mov (.const (.int .i64 (0)))⟩, ⟨(some 8), none, .mov (.const (.int .i64 (11)))⟩]) .ret) (.seq (.ops [⟨(some 36), none, .fieldAddr 0 (T 9)⟩, ⟨(some 37), none, .fieldAddr 1 (T 36)⟩, ⟨(some 38), none, .load1 (T 37)⟩, ⟨(some 39), none, .len (T 38)⟩, ⟨(some 40), none, .int2 .eql (T 39) (.const (.int .i64 (0)))⟩, ⟨(some 35), none, .mov (T 40)⟩]) (.cond (T 35) (.seq (.ops [⟨(some 6), none, .mov (.const (.slice none 0 0))⟩, ⟨(some 7), none, .mov (.const (.int .i64 (0)))⟩, ⟨(some 8), none, .mov (.const (.int .i64 (7)))⟩]) .ret) .skip))))))))) (.seq (.ops [⟨(some 42), none, .loadN 4 (T 9)⟩, ⟨(some 43), none, .mov (T 1)⟩, ⟨(some 44), none, .mov (T 2)⟩, ⟨(some 45), none, .call (.func 101) [(T 42), (T 43), (T 44)]⟩, ⟨(some 41), none, .mov (T 45)⟩, ⟨(some 46), none, .extract 0 (T 41)⟩, ⟨(some 47), none, .extract 1 (T 41)⟩, ⟨(some 10), none, .alloc [(.int .i64 (0)), (.int .i64 (0)), (.int .i64 (0)), (.int .i64 (0))]⟩, ⟨none, none, .store 4 (T 10) (T 46)⟩, ⟨(some 7), none, .mov (T 47)⟩]) (.seq (.ops [⟨(some 48), none, .fieldAddr 0 (T 9)⟩, ⟨(some 49), none, .fieldAddr 1 (T 48)⟩, ⟨(some 50), none, .load1 (T 49)⟩, ⟨(some 51), none, .len (T 50)⟩, ⟨(some 52), none, .sliceArr 4 1 (T 10) none (some (T 51))⟩, ⟨(some 53), none, .call (.func 102) [(T 52)]⟩, ⟨(some 54), none, .mov (T 7)⟩, ⟨(some 6), none, .mov (T 53)⟩, ⟨(some 7), none, .mov (T 54)⟩, ⟨(some 8), none, .mov (.const (.int .i64 (0)))⟩]) .ret)))))
theorem fok48 : FnOk Try.prog 48 55 s48 [.tmp 6, .tmp 7, .tmp 8] := ⟨Try.f48, _, Try.func48, rfl, Try.ntmps48, by kernel_rfl, by kernel_rfl⟩
end Go.Vm.Vat

namespace Go.Vm.Vat
open Go.Proofs
set_option linter.unusedSimpArgs false
set_option linter.unusedVariables false
set_option maxRecDepth 10000
variable {n : Nat} {h : AHeap}
/-! ### Lists in order -/
/-- lexicographically before, both as long -/
def LexLt (a b : Nat → Int) (m : Nat) : Prop := ∃ j, j < m ∧ (∀ i, i < j → a i = b i) ∧ a j < b j
noncomputable instance (a b : Nat → Int) (m : Nat) : Decidable (LexLt a b m) := Classical.propDecidable _
/-- shorter, or as long and before it -/
def Shortlex (a : Nat → Int) (m : Nat) (b : Nat → Int) (k : Nat) : Prop := m < k ∨ m = k ∧ LexLt a b m
noncomputable instance (a : Nat → Int) (m : Nat) (b : Nat → Int) (k : Nat) : Decidable (Shortlex a m b k) := Classical.propDecidable _
noncomputable def lexC (a b : Nat → Int) (m : Nat) : Int := if LexLt a b m then -1 else if LexLt b a m then 1 else 0
theorem lex_at {a b : Nat → Int} {m k : Nat} (hk : k < m) (he : ∀ i, i < k → a i = b i) (hl : a k < b k) : lexC a b m = -1 := by unfold lexC; rw [if_pos ⟨k, hk, he, hl⟩]
theorem lex_at' {a b : Nat → Int} {m k : Nat} (hk : k < m) (he : ∀ i, i < k → a i = b i) (hl : b k < a k) : lexC a b m = 1 := by
  unfold lexC
  rw [if_neg, if_pos ⟨k, hk, fun i hi => (he i hi).symm, hl⟩]
  rintro ⟨j, j1, j2, j3⟩
  by_cases e : j < k
  · have := he j e; omega
  · by_cases e2 : j = k
    · subst e2; omega
    · have := j2 k (by omega); omega
theorem lex_eq {a b : Nat → Int} {m : Nat} (he : ∀ i, i < m → a i = b i) : lexC a b m = 0 := by
  unfold lexC
  rw [if_neg, if_neg]
  · rintro ⟨j, j1, j2, j3⟩; have := he j j1; omega
  · rintro ⟨j, j1, j2, j3⟩; have := he j j1; omega
def s130 : SCode := (.seq (.ops [⟨(some 2), none, .mov (.const (.bool false))⟩]) (.seq (.ops [⟨(some 3), none, .mov (T 0)⟩, ⟨(some 4), none, .mov (T 0)⟩, ⟨(some 5), none, .int2 .neq (T 3) (T 4)⟩, ⟨(some 2), none, .mov (T 5)⟩]) .ret))
theorem fok130 : FnOk Try.prog 130 6 s130 [.tmp 2] := ⟨Try.f130, _, Try.func130, rfl, Try.ntmps130, by kernel_rfl, by kernel_rfl⟩
theorem isNaN_c (hn : 1 ≤ n) {x : Int} : call n (.func (.func 130) #[] #[]) [.int .i64 x] h = some (.bool false, h) := by
  obtain ⟨n, rfl⟩ : ∃ p, n = p + 1 := ⟨n - 1, by omega⟩
  refine call_plain0 fok130 rfl rfl (by simp) rfl ?_
  generalize h.shutAll = h
  simp only [rn0, rn1, rn2, rn3, rn4, rn5, rn6, rn7, rn8, if_true, if_false, Nat.le_refl, true_and, and_true, decide_true, decide_false, Bool.not_true, Bool.not_false, reduceIte, Nat.reduceEqDiff, Nat.reduceAdd, Nat.reduceMul, Nat.reduceSub, Nat.reduceLeDiff, Nat.reduceLT, s130]
def s129 : SCode := (.seq (.ops [⟨(some 4), none, .mov (.const (.int .i64 (0)))⟩]) (.seq (.ops [⟨(some 7), none, .mov (T 0)⟩, ⟨(some 8), none, .call (.func 130) [(T 7)]⟩, ⟨(some 5), none, .mov (T 8)⟩]) (.seq (.ops [⟨(some 9), none, .mov (T 1)⟩, ⟨(some 10), none, .call (.func 130) [(T 9)]⟩, ⟨(some 6), none, .mov (T 10)⟩]) (.seq (.seq (.ops [⟨(some 11), none, .mov (T 5)⟩]) (.cond (T 11) (.seq (.seq (.ops [⟨(some 12), none, .mov (T 6)⟩]) (.cond (T 12) (.seq (.ops [⟨(some 4), none, .mov (.const (.int .i64 (0)))⟩]) .ret) .skip)) (.seq (.ops [⟨(some 4), none, .mov (.const (.int .i64 (-1)))⟩]) .ret)) .skip)) (.seq (.seq (.ops [⟨(some 13), none, .mov (T 6)⟩]) (.cond (T 13) (.seq (.ops [⟨(some 4), none, .mov (.const (.int .i64 (1)))⟩]) .ret) .skip)) (.seq (.seq (.ops [⟨(some 14), none, .mov (T 0)⟩, ⟨(some 15), none, .mov (T 1)⟩, ⟨(some 16), none, .int2 .lss (T 14) (T 15)⟩]) (.cond (T 16) (.seq (.ops [⟨(some 4), none, .mov (.const (.int .i64 (-1)))⟩]) .ret) .skip)) (.seq (.seq (.ops [⟨(some 17), none, .mov (T 0)⟩, ⟨(some 18), none, .mov (T 1)⟩, ⟨(some 19), none, .int2 .gtr (T 17) (T 18)⟩]) (.cond (T 19) (.seq (.ops [⟨(some 4), none, .mov (.const (.int .i64 (1)))⟩]) .ret) .skip)) (.seq (.ops [⟨(some 4), none, .mov (.const (.int .i64 (0)))⟩]) .ret))))))))
theorem fok129 : FnOk Try.prog 129 20 s129 [.tmp 4] := ⟨Try.f129, _, Try.func129, rfl, Try.ntmps129, by kernel_rfl, by kernel_rfl⟩
theorem cmpI_c (hn : 2 ≤ n) {x y : Int} : call n (.func (.func 129) #[] #[]) [.int .i64 x, .int .i64 y] h = some (.int .i64 (if x < y then -1 else if y < x then 1 else 0), h) := by
  obtain ⟨n, rfl⟩ : ∃ p, n = p + 1 := ⟨n - 1, by omega⟩
  refine call_plain0 fok129 rfl rfl (by simp) rfl ?_
  generalize h.shutAll = h
  have e1 := isNaN_c (n := n) (h := h) (x := x) (by omega)
  have e2 := isNaN_c (n := n) (h := h) (x := y) (by omega)
  by_cases c1 : x < y
  · simp only [rn0, rn1, rn2, rn3, rn4, rn5, rn6, rn7, rn8, if_true, if_false, Nat.le_refl, true_and, and_true, decide_true, decide_false, Bool.not_true, Bool.not_false, reduceIte, Nat.reduceEqDiff, Nat.reduceAdd, Nat.reduceMul, Nat.reduceSub, Nat.reduceLeDiff, Nat.reduceLT, s129, e1, e2, c1]
  · by_cases c2 : y < x
    · simp only [rn0, rn1, rn2, rn3, rn4, rn5, rn6, rn7, rn8, if_true, if_false, Nat.le_refl, true_and, and_true, decide_true, decide_false, Bool.not_true, Bool.not_false, reduceIte, Nat.reduceEqDiff, Nat.reduceAdd, Nat.reduceMul, Nat.reduceSub, Nat.reduceLeDiff, Nat.reduceLT, s129, e1, e2, c1, c2]
    · simp only [rn0, rn1, rn2, rn3, rn4, rn5, rn6, rn7, rn8, if_true, if_false, Nat.le_refl, true_and, and_true, decide_true, decide_false, Bool.not_true, Bool.not_false, reduceIte, Nat.reduceEqDiff, Nat.reduceAdd, Nat.reduceMul, Nat.reduceSub, Nat.reduceLeDiff, Nat.reduceLT, s129, e1, e2, c1, c2]
def s124 : SCode := (.seq (.ops [⟨(some 4), none, .mov (.const (.int .i64 (0)))⟩]) (.seq (.seq (.ops [⟨(some 9), none, .mov (T 0)⟩, ⟨(some 10), none, .len (T 9)⟩, ⟨(some 11), none, .mov (.const (.int .i64 (0)))⟩]) (.block 0 (.loop (.seq (.ops [⟨(some 12), none, .int2 .lss (T 11) (T 10)⟩]) (.seq (.cond (T 12) .skip (.exit 0)) (.seq (.block 1 (.seq (.ops [⟨(some 13), none, .mov (T 11)⟩, ⟨(some 14), none, .idxSl 1 (T 9) (T 11)⟩, ⟨(some 15), none, .load1 (T 14)⟩, ⟨(some 5), none, .mov (T 13)⟩, ⟨(some 6), none, .mov (T 15)⟩]) (.seq (.seq (.ops [⟨(some 16), none, .mov (T 5)⟩, ⟨(some 17), none, .mov (T 1)⟩, ⟨(some 18), none, .len (T 17)⟩, ⟨(some 19), none, .int2 .geq (T 16) (T 18)⟩]) (.cond (T 19) (.seq (.ops [⟨(some 4), none, .mov (.const (.int .i64 (1)))⟩]) .ret) .skip)) (.seq (.ops [⟨(some 20), none, .mov (T 1)⟩, ⟨(some 21), none, .mov (T 5)⟩, ⟨(some 22), none, .idxSl 1 (T 20) (T 21)⟩, ⟨(some 23), none, .load1 (T 22)⟩, ⟨(some 7), none, .mov (T 23)⟩]) (.seq (.ops [⟨(some 24), none, .mov (T 6)⟩, ⟨(some 25), none, .mov (T 7)⟩, ⟨(some 26), none, .call (.func 129) [(T 24), (T 25)]⟩, ⟨(some 8), none, .mov (T 26)⟩]) (.seq (.ops [⟨(some 27), none, .mov (T 8)⟩, ⟨(some 28), none, .int2 .neq (T 27) (.const (.int .i64 (0)))⟩]) (.cond (T 28) (.seq (.ops [⟨(some 29), none, .mov (T 8)⟩, ⟨(some 4), none, .mov (T 29)⟩]) .ret) .skip))))))) (.ops [⟨(some 30), none, .int2 .add (T 11) (.const (.int .i64 (1)))⟩, ⟨(some 11), none, .mov (T 30)⟩]))))))) (.seq (.seq (.ops [⟨(some 31), none, .mov (T 0)⟩, ⟨(some 32), none, .len (T 31)⟩, ⟨(some 33), none, .mov (T 1)⟩, ⟨(some 34), none, .len (T 33)⟩, ⟨(some 35), none, .int2 .lss (T 32) (T 34)⟩]) (.cond (T 35) (.seq (.ops [⟨(some 4), none, .mov (.const (.int .i64 (-1)))⟩]) .ret) .skip)) (.seq (.ops [⟨(some 4), none, .mov (.const (.int .i64 (0)))⟩]) .ret))))
theorem fok124 : FnOk Try.prog 124 36 s124 [.tmp 4] := ⟨Try.f124, _, Try.func124, rfl, Try.ntmps124, by kernel_rfl, by kernel_rfl⟩
theorem compare_c {m : Nat} (hn : m + 3 ≤ n) (hm : m ≤ 1000) {va vb : Value} {a b : Nat → Int} (ha : Ints h va m a) (hb : Ints h vb m b) : call n (.func (.func 124) #[] #[]) [va, vb] h = some (.int .i64 (lexC a b m), h) := by
  obtain ⟨n, rfl⟩ : ∃ p, n = p + 1 := ⟨n - 1, by omega⟩
  refine call_plain0 fok124 rfl rfl (by simp) rfl ?_
  have ha : Ints h.shutAll va m a := Cells.shut ha
  have hb : Ints h.shutAll vb m b := Cells.shut hb
  generalize h.shutAll = h at ha hb
  generalize hres : lexC a b m = res
  simp only [rn0, rn1, rn2, rn3, rn4, rn5, rn6, rn7, rn8, if_true, if_false, Nat.le_refl, true_and, and_true, decide_true, decide_false, Bool.not_true, Bool.not_false, reduceIte, Nat.reduceEqDiff, Nat.reduceAdd, Nat.reduceMul, Nat.reduceSub, Nat.reduceLeDiff, Nat.reduceLT, s124, Cells.len ha]
  refine W_loop m (fun k f g ms => (∀ i, i < k → a i = b i) ∧ g = h ∧ ms = [] ∧ f 0 = va ∧ f 1 = vb ∧ f 9 = va ∧ f 10 = .int .i64 (m : Int) ∧ f 11 = .int .i64 (k : Int)) (by simp; omega) ?_ ?_ ?_
  · simp only [rn0, rn1, rn2, rn3, rn4, rn5, rn6, rn7, rn8, if_true, if_false, Nat.le_refl, true_and, and_true, decide_true, decide_false, Bool.not_true, Bool.not_false, reduceIte, Nat.reduceEqDiff, Nat.reduceAdd, Nat.reduceMul, Nat.reduceSub, Nat.reduceLeDiff, Nat.reduceLT]
    exact ⟨fun i hi => by omega, rfl⟩
  · rintro k f g ms hk ⟨he, rfl, rfl, p0, p1, p9, p10, p11⟩
    have hk' : (k : Int) < (m : Int) := by omega
    have hk2 : ¬ (m : Int) ≤ (k : Int) := by omega
    have hw : wrapF .i64 ((k : Int) + 1) = ((k + 1 : Nat) : Int) := by rw [wrap_in (by omega) (by omega)]; rfl
    have ec := cmpI_c (n := n) (h := g) (x := a k) (y := b k) (by omega)
    have la := Cells.ld ha hk Nat.zero_lt_one
    have lb := Cells.ld hb hk Nat.zero_lt_one
    by_cases c1 : a k < b k
    · rw [if_pos c1] at ec
      rw [lex_at hk he c1] at hres
      subst hres
      simp only [rn0, rn1, rn2, rn3, rn4, rn5, rn6, rn7, rn8, if_true, if_false, Nat.le_refl, true_and, and_true, decide_true, decide_false, Bool.not_true, Bool.not_false, reduceIte, Nat.reduceEqDiff, Nat.reduceAdd, Nat.reduceMul, Nat.reduceSub, Nat.reduceLeDiff, Nat.reduceLT, p0, p1, p9, p10, p11, Cells.len hb, hk', hk2, Cells.idx ha hk, Cells.idx hb hk, la, lb, ec, Int.reduceEq, Int.reduceNeg]
    · rw [if_neg c1] at ec
      by_cases c2 : b k < a k
      · rw [if_pos c2] at ec
        rw [lex_at' hk he c2] at hres
        subst hres
        simp only [rn0, rn1, rn2, rn3, rn4, rn5, rn6, rn7, rn8, if_true, if_false, Nat.le_refl, true_and, and_true, decide_true, decide_false, Bool.not_true, Bool.not_false, reduceIte, Nat.reduceEqDiff, Nat.reduceAdd, Nat.reduceMul, Nat.reduceSub, Nat.reduceLeDiff, Nat.reduceLT, p0, p1, p9, p10, p11, Cells.len hb, hk', hk2, Cells.idx ha hk, Cells.idx hb hk, la, lb, ec, Int.reduceEq]
      · rw [if_neg c2] at ec
        simp only [rn0, rn1, rn2, rn3, rn4, rn5, rn6, rn7, rn8, if_true, if_false, Nat.le_refl, true_and, and_true, decide_true, decide_false, Bool.not_true, Bool.not_false, reduceIte, Nat.reduceEqDiff, Nat.reduceAdd, Nat.reduceMul, Nat.reduceSub, Nat.reduceLeDiff, Nat.reduceLT, p0, p1, p9, p10, p11, Cells.len hb, hk', hk2, Cells.idx ha hk, Cells.idx hb hk, la, lb, ec, Int.reduceEq, hw]
        intro i hi
        by_cases e : i = k
        · subst e; omega
        · exact he i (by omega)
  · rintro f g ms ⟨he, rfl, rfl, p0, p1, p9, p10, p11⟩
    rw [lex_eq he] at hres
    subst hres
    simp only [rn0, rn1, rn2, rn3, rn4, rn5, rn6, rn7, rn8, if_true, if_false, Nat.le_refl, true_and, and_true, decide_true, decide_false, Bool.not_true, Bool.not_false, reduceIte, Nat.reduceEqDiff, Nat.reduceAdd, Nat.reduceMul, Nat.reduceSub, Nat.reduceLeDiff, Nat.reduceLT, p0, p1, p9, p10, p11, Cells.len ha, Cells.len hb, Int.lt_irrefl]
def s107 : SCode := (.seq (.ops [⟨(some 4), none, .mov (.const (.bool false))⟩]) (.seq (.seq (.ops [⟨(some 5), none, .mov (T 0)⟩, ⟨(some 6), none, .len (T 5)⟩, ⟨(some 7), none, .mov (T 1)⟩, ⟨(some 8), none, .len (T 7)⟩, ⟨(some 9), none, .int2 .neq (T 6) (T 8)⟩]) (.cond (T 9) (.seq (.ops [⟨(some 10), none, .mov (T 0)⟩, ⟨(some 11), none, .len (T 10)⟩, ⟨(some 12), none, .mov (T 1)⟩, ⟨(some 13), none, .len (T 12)⟩, ⟨(some 14), none, .int2 .lss (T 11) (T 13)⟩, ⟨(some 4), none, .mov (T 14)⟩]) .ret) .skip)) (.seq (.ops [⟨(some 15), none, .mov (T 0)⟩, ⟨(some 16), none, .mov (T 1)⟩, ⟨(some 17), none, .call (.func 124) [(T 15), (T 16)]⟩, ⟨(some 18), none, .int2 .lss (T 17) (.const (.int .i64 (0)))⟩, ⟨(some 4), none, .mov (T 18)⟩]) .ret)))
theorem fok107 : FnOk Try.prog 107 19 s107 [.tmp 4] := ⟨Try.f107, _, Try.func107, rfl, Try.ntmps107, by kernel_rfl, by kernel_rfl⟩
theorem isBefore_c {m k : Nat} (hn : 1010 ≤ n) (hm : m ≤ 1000) (hk : k ≤ 1000) {va vb : Value} {a b : Nat → Int} (ha : Ints h va m a) (hb : Ints h vb k b) : call n (.func (.func 107) #[] #[]) [va, vb] h = some (.bool (decide (Shortlex a m b k)), h) := by
  obtain ⟨n, rfl⟩ : ∃ p, n = p + 1 := ⟨n - 1, by omega⟩
  refine call_plain0 fok107 rfl rfl (by simp) rfl ?_
  have ha : Ints h.shutAll va m a := Cells.shut ha
  have hb : Ints h.shutAll vb k b := Cells.shut hb
  generalize h.shutAll = h at ha hb
  by_cases c : m = k
  · subst c
    have ec := compare_c (n := n) (h := h) (by omega) hm ha hb
    have hd : decide (lexC a b m < 0) = decide (Shortlex a m b m) := decide_eq_decide.2 (by
      unfold Shortlex lexC
      by_cases h1 : LexLt a b m
      · rw [if_pos h1]; exact ⟨fun _ => .inr ⟨rfl, h1⟩, fun _ => by omega⟩
      · rw [if_neg h1]
        refine ⟨fun e => ?_, fun e => ?_⟩
        · by_cases h2 : LexLt b a m
          · rw [if_pos h2] at e; omega
          · rw [if_neg h2] at e; omega
        · rcases e with e | e
          · omega
          · exact absurd e.2 h1)
    generalize lexC a b m = z at ec hd
    simp only [rn0, rn1, rn2, rn3, rn4, rn5, rn6, rn7, rn8, if_true, if_false, Nat.le_refl, true_and, and_true, decide_true, decide_false, Bool.not_true, Bool.not_false, reduceIte, Nat.reduceEqDiff, Nat.reduceAdd, Nat.reduceMul, Nat.reduceSub, Nat.reduceLeDiff, Nat.reduceLT, s107, Cells.len ha, Cells.len hb, ec, hd]
  · have c' : ¬ (m : Int) = (k : Int) := by omega
    have hd : decide ((m : Int) < (k : Int)) = decide (Shortlex a m b k) := decide_eq_decide.2 ⟨fun e => .inl (by omega), fun e => by rcases e with e | e <;> omega⟩
    simp only [rn0, rn1, rn2, rn3, rn4, rn5, rn6, rn7, rn8, if_true, if_false, Nat.le_refl, true_and, and_true, decide_true, decide_false, Bool.not_true, Bool.not_false, reduceIte, Nat.reduceEqDiff, Nat.reduceAdd, Nat.reduceMul, Nat.reduceSub, Nat.reduceLeDiff, Nat.reduceLT, s107, Cells.len ha, Cells.len hb, c', hd]
end Go.Vm.Vat

namespace Go.Vm.Vat
open Go.Proofs
set_option linter.unusedSimpArgs false
set_option linter.unusedVariables false
set_option maxRecDepth 10000
variable {n : Nat} {h : AHeap}
def mixI (k : Nat) (i : Nat) : Value := .int .i64 (if i < k then (i : Int) else 0)
theorem mixI_one {m k : Nat} : allB oneCell ((List.range m).map (mixI k)) = true := by rw [allB_iff]; intro v hv; obtain ⟨i, _, rfl⟩ := List.mem_map.1 hv; rfl
theorem mixI_splice {m k : Nat} (hk : k < m) : splice ((List.range m).map (mixI k)) k [.int .i64 (k : Int)] = (List.range m).map (mixI (k + 1)) := by
  refine map_splice (by simp; omega) (fun i hi hc => ?_) (fun j hj => ?_)
  · simp only [List.length_cons, List.length_nil] at hc
    simp only [mixI]
    congr 1
    by_cases c : i < k
    · rw [if_pos c, if_pos (by omega)]
    · rw [if_neg c, if_neg (by omega)]
  · simp only [List.length_cons, List.length_nil] at hj
    obtain rfl : j = 0 := by omega
    simp only [mixI, Nat.add_zero, List.getElem?_cons_zero]
    rw [if_pos (by omega)]
theorem repl_mixI {m : Nat} : repl [.int .i64 0] m = (List.range m).map (mixI 0) := by
  have h0 : ∀ i, mixI 0 i = .int .i64 0 := fun i => by simp [mixI]
  have : ∀ m, repl [(.int .i64 0 : Value)] m = List.replicate m (.int .i64 0) := by
    intro m
    induction m with
    | zero => rfl
    | succ m ih => rw [repl, ih, List.replicate_succ]; rfl
  rw [this]
  apply List.ext_getElem?
  intro i
  by_cases hi : i < m
  · rw [List.getElem?_replicate, if_pos hi, List.getElem?_map, List.getElem?_range hi]; simp [h0]
  · rw [List.getElem?_eq_none (by simp; omega), List.getElem?_eq_none (by simp; omega)]
theorem make_intsL {z : List Value} {m : Nat} (hm : m ≤ 1000) : makeSl 1 8 z h (.int .i64 (m : Int)) (.int .i64 (m : Int)) = newSlice h (repl z m) m m 0 := by
  show (bif Nat.ble m m && Nat.ble (m * 8) maxBytes && Nat.ble m maxBytes then newSlice h (repl z m) m m 0 else none) = _
  have e1 : Nat.ble m m = true := ble_iff.2 (Nat.le_refl _)
  have e2 : Nat.ble (m * 8) maxBytes = true := ble_iff.2 (by simp [maxBytes]; omega)
  have e3 : Nat.ble m maxBytes = true := ble_iff.2 (by simp [maxBytes]; omega)
  rw [e1, e2, e3]; rfl
/-- a list as a function -/
def atL (l : List Int) (i : Nat) : Int := l.getD i 0
/-- what Leave keeps: the least list so far -/
noncomputable def leaveStep (Y : MY) (s : List Int) (c : Nat → Int) : List Int × Bool :=
  (if Shortlex (atL (wrongTo Y c Y.ns)) (wrongTo Y c Y.ns).length (atL s) s.length then wrongTo Y c Y.ns else s, true)
def upTo (m : Nat) : List Int := (List.range m).map fun (i : Nat) => (i : Int)
noncomputable def leaveRun (Y : MY) : List Int := (runL (leaveStep Y) (upTo Y.ns) (enumB Y.lo Y.hi Y.nf 0 fun _ => 0)).1
/-- what lies in memory meanwhile -/
structure JL (h2 : AHeap) (p : Nat) (s : List Int) (g : AHeap) : Prop where
  old : ∀ i, i < h2.next → i ≠ p + 2 → g.get i = h2.get i
  lst : ∃ v, g.get (p + 2) = some (.row [v] true 0) ∧ Ints g v s.length (atL s) ∧ oneCell v = true ∧ ∀ a k c, v = .slice (some a) k c → a.block = p + 1 ∨ (h2.next + 3 ≤ a.block ∧ a.block < g.next)
  short : s.length ≤ 5
  up : h2.next + 3 ≤ g.next
theorem ints_old {g g' : AHeap} {v : Value} {m : Nat} {a : Nat → Int} (hi : Ints g v m a) (ho : ∀ x k c, v = .slice (some x) k c → g'.get x.block = g.get x.block) : Ints g' v m a := by
  obtain ⟨x, cap, e, hsp, h0 | ⟨b, o, cs, w, gr, e1, e2, e3⟩⟩ := hi
  · exact ⟨x, cap, e, hsp, .inl h0⟩
  · subst e1
    exact ⟨_, cap, e, hsp, .inr ⟨b, o, cs, w, gr, rfl, by rw [ho _ _ _ e]; exact e2, e3⟩⟩
noncomputable def s54 : SCode := (.seq (.ops [⟨(some 1), none, .box (T 0)⟩, ⟨(some 2), none, .mov (.const (.slice none 0 0))⟩, ⟨(some 3), none, .mov (.const (.int .i64 (0)))⟩]) (.seq (.seq (.ops [⟨(some 10), none, .loadN 3 (T 1)⟩, ⟨(some 11), none, .call (.func 30) [(T 10)]⟩, ⟨(some 4), none, .mov (T 11)⟩]) (.seq (.ops [⟨(some 12), none, .mov (T 4)⟩, ⟨(some 13), none, .int2 .neq (T 12) (.const (.int .i64 (0)))⟩]) (.cond (T 13) (.seq (.ops [⟨(some 14), none, .mov (T 4)⟩, ⟨(some 2), none, .mov (.const (.slice none 0 0))⟩, ⟨(some 3), none, .mov (T 14)⟩]) .ret) .skip))) (.seq (.ops [⟨(some 15), none, .fieldAddr 2 (T 1)⟩, ⟨(some 16), none, .load1 (T 15)⟩, ⟨(some 17), none, .len (T 16)⟩, ⟨(some 18), none, .mkslice 1 8 [(.int .i64 (0))] (T 17) (T 17)⟩, ⟨(some 5), none, .alloc [(.slice none 0 0)]⟩, ⟨none, none, .store 1 (T 5) (T 18)⟩]) (.seq (.seq (.ops [⟨(some 19), none, .fieldAddr 2 (T 1)⟩, ⟨(some 20), none, .load1 (T 19)⟩, ⟨(some 21), none, .len (T 20)⟩, ⟨(some 22), none, .mov (.const (.int .i64 (0)))⟩]) (.block 0 (.loop (.seq (.ops [⟨(some 23), none, .int2 .lss (T 22) (T 21)⟩]) (.seq (.cond (T 23) .skip (.exit 0)) (.seq (.block 1 (.seq (.ops [⟨(some 24), none, .mov (T 22)⟩, ⟨(some 6), none, .mov (T 24)⟩]) (.ops [⟨(some 25), none, .load1 (T 5)⟩, ⟨(some 26), none, .mov (T 6)⟩, ⟨(some 27), none, .mov (T 6)⟩, ⟨(some 28), none, .idxSl 1 (T 25) (T 26)⟩, ⟨none, none, .store 1 (T 28) (T 27)⟩]))) (.ops [⟨(some 29), none, .int2 .add (T 22) (.const (.int .i64 (1)))⟩, ⟨(some 22), none, .mov (T 29)⟩]))))))) (.seq (.ops [⟨(some 30), none, .loadN 3 (T 1)⟩, ⟨(some 31), none, .build #[(0, 3), (3, 1)] [(.slice none 0 0), (.slice none 0 0), (.slice none 0 0), (.slice none 0 0)] [0] [(T 30)]⟩, ⟨(some 7), none, .alloc [(.slice none 0 0), (.slice none 0 0), (.slice none 0 0), (.slice none 0 0)]⟩, ⟨none, none, .store 4 (T 7) (T 31)⟩]) (.seq (.seq (.ops [⟨(some 32), none, .loadN 4 (T 7)⟩, ⟨(some 33), none, .call (.func 105) [(T 32)]⟩]) (.block 2 (.range (T 33) #[34] (rangeOf Try.f54 0).1 (rangeOf Try.f54 0).2))) (.seq (.ops [⟨(some 42), none, .load1 (T 5)⟩, ⟨(some 2), none, .mov (T 42)⟩, ⟨(some 3), none, .mov (.const (.int .i64 (0)))⟩]) .ret)))))))
theorem fok54 : FnOk Try.prog 54 43 s54 [.tmp 2, .tmp 3] := ⟨Try.f54, _, Try.func54, rfl, Try.ntmps54, by kernel_rfl, by kernel_rfl⟩
def ra54_0 : SCode := (.ops [⟨(some 8), none, .alloc [(.int .i64 (0)), (.int .i64 (0)), (.int .i64 (0)), (.int .i64 (0)), (.int .i64 (0))]⟩, ⟨none, none, .store 5 (T 8) (T 34)⟩])
theorem raok54_0 : compCode Try.prog 43 (rangeOf Try.f54 0).1 = some ra54_0 := by kernel_rfl
def rb54_0 : SCode := (.block 3 (.seq (.ops [⟨(some 35), none, .loadN 4 (T 7)⟩, ⟨(some 36), none, .loadN 5 (T 8)⟩, ⟨(some 37), none, .call (.func 106) [(T 35), (T 36)]⟩, ⟨(some 9), none, .mov (T 37)⟩]) (.seq (.ops [⟨(some 38), none, .mov (T 9)⟩, ⟨(some 39), none, .load1 (T 5)⟩, ⟨(some 40), none, .call (.func 107) [(T 38), (T 39)]⟩]) (.cond (T 40) (.ops [⟨(some 41), none, .mov (T 9)⟩, ⟨none, none, .store 1 (T 5) (T 41)⟩]) .skip))))
theorem rbok54_0 : compCode Try.prog 43 (rangeOf Try.f54 0).2 = some rb54_0 := by kernel_rfl
end Go.Vm.Vat

namespace Go.Vm.Vat
open Go.Proofs
set_option linter.unusedSimpArgs false
set_option linter.unusedVariables false
set_option maxRecDepth 10000
variable {n : Nat} {h : AHeap}
def s39 : SCode := (.seq (.ops [⟨(some 4), none, .alloc [(.int .i64 (0)), (.int .i64 (0))]⟩]) (.seq (.ops [⟨(some 7), none, .build #[(0, 1), (1, 1)] [(.int .i64 (0)), (.int .i64 (0))] [0, 1] [(.const (.int .i64 (1099511627776))), (.const (.int .i64 (-1)))]⟩, ⟨(some 5), none, .alloc [(.int .i64 (0)), (.int .i64 (0))]⟩, ⟨none, none, .store 2 (T 5) (T 7)⟩]) (.seq (.seq (.ops [⟨(some 6), none, .mov (.const (.int .i64 (0)))⟩]) (.block 0 (.loop (.seq (.seq (.ops [⟨(some 8), none, .mov (T 6)⟩, ⟨(some 9), none, .mov (T 0)⟩, ⟨(some 10), none, .len (T 9)⟩, ⟨(some 11), none, .int2 .lss (T 8) (T 10)⟩]) (.cond (T 11) .skip (.exit 0))) (.seq (.block 1 (.draw [⟨.free, ⟨(some 14), none, .fieldAddr 0 (T 5)⟩⟩, ⟨.rd1, ⟨(some 15), none, .load1 (T 14)⟩⟩, ⟨.free, ⟨(some 16), none, .mov (T 0)⟩⟩, ⟨.free, ⟨(some 17), none, .mov (T 6)⟩⟩, ⟨.free, ⟨(some 18), none, .idxSl 1 (T 16) (T 17)⟩⟩, ⟨.rd1, ⟨(some 19), none, .load1 (T 18)⟩⟩, ⟨.free, ⟨(some 20), none, .mov (T 1)⟩⟩, ⟨.free, ⟨(some 21), none, .idxSl 1 (T 19) (T 20)⟩⟩, ⟨.rd1, ⟨(some 22), none, .load1 (T 21)⟩⟩, ⟨.free, ⟨(some 23), none, .plain (.call { callee := .builtin .min, args := #[(T 15), (T 22)], argTypes := #[3, 3] }) 3⟩⟩, ⟨.free, ⟨(some 24), none, .fieldAddr 1 (T 5)⟩⟩, ⟨.rd1, ⟨(some 25), none, .load1 (T 24)⟩⟩, ⟨.free, ⟨(some 26), none, .mov (T 0)⟩⟩, ⟨.free, ⟨(some 27), none, .mov (T 6)⟩⟩, ⟨.free, ⟨(some 28), none, .idxSl 1 (T 26) (T 27)⟩⟩, ⟨.rd1, ⟨(some 29), none, .load1 (T 28)⟩⟩, ⟨.free, ⟨(some 30), none, .mov (T 1)⟩⟩, ⟨.free, ⟨(some 31), none, .idxSl 1 (T 29) (T 30)⟩⟩, ⟨.rd1, ⟨(some 32), none, .load1 (T 31)⟩⟩, ⟨.free, ⟨(some 33), none, .plain (.call { callee := .builtin .max, args := #[(T 25), (T 32)], argTypes := #[3, 3] }) 3⟩⟩, ⟨.free, ⟨(some 34), none, .build #[(0, 1), (1, 1)] [(.int .i64 (0)), (.int .i64 (0))] [0, 1] [(T 23), (T 33)]⟩⟩, ⟨.any, ⟨none, none, .store 2 (T 5) (T 34)⟩⟩])) (.ops [⟨(some 12), none, .mov (T 6)⟩, ⟨(some 13), none, .int2 .add (T 12) (.const (.int .i64 (1)))⟩, ⟨(some 6), none, .mov (T 13)⟩])))))) (.seq (.ops [⟨(some 35), none, .loadN 2 (T 5)⟩, ⟨none, none, .store 2 (T 4) (T 35)⟩]) .ret))))
theorem guard49 : Try.prog.eqGuardType Try.prog.depth 49 = false := by kernel_rfl
theorem held49 : Try.prog.stoodInHeld 49 = false := by kernel_rfl
theorem neq49 {N : Nat} {f : Fr} {x y : Operand} {ty u : TypeId} {a0 a1 : Int} (hx : valN N f x = .agg ⟨[.int .i64 a0, .int .i64 a1]⟩) (hy : valN N f y = .agg ⟨[.int .i64 a0, .int .i64 a1]⟩) : plainF Try.prog N (.binOp .neq 49 x y u) ty f h = some (.bool false, h) := by
  rw [plainF_neqTwo hx hy guard49 Try.underlying49 held49 (by decide) (by decide) rfl rfl (by rfl) (by rfl)]
  simp
def s4 : SCode := (.seq (.ops [⟨(some 1), none, .box (T 0)⟩, ⟨(some 2), none, .mov (.const (.bool false))⟩]) (.seq (.seq (.ops [⟨(some 11), none, .loadN 3 (T 1)⟩, ⟨(some 12), none, .call (.func 23) [(T 11)]⟩, ⟨(some 13), none, .not (T 12)⟩]) (.cond (T 13) (.seq (.ops [⟨(some 14), none, .call (.func 24) []⟩, ⟨(some 2), none, .mov (T 14)⟩]) .ret) .skip)) (.seq (.ops [⟨(some 16), none, .loadN 3 (T 1)⟩, ⟨(some 17), none, .call (.func 26) [(T 16)]⟩, ⟨(some 18), none, .call (.func 34) [(T 17)]⟩, ⟨(some 15), none, .mov (T 18)⟩, ⟨(some 19), none, .extract 0 (T 15)⟩, ⟨(some 20), none, .extract 1 (T 15)⟩, ⟨(some 3), none, .mov (T 19)⟩, ⟨(some 4), none, .mov (T 20)⟩]) (.seq (.ops [⟨(some 22), none, .loadN 3 (T 1)⟩, ⟨(some 23), none, .call (.func 26) [(T 22)]⟩, ⟨(some 24), none, .call (.func 35) [(T 23)]⟩, ⟨(some 21), none, .mov (T 24)⟩, ⟨(some 25), none, .extract 0 (T 21)⟩, ⟨(some 26), none, .extract 1 (T 21)⟩, ⟨(some 5), none, .mov (T 25)⟩, ⟨(some 6), none, .mov (T 26)⟩]) (.seq (.ops [⟨(some 28), none, .loadN 3 (T 1)⟩, ⟨(some 29), none, .call (.func 36) [(T 28)]⟩, ⟨(some 27), none, .mov (T 29)⟩, ⟨(some 30), none, .extract 0 (T 27)⟩, ⟨(some 31), none, .extract 1 (T 27)⟩, ⟨(some 7), none, .mov (T 30)⟩, ⟨(some 8), none, .mov (T 31)⟩]) (.seq (.seq (.ops [⟨(some 32), none, .mov (T 8)⟩, ⟨(some 33), none, .int2 .neq (T 32) (.const (.int .i64 (0)))⟩]) (.cond (T 33) (.seq (.ops [⟨(some 34), none, .mov (T 4)⟩, ⟨(some 35), none, .mov (T 8)⟩, ⟨(some 36), none, .int2 .eql (T 34) (T 35)⟩, ⟨(some 37), none, .mov (T 36)⟩, ⟨(some 38), (some (37, true)), .mov (T 6)⟩, ⟨(some 39), (some (37, true)), .mov (T 8)⟩, ⟨(some 40), (some (37, true)), .int2 .eql (T 38) (T 39)⟩, ⟨(some 41), none, .pick (T 37) (T 40) (.const (.bool false))⟩, ⟨(some 42), none, .mov (T 41)⟩, ⟨(some 43), (some (42, true)), .mov (T 3)⟩, ⟨(some 44), (some (42, true)), .len (T 43)⟩, ⟨(some 45), (some (42, true)), .mov (T 5)⟩, ⟨(some 46), (some (42, true)), .len (T 45)⟩, ⟨(some 47), (some (42, true)), .int2 .add (T 44) (T 46)⟩, ⟨(some 48), (some (42, true)), .int2 .eql (T 47) (.const (.int .i64 (0)))⟩, ⟨(some 49), none, .pick (T 42) (T 48) (.const (.bool false))⟩, ⟨(some 50), none, .mov (T 49)⟩, ⟨(some 51), (some (50, true)), .call (.func 24) []⟩, ⟨(some 52), none, .pick (T 50) (T 51) (.const (.bool false))⟩, ⟨(some 2), none, .mov (T 52)⟩]) .ret) .skip)) (.seq (.seq (.ops [⟨(some 53), none, .mov (T 4)⟩, ⟨(some 54), none, .int2 .neq (T 53) (.const (.int .i64 (0)))⟩, ⟨(some 55), none, .mov (T 54)⟩, ⟨(some 56), (some (55, false)), .mov (T 6)⟩, ⟨(some 57), (some (55, false)), .int2 .neq (T 56) (.const (.int .i64 (0)))⟩, ⟨(some 58), none, .pick (T 55) (.const (.bool true)) (T 57)⟩, ⟨(some 59), none, .mov (T 58)⟩, ⟨(some 60), (some (59, false)), .mov (T 3)⟩, ⟨(some 61), (some (59, false)), .len (T 60)⟩, ⟨(some 62), (some (59, false)), .fieldAddr 1 (T 1)⟩, ⟨(some 63), (some (59, false)), .load1 (T 62)⟩, ⟨(some 64), (some (59, false)), .len (T 63)⟩, ⟨(some 65), (some (59, false)), .int2 .neq (T 61) (T 64)⟩, ⟨(some 66), none, .pick (T 59) (.const (.bool true)) (T 65)⟩, ⟨(some 67), none, .mov (T 66)⟩, ⟨(some 68), (some (67, false)), .mov (T 5)⟩, ⟨(some 69), (some (67, false)), .len (T 68)⟩, ⟨(some 70), (some (67, false)), .fieldAddr 0 (T 1)⟩, ⟨(some 71), (some (67, false)), .load1 (T 70)⟩, ⟨(some 72), (some (67, false)), .len (T 71)⟩, ⟨(some 73), (some (67, false)), .int2 .neq (T 69) (T 72)⟩, ⟨(some 74), none, .pick (T 67) (.const (.bool true)) (T 73)⟩]) (.cond (T 74) (.seq (.ops [⟨(some 2), none, .mov (.const (.bool false))⟩]) .ret) .skip)) (.seq (.seq (.ops [⟨(some 9), none, .mov (.const (.int .i64 (0)))⟩]) (.block 0 (.loop (.seq (.seq (.ops [⟨(some 75), none, .mov (T 9)⟩, ⟨(some 76), none, .mov (T 3)⟩, ⟨(some 77), none, .len (T 76)⟩, ⟨(some 78), none, .int2 .lss (T 75) (T 77)⟩]) (.cond (T 78) .skip (.exit 0))) (.seq (.block 1 (.seq (.draw [⟨.free, ⟨(some 81), none, .mov (T 3)⟩⟩, ⟨.free, ⟨(some 82), none, .mov (T 9)⟩⟩, ⟨.free, ⟨(some 83), none, .idxSl 2 (T 81) (T 82)⟩⟩, ⟨.rd, ⟨(some 84), none, .loadN 2 (T 83)⟩⟩, ⟨.rd1, ⟨(some 85), none, .loadN 3 (T 1)⟩⟩, ⟨.free, ⟨(some 86), none, .mov (T 7)⟩⟩, ⟨.free, ⟨(some 87), none, .mov (T 9)⟩⟩, ⟨.up, ⟨(some 88), none, .call (.func 38) [(T 85), (T 86), (T 87)]⟩⟩, ⟨.up, ⟨(some 89), none, .call (.func 37) [(T 88)]⟩⟩, ⟨.free, ⟨(some 90), none, .bin .neq (.binOp .neq 49 (T 84) (T 89) 49) 4 (T 84) (T 89)⟩⟩]) (.cond (T 90) (.seq (.ops [⟨(some 2), none, .mov (.const (.bool false))⟩]) .ret) .skip))) (.ops [⟨(some 79), none, .mov (T 9)⟩, ⟨(some 80), none, .int2 .add (T 79) (.const (.int .i64 (1)))⟩, ⟨(some 9), none, .mov (T 80)⟩])))))) (.seq (.seq (.ops [⟨(some 10), none, .mov (.const (.int .i64 (0)))⟩]) (.block 2 (.loop (.seq (.seq (.ops [⟨(some 91), none, .mov (T 10)⟩, ⟨(some 92), none, .mov (T 5)⟩, ⟨(some 93), none, .len (T 92)⟩, ⟨(some 94), none, .int2 .lss (T 91) (T 93)⟩]) (.cond (T 94) .skip (.exit 2))) (.seq (.block 3 (.seq (.draw [⟨.free, ⟨(some 97), none, .mov (T 5)⟩⟩, ⟨.free, ⟨(some 98), none, .mov (T 10)⟩⟩, ⟨.free, ⟨(some 99), none, .idxSl 2 (T 97) (T 98)⟩⟩, ⟨.rd, ⟨(some 100), none, .loadN 2 (T 99)⟩⟩, ⟨.free, ⟨(some 101), none, .mov (T 7)⟩⟩, ⟨.free, ⟨(some 102), none, .mov (T 10)⟩⟩, ⟨.up, ⟨(some 103), none, .call (.func 39) [(T 101), (T 102)]⟩⟩, ⟨.up, ⟨(some 104), none, .call (.func 37) [(T 103)]⟩⟩, ⟨.free, ⟨(some 105), none, .bin .neq (.binOp .neq 49 (T 100) (T 104) 49) 4 (T 100) (T 104)⟩⟩]) (.cond (T 105) (.seq (.ops [⟨(some 2), none, .mov (.const (.bool false))⟩]) .ret) .skip))) (.ops [⟨(some 95), none, .mov (T 10)⟩, ⟨(some 96), none, .int2 .add (T 95) (.const (.int .i64 (1)))⟩, ⟨(some 10), none, .mov (T 96)⟩])))))) (.seq (.ops [⟨(some 106), none, .call (.func 24) []⟩, ⟨(some 2), none, .mov (T 106)⟩]) .ret))))))))))
end Go.Vm.Vat
