/- Texts of the proofs of this seat, put together: BtLossesL. -/
import Derived.Test.YtjihegbffhhcaaaPk14

namespace Go.Vm.Bt
open Go.Proofs Go.Vm.Vat Go.Vm.L2
set_option linter.unusedSimpArgs false
set_option linter.unusedVariables false
set_option maxRecDepth 10000
variable {n : Nat} {h : AHeap}
def s5 : SCode := (.seq (.ops [⟨(some 2), none, .box (T 0)⟩, ⟨(some 4), none, .mov (.const (.bool false))⟩]) (.seq (.seq (.ops [⟨(some 9), none, .loadN 5 (T 2)⟩, ⟨(some 10), none, .call (.func 23) [(T 9)]⟩, ⟨(some 11), none, .not (T 10)⟩, ⟨(some 12), none, .mov (T 11)⟩, ⟨(some 13), (some (12, false)), .mov (T 1)⟩, ⟨(some 14), (some (12, false)), .len (T 13)⟩, ⟨(some 15), (some (12, false)), .int2 .gtr (T 14) (.const (.int .i64 (30)))⟩, ⟨(some 16), none, .pick (T 12) (.const (.bool true)) (T 15)⟩]) (.cond (T 16) (.seq (.ops [⟨(some 17), none, .call (.func 24) []⟩, ⟨(some 4), none, .mov (T 17)⟩]) .ret) .skip)) (.seq (.ops [⟨(some 19), none, .loadN 5 (T 2)⟩, ⟨(some 20), none, .call (.func 26) [(T 19)]⟩, ⟨(some 21), none, .mov (T 1)⟩, ⟨(some 22), none, .call (.func 28) [(T 21)]⟩, ⟨(some 23), none, .call (.func 44) [(T 20), (T 22)]⟩, ⟨(some 18), none, .mov (T 23)⟩, ⟨(some 24), none, .extract 0 (T 18)⟩, ⟨(some 25), none, .extract 1 (T 18)⟩, ⟨(some 5), none, .alloc [(.int .i64 (0)), (.int .i64 (0))]⟩, ⟨none, none, .store 2 (T 5) (T 24)⟩, ⟨(some 6), none, .mov (T 25)⟩]) (.seq (.draw [⟨.rd, ⟨(some 27), none, .loadN 5 (T 2)⟩⟩, ⟨.rd1, ⟨(some 28), none, .loadN 5 (T 2)⟩⟩, ⟨.up, ⟨(some 29), none, .call (.func 45) [(T 28)]⟩⟩, ⟨.free, ⟨(some 30), none, .int2 .eql (T 29) (.const (.int .i64 (0)))⟩⟩, ⟨.free, ⟨(some 31), none, .mov (T 30)⟩⟩, ⟨.rd1, ⟨(some 32), (some (31, true)), .loadN 5 (T 2)⟩⟩, ⟨.free, ⟨(some 33), (some (31, true)), .mov (T 1)⟩⟩, ⟨.up, ⟨(some 34), (some (31, true)), .call (.func 34) [(T 32), (T 33)]⟩⟩, ⟨.free, ⟨(some 35), none, .pick (T 31) (T 34) (.const (.bool false))⟩⟩, ⟨.any, ⟨(some 36), none, .call (.func 38) [(T 27), (T 35)]⟩⟩, ⟨.free, ⟨(some 26), none, .mov (T 36)⟩⟩, ⟨.free, ⟨(some 37), none, .extract 0 (T 26)⟩⟩, ⟨.free, ⟨(some 38), none, .extract 1 (T 26)⟩⟩, ⟨.free, ⟨(some 7), none, .mov (T 37)⟩⟩, ⟨.free, ⟨(some 8), none, .mov (T 38)⟩⟩]) (.seq (.seq (.ops [⟨(some 39), none, .mov (T 8)⟩, ⟨(some 40), none, .int2 .neq (T 39) (.const (.int .i64 (0)))⟩]) (.cond (T 40) (.seq (.ops [⟨(some 41), none, .mov (T 6)⟩, ⟨(some 42), none, .mov (T 8)⟩, ⟨(some 43), none, .int2 .eql (T 41) (T 42)⟩, ⟨(some 44), none, .mov (T 43)⟩, ⟨(some 45), (some (44, true)), .loadN 2 (T 5)⟩, ⟨(some 46), (some (44, true)), .build #[(0, 1), (1, 1)] [(.int .i64 (0)), (.int .i64 (0))] [] []⟩, ⟨(some 47), (some (44, true)), .bin .eql (.binOp .eql 36 (T 45) (T 46) 36) 4 (T 45) (T 46)⟩, ⟨(some 48), none, .pick (T 44) (T 47) (.const (.bool false))⟩, ⟨(some 49), none, .mov (T 48)⟩, ⟨(some 50), (some (49, true)), .call (.func 24) []⟩, ⟨(some 51), none, .pick (T 49) (T 50) (.const (.bool false))⟩, ⟨(some 4), none, .mov (T 51)⟩]) .ret) .skip)) (.seq (.draw [⟨.free, ⟨(some 52), none, .mov (T 6)⟩⟩, ⟨.free, ⟨(some 53), none, .int2 .eql (T 52) (.const (.int .i64 (0)))⟩⟩, ⟨.free, ⟨(some 54), none, .mov (T 53)⟩⟩, ⟨.rd, ⟨(some 55), (some (54, true)), .loadN 2 (T 5)⟩⟩, ⟨.rd1, ⟨(some 56), (some (54, true)), .loadN 5 (T 2)⟩⟩, ⟨.free, ⟨(some 57), (some (54, true)), .mov (T 7)⟩⟩, ⟨.free, ⟨(some 58), (some (54, true)), .mov (T 1)⟩⟩, ⟨.up, ⟨(some 59), (some (54, true)), .call (.func 46) [(T 56), (T 57), (T 58)]⟩⟩, ⟨.up, ⟨(some 60), (some (54, true)), .call (.func 42) [(T 59)]⟩⟩, ⟨.free, ⟨(some 61), (some (54, true)), .bin .eql (.binOp .eql 36 (T 55) (T 60) 36) 4 (T 55) (T 60)⟩⟩, ⟨.free, ⟨(some 62), none, .pick (T 54) (T 61) (.const (.bool false))⟩⟩, ⟨.free, ⟨(some 63), none, .mov (T 62)⟩⟩, ⟨.any, ⟨(some 64), (some (63, true)), .call (.func 24) []⟩⟩, ⟨.free, ⟨(some 65), none, .pick (T 63) (T 64) (.const (.bool false))⟩⟩, ⟨.free, ⟨(some 4), none, .mov (T 65)⟩⟩]) .ret))))))
theorem fok5 : FnOk Try.prog 5 66 s5 [.tmp 4] := ⟨Try.f5, _, Try.func5, rfl, Try.ntmps5, by kernel_rfl, by kernel_rfl⟩
set_option maxHeartbeats 1000000 in
theorem lossesL_c (hn : 1500 ≤ n) (hr : h.next + 400000 < far) (hfl : h.floor ≤ h.next) {vv sv : Value} {S : MB} (hy : BeatR h vv sv S) {lv : Value} {m : Nat} {e : Nat → Int} (hl : Ints h lv m e) :
    ∃ v h', call n (.func (.func 5) #[] #[]) [.agg ⟨beL S vv sv⟩, lv] h = some (v, h') ∧ v = .bool true := by
  obtain ⟨n, rfl⟩ : ∃ p, n = p + 1 := ⟨n - 1, by omega⟩
  refine call_any0 fok5 rfl rfl (by simp) ?_
  simp only [s5, W_seq, W_ops]
  refine ops_box (cs := beL S vv sv) (by omega) rfl hy.one fun g1 hx1 => ?_
  have n1 := hx1.next
  have f1 := hx1.floor
  have hy1 := hy.mono hx1.sub
  have hl1 := hl.mono hx1.sub
  have r1 := hx1.row
  have et := thin_c (n := n) (h := g1) (by omega) (by omega) hy1
  have haw := awake_c (n := n) (h := g1) (by omega)
  by_cases hT : ThinS S
  case neg => simp only [rn0, rn1, rn2, rn3, rn4, rn5, rn6, rn7, rn8, if_true, if_false, Nat.le_refl, true_and, and_true, decide_true, decide_false, Bool.not_true, Bool.not_false, reduceIte, Nat.reduceEqDiff, Nat.reduceAdd, Nat.reduceMul, Nat.reduceSub, Nat.reduceLeDiff, Nat.reduceLT, r1.whole (n := 5) rfl, et, hT, g_un, haw]
  by_cases c1 : 30 < m
  · have c1' : (30 : Int) < (m : Int) := by omega
    simp only [rn0, rn1, rn2, rn3, rn4, rn5, rn6, rn7, rn8, if_true, if_false, Nat.le_refl, true_and, and_true, decide_true, decide_false, Bool.not_true, Bool.not_false, reduceIte, Nat.reduceEqDiff, Nat.reduceAdd, Nat.reduceMul, Nat.reduceSub, Nat.reduceLeDiff, Nat.reduceLT, r1.whole (n := 5) rfl, et, hT, Cells.len hl1, c1', g_un, gt_iff_lt, haw]
  have c1' : ¬ (30 : Int) < (m : Int) := by omega
  obtain ⟨va, sa, g2, e2, hy2, old2, u2, m2, f2⟩ := beatL_c (n := n) (h := g1) (by omega) (by omega) (by omega) hy1 hT
  obtain ⟨l3, g3, e3, b3, o3, old3, u3, m3, f3, _⟩ := list_c (n := n) (h := g2) (by omega) (by omega) (hl1.mono (AHeap.subOf old2)) (by omega)
  have s13 : Sub All g1 g3 := (AHeap.subOf old2).trans (AHeap.subOf old3)
  have e4 := lossesV_c (n := n) (h := g3) (by omega) (by omega) (hy2.mono (AHeap.subOf old3)) hT b3 (by omega)
  simp only [rn0, rn1, rn2, rn3, rn4, rn5, rn6, rn7, rn8, if_true, if_false, Nat.le_refl, true_and, and_true, decide_true, decide_false, Bool.not_true, Bool.not_false, reduceIte, Nat.reduceEqDiff, Nat.reduceAdd, Nat.reduceMul, Nat.reduceSub, Nat.reduceLeDiff, Nat.reduceLT, r1.whole (n := 5) rfl, et, hT, Cells.len hl1, c1', g_un, gt_iff_lt, e2, e3, e4, ex0, ex1]
  obtain ⟨lo, hlo⟩ : ∃ lo, lo = (if errE S m e = 0 then wLo S e S.nv else 0) := ⟨_, rfl⟩
  obtain ⟨hi, hhi⟩ : ∃ hi, hi = (if errE S m e = 0 then wHi S e S.nv else 0) := ⟨_, rfl⟩
  rw [← hlo, ← hhi]
  refine step_row (cs := [.int .i64 0, .int .i64 0]) (by omega) rfl rfl fun g8 hx8 => ?_
  have n8 := hx8.next
  have f8 := hx8.floor
  simp only [rn0, rn1, rn2, rn3, rn4, rn5, rn6, rn7, rn8, if_true, if_false, Nat.le_refl, true_and, and_true, decide_true, decide_false, Bool.not_true, Bool.not_false, reduceIte, Nat.reduceEqDiff, Nat.reduceAdd, Nat.reduceMul, Nat.reduceSub, Nat.reduceLeDiff, Nat.reduceLT]
  refine step_store (b := g3.next) (off := 0) (vs := [.int .i64 lo, .int .i64 hi]) rfl hx8.get (by omega) (by omega) rfl rfl rfl (by simp) fun g9 hs9 => ?_
  rw [splice_all (by rfl)] at hs9
  have n9 := hs9.next
  have f9 := hs9.floor
  have old9 : ∀ i, i < g3.next → g9.get i = g3.get i := fun i hi => by rw [hs9.old i (by omega), hx8.old i hi]
  have s19 : Sub All g1 g9 := s13.trans (AHeap.subOf old9)
  have hy9 := hy1.mono s19
  have hl9 := hl1.mono s19
  have r9 := r1.mono s19
  have rr9 := hs9.row
  have efr := fault_c (n := n) (h := g9) (by omega) (by omega) hy9 hT
  have ee := areEnds_c (n := n) (h := g9) (by omega) (by omega) hy9 hl9 (by omega)
  obtain ⟨lA, gA, eA, hcA, oldA, uA, mA, fA⟩ := asked_c (n := n) (h := g9) (by omega) (by omega) (by omega) hy9 hT (if faultS S = 0 then decide (Hours S m e) else false)
  have hE : errF S (if faultS S = 0 then decide (Hours S m e) else false) = errE S m e := by
    by_cases hf : faultS S = 0
    · rw [if_pos hf, errF_e]
    · rw [if_neg hf]; unfold errF errE; rw [if_pos hf, if_pos hf]
  rw [hE] at eA hcA
  have sA : Sub All g9 gA := AHeap.subOf oldA
  have w9 : loadAgg 2 g9 (.pointer (some ⟨g3.next, 0, none⟩)) = some (.agg ⟨[.int .i64 lo, .int .i64 hi]⟩) := rr9.whole (n := 2) rfl
  have wA : loadAgg 2 gA (.pointer (some ⟨g3.next, 0, none⟩)) = some (.agg ⟨[.int .i64 lo, .int .i64 hi]⟩) := (rr9.mono sA).whole (n := 2) rfl
  have rAA := r9.mono sA
  have hyA := hy9.mono sA
  have hawA := awake_c (n := n) (h := gA) (by omega)
  have hU : ∀ t, t ∈ refTruths S → Good S → InU S t := fun t ht hG => (truths_mem.1 ((refTruths_mem hG).1 ht)).1.1
  simp only [rn0, rn1, rn2, rn3, rn4, rn5, rn6, rn7, rn8, if_true, if_false, Nat.le_refl, true_and, and_true, decide_true, decide_false, Bool.not_true, Bool.not_false, reduceIte, Nat.reduceEqDiff, Nat.reduceAdd, Nat.reduceMul, Nat.reduceSub, Nat.reduceLeDiff, Nat.reduceLT]
  refine W_draw All ?_
  have bad : errE S m e ≠ 0 → lo = 0 ∧ hi = 0 := fun he => ⟨by rw [hlo, if_neg he], by rw [hhi, if_neg he]⟩
  have hq := fun (f : Go.Vm.Fr) (e1 : f 45 = .agg ⟨[.int .i64 0, .int .i64 0]⟩) (e2 : f 46 = .agg ⟨[.int .i64 0, .int .i64 0]⟩) => eql36 (h := gA) (N := 66) (f := f) (x := T 45) (y := T 46) (ty := 4) (u := 36) (by rw [valN_tmp (by omega)]; exact e1) (by rw [valN_tmp (by omega)]; exact e2)
  by_cases hf : faultS S = 0
  case neg =>
    simp only [hf, if_false] at eA
    have he : errE S m e = faultS S := by unfold errE; rw [if_pos hf]
    obtain ⟨rfl, rfl⟩ := bad (by rw [he]; exact hf)
    have he0 : ¬ errE S m e = 0 := by rw [he]; exact hf
    simp only [rn0, rn1, rn2, rn3, rn4, rn5, rn6, rn7, rn8, if_true, if_false, Nat.le_refl, true_and, and_true, decide_true, decide_false, Bool.not_true, Bool.not_false, reduceIte, Nat.reduceEqDiff, Nat.reduceAdd, Nat.reduceMul, Nat.reduceSub, Nat.reduceLeDiff, Nat.reduceLT, r9.whole (n := 5) rfl, hy9.self, efr, hf, d_guard, dg_tt, dg_tf, dg_ft, dg_ff, dg_un, eA, ex0, ex1]
    refine ⟨uA, ?_⟩
    simp only [rn0, rn1, rn2, rn3, rn4, rn5, rn6, rn7, rn8, if_true, if_false, Nat.le_refl, true_and, and_true, decide_true, decide_false, Bool.not_true, Bool.not_false, reduceIte, Nat.reduceEqDiff, Nat.reduceAdd, Nat.reduceMul, Nat.reduceSub, Nat.reduceLeDiff, Nat.reduceLT, wA, build_rng0, x_binA, binA_eqlAgg, g_un, he0]
    rw [hq _ (by simp only [rn0, rn1, rn2, rn3, rn4, rn5, rn6, rn7, rn8, if_true, if_false, Nat.le_refl, true_and, and_true, decide_true, decide_false, Bool.not_true, Bool.not_false, reduceIte, Nat.reduceEqDiff, Nat.reduceAdd, Nat.reduceMul, Nat.reduceSub, Nat.reduceLeDiff, Nat.reduceLT]) (by simp only [rn0, rn1, rn2, rn3, rn4, rn5, rn6, rn7, rn8, if_true, if_false, Nat.le_refl, true_and, and_true, decide_true, decide_false, Bool.not_true, Bool.not_false, reduceIte, Nat.reduceEqDiff, Nat.reduceAdd, Nat.reduceMul, Nat.reduceSub, Nat.reduceLeDiff, Nat.reduceLT])]
    simp only [rn0, rn1, rn2, rn3, rn4, rn5, rn6, rn7, rn8, if_true, if_false, Nat.le_refl, true_and, and_true, decide_true, decide_false, Bool.not_true, Bool.not_false, reduceIte, Nat.reduceEqDiff, Nat.reduceAdd, Nat.reduceMul, Nat.reduceSub, Nat.reduceLeDiff, Nat.reduceLT, hawA, and_self]
  have hG := good_of hf
  simp only [hf, if_true] at eA
  by_cases he : errE S m e = 0
  case neg =>
    obtain ⟨rfl, rfl⟩ := bad he
    simp only [rn0, rn1, rn2, rn3, rn4, rn5, rn6, rn7, rn8, if_true, if_false, Nat.le_refl, true_and, and_true, decide_true, decide_false, Bool.not_true, Bool.not_false, reduceIte, Nat.reduceEqDiff, Nat.reduceAdd, Nat.reduceMul, Nat.reduceSub, Nat.reduceLeDiff, Nat.reduceLT, r9.whole (n := 5) rfl, hy9.self, efr, hf, d_guard, dg_tt, dg_tf, dg_ft, dg_ff, dg_un, ee, eA, ex0, ex1]
    refine ⟨uA, ?_⟩
    simp only [rn0, rn1, rn2, rn3, rn4, rn5, rn6, rn7, rn8, if_true, if_false, Nat.le_refl, true_and, and_true, decide_true, decide_false, Bool.not_true, Bool.not_false, reduceIte, Nat.reduceEqDiff, Nat.reduceAdd, Nat.reduceMul, Nat.reduceSub, Nat.reduceLeDiff, Nat.reduceLT, wA, build_rng0, x_binA, binA_eqlAgg, g_un, he]
    rw [hq _ (by simp only [rn0, rn1, rn2, rn3, rn4, rn5, rn6, rn7, rn8, if_true, if_false, Nat.le_refl, true_and, and_true, decide_true, decide_false, Bool.not_true, Bool.not_false, reduceIte, Nat.reduceEqDiff, Nat.reduceAdd, Nat.reduceMul, Nat.reduceSub, Nat.reduceLeDiff, Nat.reduceLT]) (by simp only [rn0, rn1, rn2, rn3, rn4, rn5, rn6, rn7, rn8, if_true, if_false, Nat.le_refl, true_and, and_true, decide_true, decide_false, Bool.not_true, Bool.not_false, reduceIte, Nat.reduceEqDiff, Nat.reduceAdd, Nat.reduceMul, Nat.reduceSub, Nat.reduceLeDiff, Nat.reduceLT])]
    simp only [rn0, rn1, rn2, rn3, rn4, rn5, rn6, rn7, rn8, if_true, if_false, Nat.le_refl, true_and, and_true, decide_true, decide_false, Bool.not_true, Bool.not_false, reduceIte, Nat.reduceEqDiff, Nat.reduceAdd, Nat.reduceMul, Nat.reduceSub, Nat.reduceLeDiff, Nat.reduceLT, hawA, and_self]
  · obtain ⟨_, hh, hTT⟩ := errE_zero.1 he
    rw [he] at hcA eA
    have hL0 : refTruths S ≠ [] := fun q => hTT ((ref_nil hG).1 q)
    have hcA' : CoursesL gA lA S (refTruths S) := by unfold someS at hcA; rw [if_pos rfl] at hcA; exact hcA
    have hmn : m = S.nv := hh.1
    obtain ⟨z0, z1, z3, _⟩ := hG.sizes
    have hEn : EndsOk S S.nv (fun v => if v < S.nv then e v else 0) := ⟨fun v hv => by simp only [hv, if_true]; exact hh.2 v (by omega), fun v hv => if_neg (by omega)⟩
    have eL := lossesR_c (n := n) (h := gA) (by omega) (by omega) hyA hG hcA' (fun t ht => hU t ht hG) (Nat.le_trans (ref_len hG) (by omega)) (hl9.mono sA) (by omega) fun v hv => by have := hh.2 v hv; omega
    have hb : ∀ t, t ∈ refTruths S → 0 ≤ lossTo S (whenS t) e m ∧ lossTo S (whenS t) e m ≤ 780 := fun t ht => by
      have := loss_ends hG ((refTruths_mem hG).1 ht) (m := m) (by omega) hEn
      rwa [loss_congr (S := S) (d := whenS t) (d' := whenS t) (e := fun v => if v < S.nv then e v else 0) (e' := e) m fun v hv => ⟨rfl, by simp [show v < S.nv by omega]⟩] at this
    rw [loK_all hL0 fun t ht => by have := hb t ht; omega, hiK_all hL0 fun t ht => by have := hb t ht; omega, wLo_ref hG hTT, wHi_ref hG hTT, hmn] at eL
    have hlo' : lo = wLo S e S.nv := by rw [hlo, if_pos he]
    have hhi' : hi = wHi S e S.nv := by rw [hhi, if_pos he]
    have eT := to_c (n := n) (h := gA) (by omega) (by omega) (wLo S e S.nv) (wHi S e S.nv)
    have hq2 := fun (f : Go.Vm.Fr) (e1 : f 55 = .agg ⟨[.int .i64 lo, .int .i64 hi]⟩) (e2 : f 60 = .agg ⟨[.int .i64 (wLo S e S.nv), .int .i64 (wHi S e S.nv)]⟩) => eql36 (h := gA) (N := 66) (f := f) (x := T 55) (y := T 60) (ty := 4) (u := 36) (by rw [valN_tmp (by omega)]; exact e1) (by rw [valN_tmp (by omega)]; exact e2)
    have hd : decide (lo = wLo S e S.nv ∧ hi = wHi S e S.nv) = true := decide_eq_true ⟨hlo', hhi'⟩
    simp only [rn0, rn1, rn2, rn3, rn4, rn5, rn6, rn7, rn8, if_true, if_false, Nat.le_refl, true_and, and_true, decide_true, decide_false, Bool.not_true, Bool.not_false, reduceIte, Nat.reduceEqDiff, Nat.reduceAdd, Nat.reduceMul, Nat.reduceSub, Nat.reduceLeDiff, Nat.reduceLT, r9.whole (n := 5) rfl, hy9.self, efr, hf, d_guard, dg_tt, dg_tf, dg_ft, dg_ff, dg_un, ee, eA, ex0, ex1]
    refine ⟨uA, ?_⟩
    simp only [rn0, rn1, rn2, rn3, rn4, rn5, rn6, rn7, rn8, if_true, if_false, Nat.le_refl, true_and, and_true, decide_true, decide_false, Bool.not_true, Bool.not_false, reduceIte, Nat.reduceEqDiff, Nat.reduceAdd, Nat.reduceMul, Nat.reduceSub, Nat.reduceLeDiff, Nat.reduceLT, he]
    refine W_draw All ?_
    simp only [rn0, rn1, rn2, rn3, rn4, rn5, rn6, rn7, rn8, if_true, if_false, Nat.le_refl, true_and, and_true, decide_true, decide_false, Bool.not_true, Bool.not_false, reduceIte, Nat.reduceEqDiff, Nat.reduceAdd, Nat.reduceMul, Nat.reduceSub, Nat.reduceLeDiff, Nat.reduceLT, wA, self_two, rAA.whole (n := 5) rfl, d_guard, dg_tt, dg_tf, dg_ft, dg_ff, dg_un, eL, eT, x_binA, binA_eqlAgg]
    rw [hq2 _ (by simp only [rn0, rn1, rn2, rn3, rn4, rn5, rn6, rn7, rn8, if_true, if_false, Nat.le_refl, true_and, and_true, decide_true, decide_false, Bool.not_true, Bool.not_false, reduceIte, Nat.reduceEqDiff, Nat.reduceAdd, Nat.reduceMul, Nat.reduceSub, Nat.reduceLeDiff, Nat.reduceLT]) (by simp only [rn0, rn1, rn2, rn3, rn4, rn5, rn6, rn7, rn8, if_true, if_false, Nat.le_refl, true_and, and_true, decide_true, decide_false, Bool.not_true, Bool.not_false, reduceIte, Nat.reduceEqDiff, Nat.reduceAdd, Nat.reduceMul, Nat.reduceSub, Nat.reduceLeDiff, Nat.reduceLT]), hd]
    simp only [rn0, rn1, rn2, rn3, rn4, rn5, rn6, rn7, rn8, if_true, if_false, Nat.le_refl, true_and, and_true, decide_true, decide_false, Bool.not_true, Bool.not_false, reduceIte, Nat.reduceEqDiff, Nat.reduceAdd, Nat.reduceMul, Nat.reduceSub, Nat.reduceLeDiff, Nat.reduceLT, hawA, d_guard, dg_tt]
end Go.Vm.Bt
