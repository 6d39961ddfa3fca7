/- Texts of the proofs of this seat, put together: StV5, StV6, StL1, StL2, StNth, StGrow, StLoad, StATab, StAMain. -/
import Derived.Test.YtffgdpkogokdhaaPk5
import Derived.Test.YtffgdpkogokdhaaProg

namespace Go.Vm.St
open Go.Proofs Go.Vm.Vat
set_option linter.unusedSimpArgs false
set_option linter.unusedVariables false
set_option maxRecDepth 10000
variable {n : Nat} {h : AHeap}
def s105 : SCode := (.seq (.ops [⟨(some 4), none, .mov (.const (.int .i64 (0)))⟩]) (.seq (.seq (.ops [⟨(some 7), none, .mov (T 1)⟩, ⟨(some 8), none, .len (T 7)⟩, ⟨(some 9), none, .mov (.const (.int .i64 (0)))⟩]) (.block 0 (.loop (.seq (.ops [⟨(some 10), none, .int2 .lss (T 9) (T 8)⟩]) (.seq (.cond (T 10) .skip (.exit 0)) (.seq (.block 1 (.seq (.ops [⟨(some 11), none, .idxSl 1 (T 7) (T 9)⟩, ⟨(some 12), none, .load1 (T 11)⟩, ⟨(some 6), none, .mov (T 12)⟩]) (.ops [⟨(some 13), none, .mov (T 0)⟩, ⟨(some 14), none, .mov (T 6)⟩, ⟨(some 15), none, .plain (.call { callee := .builtin .min, args := #[(T 13), (T 14)], argTypes := #[3, 3] }) 3⟩, ⟨(some 0), none, .mov (T 15)⟩]))) (.ops [⟨(some 16), none, .int2 .add (T 9) (.const (.int .i64 (1)))⟩, ⟨(some 9), none, .mov (T 16)⟩]))))))) (.seq (.ops [⟨(some 17), none, .mov (T 0)⟩, ⟨(some 4), none, .mov (T 17)⟩]) .ret)))
theorem fok105 : FnOk Try.prog 105 18 s105 [.tmp 4] := ⟨Try.f105, _, Try.func105, rfl, Try.ntmps105, by kernel_rfl, by kernel_rfl⟩
theorem minimum_c {m : Nat} (hn : m + 2 ≤ n) (hm : m ≤ 1000) {v : Value} {a : Nat → Int} (hi : Ints h v m a) (x : Int) : call n (.func (.func 105) #[] #[]) [.int .i64 x, v] h = some (.int .i64 (minN x a m), h) := by
  obtain ⟨n, rfl⟩ : ∃ p, n = p + 1 := ⟨n - 1, by omega⟩
  refine call_plain0 fok105 rfl rfl (by simp) rfl ?_
  have hi := Cells.shut hi
  generalize h.shutAll = h at hi
  simp only [rn0, rn1, rn2, reduceIte, Nat.reduceEqDiff, Nat.reduceAdd, Nat.reduceMul, Nat.reduceSub, Nat.reduceLeDiff, Nat.reduceLT, s105, Cells.len hi]
  refine W_loop m (fun k f g ms => g = h ∧ ms = [] ∧ f 0 = .int .i64 (minN x a k) ∧ f 7 = v ∧ f 8 = .int .i64 (m : Int) ∧ f 9 = .int .i64 (k : Int)) (by simp; omega) ?_ ?_ ?_
  · simp only [rn0, rn1, rn2, reduceIte, Nat.reduceEqDiff, Nat.reduceAdd, Nat.reduceMul, Nat.reduceSub, Nat.reduceLeDiff, Nat.reduceLT]
    exact ⟨rfl, rfl⟩
  · rintro k f g ms hk ⟨rfl, rfl, f0, f7, f8, f9⟩
    have hk' : (k : Int) < (m : Int) := by omega
    have hw : wrapF .i64 ((k : Int) + 1) = ((k + 1 : Nat) : Int) := by rw [wrap_in (by omega) (by omega)]; rfl
    have he : min (minN x a k) (a k) = minN x a (k + 1) := rfl
    simp only [rn0, rn1, rn2, reduceIte, Nat.reduceEqDiff, Nat.reduceAdd, Nat.reduceMul, Nat.reduceSub, Nat.reduceLeDiff, Nat.reduceLT, f0, f7, f8, f9, hk', Cells.idx hi hk, Cells.ld hi hk Nat.zero_lt_one, valN_tmp, he, hw]
  · rintro f g ms ⟨rfl, rfl, f0, f7, f8, f9⟩
    simp only [rn0, rn1, rn2, reduceIte, Nat.reduceEqDiff, Nat.reduceAdd, Nat.reduceMul, Nat.reduceSub, Nat.reduceLeDiff, Nat.reduceLT, f0, f7, f8, f9, Int.lt_irrefl]
theorem min_one (hn : 10 ≤ n) {g : AHeap} {b : Nat} {x y : Int} (hg : g.get b = some (.row [.int .i64 y] true 0)) : call n (.func (.func 105) #[] #[]) [.int .i64 x, .slice (some ⟨b, 0, none⟩) 1 1] g = some (.int .i64 (min x y), g) := by
  have hone : Ints g (.slice (some ⟨b, 0, none⟩) 1 1) 1 (fun _ => y) := ⟨_, _, rfl, fun x e => by cases e; rfl, .inr ⟨_, 0, _, _, _, rfl, hg, fun i j hi hj => by
    have hi : i = 0 := by omega
    have hj : j = 0 := by omega
    subst hi hj; rfl⟩⟩
  exact minimum_c (n := n) (h := g) (m := 1) (by omega) (by omega) hone x
def s106 : SCode := (.seq (.ops [⟨(some 4), none, .box (T 0)⟩, ⟨(some 5), none, .box (T 1)⟩, ⟨(some 8), none, .mov (.const (.int .i64 (0)))⟩]) (.seq (.ops [⟨(some 9), none, .mov (.const (.int .i64 (0)))⟩]) (.seq (.seq (.ops [⟨(some 12), none, .fieldAddr 0 (T 5)⟩, ⟨(some 13), none, .fieldAddr 0 (T 4)⟩, ⟨(some 14), none, .fieldAddr 5 (T 13)⟩, ⟨(some 15), none, .load1 (T 14)⟩, ⟨(some 16), none, .mov (T 2)⟩, ⟨(some 17), none, .idxSl 4 (T 15) (T 16)⟩, ⟨(some 18), none, .fieldAddr 0 (T 17)⟩, ⟨(some 19), none, .load1 (T 18)⟩, ⟨(some 20), none, .mov (T 3)⟩, ⟨(some 21), none, .int2 .add (T 20) (.const (.int .i64 (1)))⟩, ⟨(some 22), none, .sliceArr 6 1 (T 12) (some (T 19)) (some (T 21))⟩, ⟨(some 23), none, .len (T 22)⟩, ⟨(some 24), none, .mov (.const (.int .i64 (0)))⟩]) (.block 0 (.loop (.seq (.ops [⟨(some 25), none, .int2 .lss (T 24) (T 23)⟩]) (.seq (.cond (T 25) .skip (.exit 0)) (.seq (.block 1 (.seq (.ops [⟨(some 26), none, .idxSl 1 (T 22) (T 24)⟩, ⟨(some 27), none, .load1 (T 26)⟩, ⟨(some 11), none, .mov (T 27)⟩]) (.ops [⟨(some 28), none, .mov (T 9)⟩, ⟨(some 29), none, .mov (T 11)⟩, ⟨(some 30), none, .int2 .add (T 28) (T 29)⟩, ⟨(some 9), none, .mov (T 30)⟩]))) (.ops [⟨(some 31), none, .int2 .add (T 24) (.const (.int .i64 (1)))⟩, ⟨(some 24), none, .mov (T 31)⟩]))))))) (.seq (.ops [⟨(some 32), none, .mov (T 9)⟩, ⟨(some 8), none, .mov (T 32)⟩]) .ret))))
theorem fok106 : FnOk Try.prog 106 33 s106 [.tmp 8] := ⟨Try.f106, _, Try.func106, rfl, Try.ntmps106, by kernel_rfl, by kernel_rfl⟩
theorem warmthW_c (hn : 100 ≤ n) (hr : h.next + 5 < far) {wv vv sv tv : Value} {S : MS} {u : Nat → Int} (hy : SteepR h wv vv sv S) (ht : oneCell tv = true) (hG : Good S) (hu : InU S u) {v : Nat} {hh : Int} (ho : HourOk S v hh) :
    call n (.func (.func 106) #[] #[]) [.agg ⟨wkL S wv vv sv tv⟩, .agg ⟨tarr S u⟩, .int .i64 (v : Int), .int .i64 hh] h = some (.int .i64 (warmS S u v hh), h) := by
  obtain ⟨n, rfl⟩ : ∃ p, n = p + 1 := ⟨n - 1, by omega⟩
  refine call_plain0 fok106 rfl rfl (by simp) rfl ?_
  have hy := hy.shut
  have hr : h.shutAll.next + 5 < far := hr
  generalize h.shutAll = h at hy hr
  obtain ⟨o1, o2, o3, o4, o5, o6⟩ := ho.nat hG
  obtain ⟨z1, z2, z3, z4, _⟩ := hG.sizes
  have hv := ho.isV
  simp only [s106, W_seq, W_ops]
  refine ops_box (cs := wkL S wv vv sv tv) (by omega) rfl (wk_one hy ht) fun h1 hx1 => ?_
  refine ops_box (cs := tarr S u) (by rw [hx1.next]; omega) rfl tarr_one fun h2 hx2 => ?_
  have r1 := hx1.row.mono hx2.sub
  have r2 := hx2.row
  have hy := (hy.mono hx1.sub).mono hx2.sub
  have hwh : wrapF .i64 (hh + 1) = hh + 1 := wrap_in (by omega) (by omega)
  have hsl := sliceArr_part (h := h2) (N := 6) (b := h1.next) (o := 0) (l := (S.vb v).toNat) (hh := (hh + 1).toNat) (by omega) (by omega) (by omega)
  have e1 : (((hh + 1).toNat : Nat) : Int) = hh + 1 := by omega
  rw [e1, o4, show 0 + (S.vb v).toNat = (S.vb v).toNat by omega, show (hh + 1).toNat - (S.vb v).toNat = (hh - S.vb v + 1).toNat by omega] at hsl
  generalize hm : (hh - S.vb v + 1).toNat = m at o5 o6 hsl
  have hI : Ints h2 (.slice (some ⟨h1.next, (S.vb v).toNat, none⟩) m (6 - (S.vb v).toNat)) m (fun k => u ((S.vb v).toNat + k)) :=
    ⟨_, _, rfl, fun x e => by cases e; rfl, .inr ⟨_, _, _, _, _, rfl, hx2.get, fun k j hk hj => by
      have : j = 0 := by omega
      subst this
      rw [Nat.mul_one, Nat.add_zero, tarr_get (by omega)]
      have q1 : (S.vb v).toNat + k < 6 := by omega
      have q2 : (S.vb v).toNat + k < S.nw := by omega
      simp only [cellU, q1, q2, if_true]⟩⟩
  simp only [rn0, rn1, rn2, reduceIte, Nat.reduceEqDiff, Nat.reduceAdd, Nat.reduceMul, Nat.reduceSub, Nat.reduceLeDiff, Nat.reduceLT, r1.ld, wkg, Nat.zero_add, Nat.add_zero, Cells.idx hy.v hv, Cells.fld hy.v hv, begin_ld hy hv, hwh, x_sliceArr, Option.map_some, hsl]
  refine W_loop m (fun k f g ms => g = h2 ∧ ms = [] ∧ f 9 = .int .i64 (sumR u (S.vb v).toNat k) ∧ f 22 = .slice (some ⟨h1.next, (S.vb v).toNat, none⟩) m (6 - (S.vb v).toNat) ∧ f 23 = .int .i64 (m : Int) ∧ f 24 = .int .i64 (k : Int)) (by simp; omega) ?_ ?_ ?_
  · simp only [rn0, rn1, rn2, reduceIte, Nat.reduceEqDiff, Nat.reduceAdd, Nat.reduceMul, Nat.reduceSub, Nat.reduceLeDiff, Nat.reduceLT]
    exact ⟨rfl, rfl⟩
  · rintro k f g ms hk ⟨rfl, rfl, f9, f22, f23, f24⟩
    have hk' : (k : Int) < (m : Int) := by omega
    have hw : wrapF .i64 ((k : Int) + 1) = ((k + 1 : Nat) : Int) := by rw [wrap_in (by omega) (by omega)]; rfl
    obtain ⟨b1, b2⟩ := sumR_bound (u := u) (b := (S.vb v).toNat) (B := 9) (by omega) k fun j hj => hu.warm hG (by omega)
    obtain ⟨b3, b4⟩ := hu.warm hG (i := (S.vb v).toNat + k) (by omega)
    have hw2 : wrapF .i64 (sumR u (S.vb v).toNat k + u ((S.vb v).toNat + k)) = sumR u (S.vb v).toNat (k + 1) := wrap_in (by omega) (by omega)
    simp only [rn0, rn1, rn2, reduceIte, Nat.reduceEqDiff, Nat.reduceAdd, Nat.reduceMul, Nat.reduceSub, Nat.reduceLeDiff, Nat.reduceLT, f9, f22, f23, f24, hk', Cells.idx hI hk, Cells.ld hI hk Nat.zero_lt_one, hw2, hw]
  · rintro f g ms ⟨rfl, rfl, f9, f22, f23, f24⟩
    have he : warmS S u v hh = sumR u (S.vb v).toNat m := by unfold warmS; rw [hm]
    simp only [rn0, rn1, rn2, reduceIte, Nat.reduceEqDiff, Nat.reduceAdd, Nat.reduceMul, Nat.reduceSub, Nat.reduceLeDiff, Nat.reduceLT, f9, f22, f23, f24, Int.lt_irrefl, he]
theorem cell_full {S : MS} {u : Nat → Int} {v : Nat} (hv : v < S.nv) : cellU S u (7 + v) = u (S.nw + 1 + v) := by
  have c1 : ¬ 7 + v < 6 := by omega
  have c2 : ¬ 7 + v = 6 := by omega
  have c4 : 7 + v - 7 = v := by omega
  simp only [cellU, c1, c2, hv, if_true, if_false, c4]
theorem cell_spoil {S : MS} {u : Nat → Int} : cellU S u 6 = u S.nw := by simp [cellU]
def s76 : SCode := (.seq (.ops [⟨(some 4), none, .box (T 0)⟩, ⟨(some 5), none, .box (T 1)⟩, ⟨(some 8), none, .mov (.const (.int .i64 (0)))⟩]) (.seq (.draw [⟨.free, ⟨(some 9), none, .fieldAddr 0 (T 4)⟩⟩, ⟨.free, ⟨(some 10), none, .fieldAddr 1 (T 9)⟩⟩, ⟨.rd, ⟨(some 11), none, .load1 (T 10)⟩⟩, ⟨.rd1, ⟨(some 12), none, .loadN 8 (T 4)⟩⟩, ⟨.rd1, ⟨(some 13), none, .loadN 11 (T 5)⟩⟩, ⟨.free, ⟨(some 14), none, .mov (T 2)⟩⟩, ⟨.free, ⟨(some 15), none, .mov (T 3)⟩⟩, ⟨.up, ⟨(some 16), none, .call (.func 106) [(T 12), (T 13), (T 14), (T 15)]⟩⟩, ⟨.free, ⟨(some 17), none, .int2 .mul (T 11) (T 16)⟩⟩, ⟨.free, ⟨(some 18), none, .mov (T 2)⟩⟩, ⟨.free, ⟨(some 19), none, .fieldAddr 7 (T 5)⟩⟩, ⟨.free, ⟨(some 20), none, .idxArr 4 1 (T 19) (T 18)⟩⟩, ⟨.rd, ⟨(some 21), none, .load1 (T 20)⟩⟩, ⟨.up, ⟨(some 22), none, .bslice 1 1 [(.int .i64 (0))] [0] [(T 21)]⟩⟩, ⟨.any, ⟨(some 23), none, .call (.func 105) [(T 17), (T 22)]⟩⟩, ⟨.free, ⟨(some 8), none, .mov (T 23)⟩⟩]) .ret))
theorem fok76 : FnOk Try.prog 76 24 s76 [.tmp 8] := ⟨Try.f76, _, Try.func76, rfl, Try.ntmps76, by kernel_rfl, by kernel_rfl⟩
theorem blueOut_c (hn : 110 ≤ n) (hr : h.next + 20 < far) {wv vv sv tv : Value} {S : MS} {u : Nat → Int} (hy : SteepR h wv vv sv S) (ht : oneCell tv = true) (hG : Good S) (hu : InU S u) {v : Nat} {hh : Int} (ho : HourOk S v hh) :
    call n (.func (.func 76) #[] #[]) [.agg ⟨wkL S wv vv sv tv⟩, .agg ⟨tarr S u⟩, .int .i64 (v : Int), .int .i64 hh] h = some (.int .i64 (blueS S u v hh), h) := by
  obtain ⟨n, rfl⟩ : ∃ p, n = p + 1 := ⟨n - 1, by omega⟩
  refine call_plain0 fok76 rfl rfl (by simp) rfl ?_
  have hy := hy.shut
  have hr : h.shutAll.next + 20 < far := hr
  generalize h.shutAll = h at hy hr
  obtain ⟨_, _, b3, b4⟩ := blue_bound hG hu ho
  obtain ⟨_, _, _, _, z5, _⟩ := hG.sizes
  have hv := ho.isV
  simp only [s76, W_seq, W_ops]
  refine ops_box (cs := wkL S wv vv sv tv) (by omega) rfl (wk_one hy ht) fun h1 hx1 => ?_
  refine ops_box (cs := tarr S u) (by rw [hx1.next]; omega) rfl tarr_one fun h2 hx2 => ?_
  have n1 := hx1.next
  have n2 := hx2.next
  have r1 := hx1.row.mono hx2.sub
  have r2 := hx2.row
  have hy := (hy.mono hx1.sub).mono hx2.sub
  have ew := warmthW_c (n := n) (h := h2) (by omega) (by omega) hy ht hG hu ho
  have hw : wrapF .i64 (S.per * warmS S u v hh) = S.per * warmS S u v hh := wrap_in (by omega) (by omega)
  have hld : loadCell h2 (.pointer (some ⟨h1.next, 7 + v, none⟩)) = some (.int .i64 (u (S.nw + 1 + v))) := by rw [r2.ld, tarr_get (by omega), cell_full hv]
  simp only [rn0, rn1, rn2, reduceIte, Nat.reduceEqDiff, Nat.reduceAdd, Nat.reduceMul, Nat.reduceSub, Nat.reduceLeDiff, Nat.reduceLT]
  refine W_draw All ?_
  simp only [rn0, rn1, rn2, reduceIte, Nat.reduceEqDiff, Nat.reduceAdd, Nat.reduceMul, Nat.reduceSub, Nat.reduceLeDiff, Nat.reduceLT, r1.ld, wkg, r1.whole (n := 8) rfl, r2.whole tarr_len, Nat.zero_add, Nat.add_zero, eqV_int, ew, hw, fieldAt_p, idxArr_p (l := 4) (k := v) (by omega), hld, sl_int]
  refine up_slice (by omega) rfl (fun g7 hx => hx.sub) fun g3 hx3 => ?_
  have em := min_one (n := n) (x := S.per * warmS S u v hh) (by omega) hx3.get
  have hmn : min (S.per * warmS S u v hh) (u (S.nw + 1 + v)) = blueS S u v hh := rfl
  simp only [rn0, rn1, rn2, reduceIte, Nat.reduceEqDiff, Nat.reduceAdd, Nat.reduceMul, Nat.reduceSub, Nat.reduceLeDiff, Nat.reduceLT, em, hmn]
def s78 : SCode := (.seq (.ops [⟨(some 4), none, .box (T 0)⟩, ⟨(some 5), none, .box (T 1)⟩, ⟨(some 8), none, .mov (.const (.int .i64 (0)))⟩]) (.seq (.block 0 (.seq (.draw [⟨.rd1, ⟨(some 10), none, .loadN 8 (T 4)⟩⟩, ⟨.rd1, ⟨(some 11), none, .loadN 11 (T 5)⟩⟩, ⟨.free, ⟨(some 12), none, .mov (T 2)⟩⟩, ⟨.free, ⟨(some 13), none, .mov (T 3)⟩⟩, ⟨.up, ⟨(some 14), none, .call (.func 106) [(T 10), (T 11), (T 12), (T 13)]⟩⟩, ⟨.free, ⟨(some 15), none, .fieldAddr 6 (T 5)⟩⟩, ⟨.rd, ⟨(some 16), none, .load1 (T 15)⟩⟩, ⟨.free, ⟨(some 17), none, .int2 .gtr (T 14) (T 16)⟩⟩, ⟨.free, ⟨(some 9), none, .mov (T 17)⟩⟩]) (.cond (T 9) (.seq (.ops [⟨(some 8), none, .mov (.const (.int .i64 (2)))⟩]) .ret) (.seq (.draw [⟨.rd1, ⟨(some 19), none, .loadN 8 (T 4)⟩⟩, ⟨.rd1, ⟨(some 20), none, .loadN 11 (T 5)⟩⟩, ⟨.free, ⟨(some 21), none, .mov (T 2)⟩⟩, ⟨.free, ⟨(some 22), none, .mov (T 3)⟩⟩, ⟨.up, ⟨(some 23), none, .call (.func 76) [(T 19), (T 20), (T 21), (T 22)]⟩⟩, ⟨.free, ⟨(some 24), none, .fieldAddr 0 (T 4)⟩⟩, ⟨.free, ⟨(some 25), none, .fieldAddr 5 (T 24)⟩⟩, ⟨.rd, ⟨(some 26), none, .load1 (T 25)⟩⟩, ⟨.free, ⟨(some 27), none, .mov (T 2)⟩⟩, ⟨.free, ⟨(some 28), none, .idxSl 4 (T 26) (T 27)⟩⟩, ⟨.free, ⟨(some 29), none, .fieldAddr 3 (T 28)⟩⟩, ⟨.rd, ⟨(some 30), none, .load1 (T 29)⟩⟩, ⟨.free, ⟨(some 31), none, .int2 .lss (T 23) (T 30)⟩⟩, ⟨.free, ⟨(some 18), none, .mov (T 31)⟩⟩]) (.cond (T 18) (.seq (.ops [⟨(some 8), none, .mov (.const (.int .i64 (0)))⟩]) .ret) .skip))))) (.seq (.ops [⟨(some 8), none, .mov (.const (.int .i64 (1)))⟩]) .ret)))
theorem fok78 : FnOk Try.prog 78 32 s78 [.tmp 8] := ⟨Try.f78, _, Try.func78, rfl, Try.ntmps78, by kernel_rfl, by kernel_rfl⟩
theorem kindW_c (hn : 120 ≤ n) (hr : h.next + 40 < far) {wv vv sv tv : Value} {S : MS} {u : Nat → Int} (hy : SteepR h wv vv sv S) (ht : oneCell tv = true) (hG : Good S) (hu : InU S u) {v : Nat} {hh : Int} (ho : HourOk S v hh) :
    call n (.func (.func 78) #[] #[]) [.agg ⟨wkL S wv vv sv tv⟩, .agg ⟨tarr S u⟩, .int .i64 (v : Int), .int .i64 hh] h = some (.int .i64 (kindS S u v hh), h) := by
  obtain ⟨n, rfl⟩ : ∃ p, n = p + 1 := ⟨n - 1, by omega⟩
  refine call_plain0 fok78 rfl rfl (by simp) rfl ?_
  have hy := hy.shut
  have hr : h.shutAll.next + 40 < far := hr
  generalize h.shutAll = h at hy hr
  have hv := ho.isV
  simp only [s78, W_seq, W_ops]
  refine ops_box (cs := wkL S wv vv sv tv) (by omega) rfl (wk_one hy ht) fun h1 hx1 => ?_
  refine ops_box (cs := tarr S u) (by rw [hx1.next]; omega) rfl tarr_one fun h2 hx2 => ?_
  have n1 := hx1.next
  have n2 := hx2.next
  have r1 := hx1.row.mono hx2.sub
  have r2 := hx2.row
  have hy := (hy.mono hx1.sub).mono hx2.sub
  have ew := warmthW_c (n := n) (h := h2) (by omega) (by omega) hy ht hG hu ho
  have eb := blueOut_c (n := n) (h := h2) (by omega) (by omega) hy ht hG hu ho
  have w1 := r1.whole (n := 8) rfl
  have w2 := r2.whole tarr_len
  have hld : loadCell h2 (.pointer (some ⟨h1.next, 6, none⟩)) = some (.int .i64 (u S.nw)) := by rw [r2.ld, tarr_get (by omega), cell_spoil]
  simp only [rn0, rn1, rn2, reduceIte, Nat.reduceEqDiff, Nat.reduceAdd, Nat.reduceMul, Nat.reduceSub, Nat.reduceLeDiff, Nat.reduceLT]
  refine W_draw All ?_
  by_cases c1 : u S.nw < warmS S u v hh
  · have hk : kindS S u v hh = 2 := by unfold kindS; rw [if_pos c1]
    simp only [rn0, rn1, rn2, reduceIte, Nat.reduceEqDiff, Nat.reduceAdd, Nat.reduceMul, Nat.reduceSub, Nat.reduceLeDiff, Nat.reduceLT, w1, w2, Nat.zero_add, fieldAt_p, hld, eqV_int, ew, c1, hk]
  simp only [rn0, rn1, rn2, reduceIte, Nat.reduceEqDiff, Nat.reduceAdd, Nat.reduceMul, Nat.reduceSub, Nat.reduceLeDiff, Nat.reduceLT, w1, w2, Nat.zero_add, fieldAt_p, hld, eqV_int, ew, c1]
  refine W_draw All ?_
  by_cases c2 : blueS S u v hh < S.vn v
  · have hk : kindS S u v hh = 0 := by unfold kindS; rw [if_neg c1, if_pos c2]
    simp only [rn0, rn1, rn2, reduceIte, Nat.reduceEqDiff, Nat.reduceAdd, Nat.reduceMul, Nat.reduceSub, Nat.reduceLeDiff, Nat.reduceLT, r1.ld, w1, w2, wkg, Nat.zero_add, Cells.self hy.v, Cells.idx hy.v hv, Cells.fld hy.v hv, need_ld hy hv, eqV_int, eb, c2, hk]
  · have hk : kindS S u v hh = 1 := by unfold kindS; rw [if_neg c1, if_neg c2]
    simp only [rn0, rn1, rn2, reduceIte, Nat.reduceEqDiff, Nat.reduceAdd, Nat.reduceMul, Nat.reduceSub, Nat.reduceLeDiff, Nat.reduceLT, r1.ld, w1, w2, wkg, Nat.zero_add, Cells.self hy.v, Cells.idx hy.v hv, Cells.fld hy.v hv, need_ld hy hv, eqV_int, eb, c2, hk]
def hourRow (m k : Nat) (val : Nat → Int) : List Value := (List.range m).map fun i => .int .i64 (if i < k then val i else 0)
theorem hourRow_one {m k : Nat} {val : Nat → Int} : allB oneCell (hourRow m k val) = true := by rw [allB_iff]; intro v hv; obtain ⟨i, _, rfl⟩ := List.mem_map.1 hv; rfl
theorem hourRow_set {m k : Nat} {val : Nat → Int} (hk : k < m) : splice (hourRow m k val) (k * 1) [.int .i64 (val k)] = hourRow m (k + 1) val := by
  refine map_splice (by simp; omega) (fun i hi hc => ?_) (fun j hj => ?_)
  · simp only [List.length_cons, List.length_nil] at hc
    by_cases c : i < k
    · have : i < k + 1 := by omega
      simp only [c, this, if_true]
    · have : ¬ i < k + 1 := by omega
      simp only [c, this, if_false]
  · simp only [List.length_cons, List.length_nil] at hj
    have : j = 0 := by omega
    subst this
    simp
theorem repl_hour {m : Nat} {val : Nat → Int} : repl [.int .i64 0] m = hourRow m 0 val := by
  rw [repl_one]
  unfold hourRow
  apply List.ext_getElem?
  intro i
  by_cases hi : i < m
  · rw [List.getElem?_replicate, if_pos hi, List.getElem?_map, List.getElem?_range hi]; simp
  · rw [List.getElem?_eq_none (by simp; omega), List.getElem?_eq_none (by simp; omega)]
def hoursN (S : MS) (v : Nat) : Nat := (S.last - S.vb v + 1).toNat
theorem hoursN_ok {S : MS} (hG : Good S) {v : Nat} (hv : v < S.nv) : (hoursN S v : Int) = S.last - S.vb v + 1 ∧ 1 ≤ hoursN S v ∧ hoursN S v ≤ 6 := by
  obtain ⟨⟨q1, q2⟩, _⟩ := hG.args.vat v hv
  obtain ⟨z1, z2, _⟩ := hG.sizes
  unfold hoursN
  omega
theorem hour_at {S : MS} (hG : Good S) {v i : Nat} (hv : v < S.nv) (hi : i < hoursN S v) : HourOk S v (S.vb v + (i : Int)) := by
  obtain ⟨h1, h2, h3⟩ := hoursN_ok hG hv
  exact ⟨hv, by omega, by omega⟩
def s77 : SCode := (.seq (.ops [⟨(some 4), none, .box (T 0)⟩, ⟨(some 5), none, .box (T 1)⟩, ⟨(some 6), none, .box (T 2)⟩, ⟨(some 8), none, .mov (.const (.slice none 0 0))⟩]) (.seq (.ops [⟨(some 11), none, .loadN 8 (T 5)⟩, ⟨(some 12), none, .mov (T 3)⟩, ⟨(some 13), none, .call (.func 107) [(T 11), (T 12)]⟩, ⟨(some 14), none, .mkslice 1 8 [(.int .i64 (0))] (T 13) (T 13)⟩, ⟨(some 9), none, .mov (T 14)⟩]) (.seq (.seq (.ops [⟨(some 15), none, .loadN 8 (T 5)⟩, ⟨(some 16), none, .mov (T 3)⟩, ⟨(some 17), none, .call (.func 107) [(T 15), (T 16)]⟩, ⟨(some 18), none, .mov (.const (.int .i64 (0)))⟩]) (.block 0 (.loop (.seq (.ops [⟨(some 19), none, .int2 .lss (T 18) (T 17)⟩]) (.seq (.cond (T 19) .skip (.exit 0)) (.seq (.block 1 (.seq (.ops [⟨(some 20), none, .mov (T 18)⟩, ⟨(some 10), none, .mov (T 20)⟩]) (.draw [⟨.free, ⟨(some 21), none, .mov (T 9)⟩⟩, ⟨.free, ⟨(some 22), none, .mov (T 10)⟩⟩, ⟨.free, ⟨(some 23), none, .fieldAddr 0 (T 4)⟩⟩, ⟨.rd1, ⟨(some 24), none, .load1 (T 23)⟩⟩, ⟨.rd1, ⟨(some 25), none, .loadN 8 (T 5)⟩⟩, ⟨.rd1, ⟨(some 26), none, .loadN 11 (T 6)⟩⟩, ⟨.free, ⟨(some 27), none, .mov (T 3)⟩⟩, ⟨.free, ⟨(some 28), none, .fieldAddr 0 (T 5)⟩⟩, ⟨.free, ⟨(some 29), none, .fieldAddr 5 (T 28)⟩⟩, ⟨.rd1, ⟨(some 30), none, .load1 (T 29)⟩⟩, ⟨.free, ⟨(some 31), none, .mov (T 3)⟩⟩, ⟨.free, ⟨(some 32), none, .idxSl 4 (T 30) (T 31)⟩⟩, ⟨.free, ⟨(some 33), none, .fieldAddr 0 (T 32)⟩⟩, ⟨.rd1, ⟨(some 34), none, .load1 (T 33)⟩⟩, ⟨.free, ⟨(some 35), none, .mov (T 10)⟩⟩, ⟨.free, ⟨(some 36), none, .int2 .add (T 34) (T 35)⟩⟩, ⟨.any, ⟨(some 37), none, .call (T 24) [(T 25), (T 26), (T 27), (T 36)]⟩⟩, ⟨.free, ⟨(some 38), none, .idxSl 1 (T 21) (T 22)⟩⟩, ⟨.any, ⟨none, none, .store 1 (T 38) (T 37)⟩⟩]))) (.ops [⟨(some 39), none, .int2 .add (T 18) (.const (.int .i64 (1)))⟩, ⟨(some 18), none, .mov (T 39)⟩]))))))) (.seq (.ops [⟨(some 40), none, .mov (T 9)⟩, ⟨(some 8), none, .mov (T 40)⟩]) .ret))))
theorem fok77 : FnOk Try.prog 77 41 s77 [.tmp 8] := ⟨Try.f77, _, Try.func77, rfl, Try.ntmps77, by kernel_rfl, by kernel_rfl⟩
theorem hourly_c (hn : 130 ≤ n) (hr : h.next + 200 < far) (hfl : h.floor ≤ h.next) {wv vv sv tv : Value} {S : MS} {u : Nat → Int} (hy : SteepR h wv vv sv S) (ht : oneCell tv = true) (hG : Good S) {v : Nat} (hv : v < S.nv) {G : Nat} {val : Int → Int}
    (hV : ∀ g, Sub All h g → g.next ≤ h.next + 100 → ∀ hh, HourOk S v hh → call (n - 1) (.func (.func G) #[] #[]) [.agg ⟨wkL S wv vv sv tv⟩, .agg ⟨tarr S u⟩, .int .i64 (v : Int), .int .i64 hh] g = some (.int .i64 (val hh), g)) :
    ∃ h' b, call n (.func (.func 77) #[] #[]) [.agg ⟨[.func (.func G) #[] #[]]⟩, .agg ⟨wkL S wv vv sv tv⟩, .agg ⟨tarr S u⟩, .int .i64 (v : Int)] h = some (.slice (some ⟨b, 0, none⟩) (hoursN S v) (hoursN S v), h') ∧
      Ints h' (.slice (some ⟨b, 0, none⟩) (hoursN S v) (hoursN S v)) (hoursN S v) (fun i => val (S.vb v + (i : Int))) ∧ h.next ≤ b ∧ b < h'.next ∧ (∀ i, i < h.next → h'.get i = h.get i) ∧ h.next ≤ h'.next ∧ h'.next ≤ h.next + 10 ∧ h'.floor = h.floor := by
  obtain ⟨n, rfl⟩ : ∃ p, n = p + 1 := ⟨n - 1, by omega⟩
  rw [Nat.add_sub_cancel] at hV
  suffices hs : ∃ v' h', call (n + 1) (.func (.func 77) #[] #[]) [.agg ⟨[.func (.func G) #[] #[]]⟩, .agg ⟨wkL S wv vv sv tv⟩, .agg ⟨tarr S u⟩, .int .i64 (v : Int)] h = some (v', h') ∧ ∃ b, v' = .slice (some ⟨b, 0, none⟩) (hoursN S v) (hoursN S v) ∧
      Ints h' (.slice (some ⟨b, 0, none⟩) (hoursN S v) (hoursN S v)) (hoursN S v) (fun i => val (S.vb v + (i : Int))) ∧ h.next ≤ b ∧ b < h'.next ∧ (∀ i, i < h.next → h'.get i = h.get i) ∧ h.next ≤ h'.next ∧ h'.next ≤ h.next + 10 ∧ h'.floor = h.floor by
    obtain ⟨v', h', e, b, rfl, q⟩ := hs
    exact ⟨h', b, e, q⟩
  obtain ⟨m1, m2, m3⟩ := hoursN_ok hG hv
  obtain ⟨⟨q1, q2⟩, _⟩ := hG.args.vat v hv
  obtain ⟨z1, z2, _⟩ := hG.sizes
  refine call_any0 fok77 rfl rfl (by simp) ?_
  simp only [s77, W_seq, W_ops]
  refine ops_box (cs := [.func (.func G) #[] #[]]) (by omega) rfl rfl fun g1 hx1 => ?_
  have n1 := hx1.next
  have f1' := hx1.floor
  refine ops_box (cs := wkL S wv vv sv tv) (by omega) rfl (wk_one hy ht) fun g2 hx2 => ?_
  have n2 := hx2.next
  have f2' := hx2.floor
  refine ops_box (cs := tarr S u) (by omega) rfl tarr_one fun g3 hx3 => ?_
  have n3 := hx3.next
  have f3' := hx3.floor
  have r1 := (hx1.row.mono hx2.sub).mono hx3.sub
  have r2 := hx2.row.mono hx3.sub
  have r3 := hx3.row
  have s3 : Sub All h g3 := hx1.sub.trans (hx2.sub.trans hx3.sub)
  have hy3 := hy.mono s3
  have eh := hoursOf_c (n := n) (h := g3) (by omega) (by omega) hy3 ht hG hv
  rw [← m1] at eh
  simp only [rn0, rn1, rn2, reduceIte, Nat.reduceEqDiff, Nat.reduceAdd, Nat.reduceMul, Nat.reduceSub, Nat.reduceLeDiff, Nat.reduceLT, r2.whole (n := 8) rfl, eh, make_ints (m := hoursN S v) (by omega), repl_hour (m := hoursN S v) (val := fun i => val (S.vb v + (i : Int)))]
  refine step_slice (by omega) hourRow_one fun g4 hx4 => ?_
  have n4 := hx4.next
  have f4' := hx4.floor
  have r14 := r1.mono hx4.sub
  have r24 := r2.mono hx4.sub
  have r34 := r3.mono hx4.sub
  have hy4 := hy3.mono hx4.sub
  have eh4 := hoursOf_c (n := n) (h := g4) (by omega) (by omega) hy4 ht hG hv
  rw [← m1] at eh4
  have old4 : ∀ i, i < h.next → g4.get i = h.get i := fun i hi => by rw [hx4.old i (by omega), hx3.old i (by omega), hx2.old i (by omega), hx1.old i hi]
  simp only [rn0, rn1, rn2, reduceIte, Nat.reduceEqDiff, Nat.reduceAdd, Nat.reduceMul, Nat.reduceSub, Nat.reduceLeDiff, Nat.reduceLT, r24.whole (n := 8) rfl, eh4]
  refine W_loop (hoursN S v) (fun k f g ms => ((∀ i, i ≠ g3.next → g.get i = g4.get i) ∧ g.next = g4.next ∧ g.floor = g4.floor ∧ g.get g3.next = some (.row (hourRow (hoursN S v) k (fun i => val (S.vb v + (i : Int)))) true 0)) ∧ ms = [] ∧ f 3 = .int .i64 (v : Int) ∧ f 4 = .pointer (some ⟨h.next, 0, none⟩) ∧ f 5 = .pointer (some ⟨g1.next, 0, none⟩) ∧ f 6 = .pointer (some ⟨g2.next, 0, none⟩) ∧ f 9 = .slice (some ⟨g3.next, 0, none⟩) (hoursN S v) (hoursN S v) ∧ f 17 = .int .i64 (hoursN S v : Int) ∧ f 18 = .int .i64 (k : Int)) (by simp; omega) ?_ ?_ ?_
  · simp only [rn0, rn1, rn2, reduceIte, Nat.reduceEqDiff, Nat.reduceAdd, Nat.reduceMul, Nat.reduceSub, Nat.reduceLeDiff, Nat.reduceLT]
    exact ⟨⟨fun i _ => trivial, hx4.get⟩, rfl⟩
  · rintro k f g ms hk ⟨⟨go, gn, gf, gr⟩, rfl, f3, f4, f5, f6, f9, f17, f18⟩
    have hk' : (k : Int) < (hoursN S v : Int) := by omega
    have hw : wrapF .i64 ((k : Int) + 1) = ((k + 1 : Nat) : Int) := by rw [wrap_in (by omega) (by omega)]; rfl
    have kg : Keep g3.next g4 g := ⟨fun i cs w gr hi hg => by rw [go i hi]; exact hg, by omega, gf⟩
    have r1g := r14.keep kg (by omega)
    have r2g := r24.keep kg (by omega)
    have r3g := r34.keep kg (by omega)
    have oldg : ∀ i, i < h.next → g.get i = h.get i := fun i hi => by rw [go i (by omega), old4 i hi]
    have hyg := hy.mono (AHeap.subOf oldg)
    have ho := hour_at hG hv hk
    have ev := hV g (AHeap.subOf oldg) (by omega) _ ho
    have hwb : wrapF .i64 (S.vb v + (k : Int)) = S.vb v + (k : Int) := wrap_in (by omega) (by omega)
    simp only [rn0, rn1, rn2, reduceIte, Nat.reduceEqDiff, Nat.reduceAdd, Nat.reduceMul, Nat.reduceSub, Nat.reduceLeDiff, Nat.reduceLT, f3, f4, f5, f6, f9, f17, f18, hk']
    refine W_draw All ?_
    simp only [rn0, rn1, rn2, reduceIte, Nat.reduceEqDiff, Nat.reduceAdd, Nat.reduceMul, Nat.reduceSub, Nat.reduceLeDiff, Nat.reduceLT, f3, f4, f5, f6, f9, f17, f18, r1g.ld, r2g.ld, r2g.whole (n := 8) rfl, r3g.whole tarr_len, wkg, Nat.zero_add, List.getElem?_cons_zero, Cells.idx hyg.v hv, Cells.fld hyg.v hv, begin_ld hyg hv, hwb, ev, idxSl_s (s := 1) hk]
    refine up_store (b := g3.next) (off := k * 1) (vs := [.int .i64 (val (S.vb v + (k : Int)))]) rfl gr (by omega) (by omega) rfl rfl rfl (by simp [hourRow]; omega) (fun _ _ => trivial) fun g5 hs5 => ?_
    rw [hourRow_set hk] at hs5
    have n5 := hs5.next
    have f5' := hs5.floor
    simp only [rn0, rn1, rn2, reduceIte, Nat.reduceEqDiff, Nat.reduceAdd, Nat.reduceMul, Nat.reduceSub, Nat.reduceLeDiff, Nat.reduceLT, f3, f4, f5, f6, f9, f17, f18, hw]
    exact ⟨fun i hi => by rw [hs5.old i hi, go i hi], by omega, by omega, hs5.get⟩
  · rintro f g ms ⟨⟨go, gn, gf, gr⟩, rfl, f3, f4, f5, f6, f9, f17, f18⟩
    simp only [rn0, rn1, rn2, reduceIte, Nat.reduceEqDiff, Nat.reduceAdd, Nat.reduceMul, Nat.reduceSub, Nat.reduceLeDiff, Nat.reduceLT, f3, f4, f5, f6, f9, f17, f18, Int.lt_irrefl]
    refine ⟨_, rfl, ?_, by omega, by omega, fun i hi => by rw [go i (by omega), old4 i hi], by omega, by omega, by omega⟩
    have e : hourRow (hoursN S v) (hoursN S v) (fun i => val (S.vb v + (i : Int))) = (List.range (hoursN S v)).map fun i => .int .i64 (val (S.vb v + (i : Int))) := by
      apply List.map_congr_left
      intro i hi
      rw [if_pos (List.mem_range.1 hi)]
    rw [e] at gr
    exact ints_row gr

def NeB (v : Value) (x : Nat) : Prop := ∀ b m c, v = .slice (some b) m c → x ≠ b.block
structure RowIn (B : Nat) (h : AHeap) (v1 v2 r : Value) (m : Nat) (a : Nat → Int) : Prop where
  ints : Ints h r m a
  blk : ∀ x m c, r = .slice (some x) m c → B ≤ x.block ∧ x.block < h.next ∧ NeB v1 x.block ∧ NeB v2 x.block
structure TwoR (B : Nat) (h : AHeap) (v1 v2 : Value) (k1 k2 : Nat) (cnt : Nat → Nat) (q1 q2 : Nat → Nat → Int) (r1 r2 : Nat → Value) : Prop where
  c1 : GrowC B h v1 1 k1 (fun i _ => r1 i)
  c2 : GrowC B h v2 1 k2 (fun i _ => r2 i)
  i1 : ∀ i, i < k1 → RowIn B h v1 v2 (r1 i) (cnt i) (q1 i)
  i2 : ∀ i, i < k2 → RowIn B h v1 v2 (r2 i) (cnt i) (q2 i)
  sep : ∀ x m c, v2 = .slice (some x) m c → NeB v1 x.block
theorem TwoR.nil {B : Nat} {cnt : Nat → Nat} {q1 q2 : Nat → Nat → Int} {r1 r2 : Nat → Value} : TwoR B h nilS nilS 0 0 cnt q1 q2 r1 r2 := ⟨.nil, .nil, fun i hi => by omega, fun i hi => by omega, fun x m c e => by cases e⟩
theorem RowIn.old {B : Nat} {g : AHeap} {v1 v2 r : Value} {m : Nat} {a : Nat → Int} (hr : RowIn B h v1 v2 r m a) (ho : ∀ i, i < h.next → g.get i = h.get i) (hn : h.next ≤ g.next) : RowIn B g v1 v2 r m a :=
  ⟨Cells.mono hr.ints (AHeap.subOf ho), fun x m c e => by obtain ⟨a, b, c, d⟩ := hr.blk x m c e; exact ⟨a, by omega, c, d⟩⟩
theorem TwoR.old {B : Nat} {g : AHeap} {v1 v2 : Value} {k1 k2 : Nat} {cnt : Nat → Nat} {q1 q2 : Nat → Nat → Int} {r1 r2 : Nat → Value} (ht : TwoR B h v1 v2 k1 k2 cnt q1 q2 r1 r2) (ho : ∀ i, i < h.next → g.get i = h.get i) (hn : h.next ≤ g.next) : TwoR B g v1 v2 k1 k2 cnt q1 q2 r1 r2 :=
  ⟨ht.c1.sub (AHeap.subOf ho), ht.c2.sub (AHeap.subOf ho), fun i hi => (ht.i1 i hi).old ho hn, fun i hi => (ht.i2 i hi).old ho hn, ht.sep⟩
theorem TwoR.push {B : Nat} {g1 : AHeap} {v1 v2 l : Value} {k1 k2 : Nat} {cnt : Nat → Nat} {q1 q2 : Nat → Nat → Int} {r1 r2 : Nat → Value} (ht : TwoR B h v1 v2 k1 k2 cnt q1 q2 r1 r2) (hB : h.floor ≤ B) (hf : h.next + 2 < far) (hBn : B ≤ h.next)
    (hl : RowIn B h v1 v2 l (cnt k1) (q1 k1)) (hone : oneCell l = true) (hx : New h g1 [l] 0) (hk : k1 ≤ 100) :
    ∃ v' g2, appendA 1 24 g1 v1 (.slice (some ⟨h.next, 0, none⟩) 1 1) = some (v', g2) ∧ TwoR B g2 v' v2 (k1 + 1) k2 cnt q1 q2 (fun i => if i = k1 then l else r1 i) r2 ∧ g2.next = h.next + 2 ∧ g2.floor = h.floor ∧ (∀ i, i < B → g2.get i = h.get i) := by
  have hnx := hx.next
  have hfl := hx.floor
  have ht1 := ht.old hx.old (by omega)
  have c1' : GrowC B g1 v1 1 k1 (fun i _ => if i = k1 then l else r1 i) := ht1.c1.congr fun k j hk hj => by rw [if_neg (by omega)]
  obtain ⟨v', g2, e, ev, gv, hk2⟩ := c1'.append (bytes := 24) (cap := 1) (by omega) (by omega) (by omega) hx.get rfl (by simp [allB, hone]) (fun j hj => by rw [one_get j hj, if_pos rfl]) (by simp [maxBytes]; omega) (by simp [maxBytes]; omega)
  have n2 := hk2.next
  have f2 := hk2.floor
  have hrow : ∀ {r : Value} {m : Nat} {a : Nat → Int}, RowIn B g1 v1 v2 r m a → (∀ x m c, r = .slice (some x) m c → x.block < g1.next) → RowIn B g2 v' v2 r m a := fun {r m a} hr hlt =>
    ⟨Cells.kept hr.ints hk2 fun x m c e b m' c' e' => (hr.blk x m c e).2.2.1 b m' c' e', fun x m c e => by
      obtain ⟨k1, k2, k3, k4⟩ := hr.blk x m c e
      refine ⟨k1, by omega, fun b m' c' e' => ?_, k4⟩
      rw [ev] at e'; cases e'
      show x.block ≠ g1.next
      omega⟩
  have hlr := hl.old hx.old (by omega)
  refine ⟨v', g2, e, ⟨gv, ?_, fun i hi => ?_, fun i hi => ?_, fun x m c e b m' c' e' => ?_⟩, by omega, by omega, fun i hi => ?_⟩
  · obtain ⟨cs, ⟨rfl, rfl, rfl⟩ | ⟨b, rfl, h2, h3, h4⟩, h5, h6⟩ := ht1.c2
    · exact .nil
    · exact ⟨cs, .inr ⟨b, rfl, by rw [hk2.old b (AHeap.lt_of_get h2) fun x m c e => ht.sep _ _ _ rfl x m c e]; exact h2, h3, h4⟩, h5, h6⟩
  · by_cases e : i = k1
    · subst e; simp only [if_true]
      exact hrow hlr fun x m c e => (hlr.blk x m c e).2.1
    · simp only [e, if_false]
      have := ht1.i1 i (by omega)
      exact hrow this fun x m c e => (this.blk x m c e).2.1
  · have := ht1.i2 i hi
    exact hrow this fun x m c e => (this.blk x m c e).2.1
  · rw [ev] at e'; cases e'
    have := (ht.c2.block e).2
    show x.block ≠ g1.next
    omega
  · rw [hk2.old i (by omega) fun b m c e => by have := (c1'.block e).1; omega, hx.old i (by omega)]
theorem build_meas {G : Nat} : buildA (fun x => (#[(0, 1)] : Array (Nat × Nat))[x]?) ⟨[.nilFunc]⟩ [0] h [.func (.func G) #[] #[]] = some (.agg ⟨[.func (.func G) #[] #[]]⟩, h) := id rfl
theorem sl_list {v : Value} (hv : oneCell v = true) : buildSl 1 1 [.slice none 0 0] [0] h [v] = newSlice h [v] 1 1 0 := sl_one hv

def ThinS (S : MS) : Prop := S.nw ≤ 30 ∧ S.nv ≤ 30 ∧ S.ns ≤ 30
noncomputable instance (S : MS) : Decidable (ThinS S) := Classical.propDecidable _
def s23 : SCode := (.seq (.ops [⟨(some 1), none, .box (T 0)⟩, ⟨(some 2), none, .mov (.const (.bool false))⟩]) (.seq (.ops [⟨(some 3), none, .fieldAddr 2 (T 1)⟩, ⟨(some 4), none, .load1 (T 3)⟩, ⟨(some 5), none, .len (T 4)⟩, ⟨(some 6), none, .int2 .leq (T 5) (.const (.int .i64 (30)))⟩, ⟨(some 7), none, .mov (T 6)⟩, ⟨(some 8), (some (7, true)), .fieldAddr 5 (T 1)⟩, ⟨(some 9), (some (7, true)), .load1 (T 8)⟩, ⟨(some 10), (some (7, true)), .len (T 9)⟩, ⟨(some 11), (some (7, true)), .int2 .leq (T 10) (.const (.int .i64 (30)))⟩, ⟨(some 12), none, .pick (T 7) (T 11) (.const (.bool false))⟩, ⟨(some 13), none, .mov (T 12)⟩, ⟨(some 14), (some (13, true)), .fieldAddr 6 (T 1)⟩, ⟨(some 15), (some (13, true)), .load1 (T 14)⟩, ⟨(some 16), (some (13, true)), .len (T 15)⟩, ⟨(some 17), (some (13, true)), .int2 .leq (T 16) (.const (.int .i64 (30)))⟩, ⟨(some 18), none, .pick (T 13) (T 17) (.const (.bool false))⟩, ⟨(some 2), none, .mov (T 18)⟩]) .ret))
theorem fok23 : FnOk Try.prog 23 19 s23 [.tmp 2] := ⟨Try.f23, _, Try.func23, rfl, Try.ntmps23, by kernel_rfl, by kernel_rfl⟩
theorem thin_c (hn : 1 ≤ n) (hr : h.next < far) {wv vv sv : Value} {S : MS} (hy : SteepR h wv vv sv S) :
    call n (.func (.func 23) #[] #[]) [.agg ⟨stL S wv vv sv⟩] h = some (.bool (decide (ThinS S)), h) := by
  obtain ⟨n, rfl⟩ : ∃ p, n = p + 1 := ⟨n - 1, by omega⟩
  refine call_plain0 fok23 rfl rfl (by simp) rfl ?_
  have hy := hy.shut
  have hr : h.shutAll.next < far := hr
  generalize h.shutAll = h at hy hr
  simp only [s23, W_seq, W_ops]
  refine ops_box (cs := stL S wv vv sv) hr rfl hy.one fun h1 hx => ?_
  have hy := hy.mono hx.sub
  by_cases c1 : (S.nw : Int) ≤ 30
  case neg =>
    have : ¬ ThinS S := fun e => c1 (by have := e.1; omega)
    simp only [rn0, rn1, rn2, reduceIte, Nat.reduceEqDiff, Nat.reduceAdd, Nat.reduceMul, Nat.reduceSub, Nat.reduceLeDiff, Nat.reduceLT, hx.ld, stg, Nat.zero_add, Cells.len hy.w, c1, this]
  by_cases c2 : (S.nv : Int) ≤ 30
  case neg =>
    have : ¬ ThinS S := fun e => c2 (by have := e.2.1; omega)
    simp only [rn0, rn1, rn2, reduceIte, Nat.reduceEqDiff, Nat.reduceAdd, Nat.reduceMul, Nat.reduceSub, Nat.reduceLeDiff, Nat.reduceLT, hx.ld, stg, Nat.zero_add, Cells.len hy.w, c1, Cells.len hy.v, c2, this]
  by_cases c3 : (S.ns : Int) ≤ 30
  · have : ThinS S := ⟨by omega, by omega, by omega⟩
    simp only [rn0, rn1, rn2, reduceIte, Nat.reduceEqDiff, Nat.reduceAdd, Nat.reduceMul, Nat.reduceSub, Nat.reduceLeDiff, Nat.reduceLT, hx.ld, stg, Nat.zero_add, Cells.len hy.w, c1, Cells.len hy.v, c2, Cells.len hy.s, c3, this]
  · have : ¬ ThinS S := fun e => c3 (by have := e.2.2; omega)
    simp only [rn0, rn1, rn2, reduceIte, Nat.reduceEqDiff, Nat.reduceAdd, Nat.reduceMul, Nat.reduceSub, Nat.reduceLeDiff, Nat.reduceLT, hx.ld, stg, Nat.zero_add, Cells.len hy.w, c1, Cells.len hy.v, c2, Cells.len hy.s, c3, this]
def s59 : SCode := (.seq (.ops [⟨(some 1), none, .box (T 0)⟩, ⟨(some 2), none, .mov (.const (.bool false))⟩]) (.seq (.ops [⟨(some 3), none, .loadN 7 (T 1)⟩, ⟨(some 4), none, .call (.func 23) [(T 3)]⟩, ⟨(some 5), none, .mov (T 4)⟩, ⟨(some 6), (some (5, true)), .loadN 7 (T 1)⟩, ⟨(some 7), (some (5, true)), .call (.func 82) [(T 6)]⟩, ⟨(some 8), (some (5, true)), .int2 .eql (T 7) (.const (.int .i64 (0)))⟩, ⟨(some 9), none, .pick (T 5) (T 8) (.const (.bool false))⟩, ⟨(some 2), none, .mov (T 9)⟩]) .ret))
theorem fok59 : FnOk Try.prog 59 10 s59 [.tmp 2] := ⟨Try.f59, _, Try.func59, rfl, Try.ntmps59, by kernel_rfl, by kernel_rfl⟩
theorem ready_c (hn : 130 ≤ n) (hr : h.next + 110 < far) {wv vv sv : Value} {S : MS} (hy : SteepR h wv vv sv S) :
    call n (.func (.func 59) #[] #[]) [.agg ⟨stL S wv vv sv⟩] h = some (.bool (decide (ThinS S ∧ faultS S = 0)), h) := by
  obtain ⟨n, rfl⟩ : ∃ p, n = p + 1 := ⟨n - 1, by omega⟩
  refine call_plain0 fok59 rfl rfl (by simp) rfl ?_
  have hy := hy.shut
  have hr : h.shutAll.next + 110 < far := hr
  generalize h.shutAll = h at hy hr
  simp only [s59, W_seq, W_ops]
  refine ops_box (cs := stL S wv vv sv) (by omega) rfl hy.one fun h1 hx => ?_
  have n1 := hx.next
  have hy := hy.mono hx.sub
  have et := thin_c (n := n) (h := h1) (by omega) (by omega) hy
  by_cases hT : ThinS S
  · have ef := fault_c (n := n) (h := h1) (by omega) (by omega) hy hT
    by_cases hf : faultS S = 0
    · simp only [rn0, rn1, rn2, reduceIte, Nat.reduceEqDiff, Nat.reduceAdd, Nat.reduceMul, Nat.reduceSub, Nat.reduceLeDiff, Nat.reduceLT, hx.row.whole (n := 7) rfl, et, hT, ef, hf, and_self]
    · simp only [rn0, rn1, rn2, reduceIte, Nat.reduceEqDiff, Nat.reduceAdd, Nat.reduceMul, Nat.reduceSub, Nat.reduceLeDiff, Nat.reduceLT, hx.row.whole (n := 7) rfl, et, hT, ef, hf, and_false]
  · simp only [rn0, rn1, rn2, reduceIte, Nat.reduceEqDiff, Nat.reduceAdd, Nat.reduceMul, Nat.reduceSub, Nat.reduceLeDiff, Nat.reduceLT, hx.row.whole (n := 7) rfl, et, hT, false_and]
def s38 : SCode := (.seq (.ops [⟨(some 1), none, .box (T 0)⟩, ⟨(some 2), none, .alloc [(.int .i64 (0)), (.int .i64 (0))]⟩]) (.seq (.ops [⟨(some 3), none, .fieldAddr 0 (T 1)⟩, ⟨(some 4), none, .load1 (T 3)⟩, ⟨(some 5), none, .fieldAddr 1 (T 1)⟩, ⟨(some 6), none, .load1 (T 5)⟩, ⟨(some 7), none, .build #[(0, 1), (1, 1)] [(.int .i64 (0)), (.int .i64 (0))] [0, 1] [(T 4), (T 6)]⟩, ⟨none, none, .store 2 (T 2) (T 7)⟩]) .ret))
theorem fok38 : FnOk Try.prog 38 8 s38 [.cellN 2 2] := ⟨Try.f38, _, Try.func38, rfl, Try.ntmps38, by kernel_rfl, by kernel_rfl⟩
theorem to_c (hn : 1 ≤ n) (hr : h.next + 2 < far) (lo hi : Int) : call n (.func (.func 38) #[] #[]) [.agg ⟨[.int .i64 lo, .int .i64 hi]⟩] h = some (.agg ⟨[.int .i64 lo, .int .i64 hi]⟩, h) := by
  obtain ⟨n, rfl⟩ : ∃ p, n = p + 1 := ⟨n - 1, by omega⟩
  refine call_plain0 fok38 rfl rfl (by simp) rfl ?_
  have hr : h.shutAll.next + 2 < far := hr
  have hfl : h.shutAll.floor ≤ h.shutAll.next := Nat.le_refl _
  generalize h.shutAll = h at hr hfl
  simp only [s38, W_seq, W_ops]
  refine ops_box (cs := [.int .i64 lo, .int .i64 hi]) (by omega) rfl rfl fun h1 hx => ?_
  refine ops_alloc (by rw [hx.next]; omega) rfl fun h2 hx2 => ?_
  have hrow := hx.row.mono hx2.sub
  have hr2 : h2.next ≤ far := by rw [hx2.next, hx.next]; omega
  have hf2 : h2.floor ≤ h1.next := by rw [hx2.floor, hx.floor, hx.next]; omega
  simp only [rn0, rn1, rn2, reduceIte, Nat.reduceEqDiff, Nat.reduceAdd, Nat.reduceMul, Nat.reduceSub, Nat.reduceLeDiff, Nat.reduceLT, hrow.ld, Nat.zero_add, List.getElem?_cons_zero, List.getElem?_cons_succ, build_range]
  refine step_store (vs := [.int .i64 lo, .int .i64 hi]) rfl hx2.get hf2 hr2 rfl rfl rfl (by simp) fun h3 hs => ?_
  rw [splice2] at hs
  simp only [rn0, rn1, rn2, reduceIte, Nat.reduceEqDiff, Nat.reduceAdd, Nat.reduceMul, Nat.reduceSub, Nat.reduceLeDiff, Nat.reduceLT, res_cellN, hs.row.whole (n := 2) rfl]
theorem append_nil {s bytes : Nat} {y : Value} {m : Nat} {new : List Value} (hy : ∃ x k, y = .slice x m k) (hyc : cellsOfSlice h s y = some new) (hnl : new.length = m * s) (hb1 : m * bytes ≤ maxBytes) (hb2 : m ≤ maxBytes) :
    appendA s bytes h (.slice none 0 0) y = if m = 0 then some (.slice none 0 0, h) else newSlice h new m unk s := by
  obtain ⟨a, k, rfl⟩ := hy
  have e1 : Nat.ble ((0 + m) * bytes) maxBytes = true := ble_iff.2 (by rw [Nat.zero_add]; exact hb1)
  have e2 : Nat.ble (0 + m) maxBytes = true := ble_iff.2 (by omega)
  have e3 : Nat.beq (len new) (m * s) = true := by rw [len_eq]; exact beq_iff.2 hnl
  unfold appendA
  simp only [hyc, e1, e2, e3, Bool.and_self, cond_true]
  by_cases hm : m = 0
  · subst hm
    rw [if_pos rfl]
    rfl
  · rw [if_neg hm]
    have e4 : Nat.ble (0 + m) 0 = false := by
      cases hb : Nat.ble (0 + m) 0 with
      | false => rfl
      | true => have := ble_iff.1 hb; omega
    rw [e4, Bool.false_and, cond_false]
    unfold appendGrow
    have e5 : cellsOfSlice h s (.slice none 0 0) = some [] := rfl
    have e6 : Nat.blt 0 unk = true := rfl
    simp only [e5, e6, cond_true, app_eq, List.nil_append, Nat.zero_add]
def s65 : SCode := (.seq (.ops [⟨(some 2), none, .mov (.const (.slice none 0 0))⟩]) (.seq (.ops [⟨(some 3), none, .mov (T 0)⟩, ⟨(some 4), none, .append 1 8 (.const (.slice none 0 0)) (T 3)⟩, ⟨(some 2), none, .mov (T 4)⟩]) .ret))
theorem fok65 : FnOk Try.prog 65 5 s65 [.tmp 2] := ⟨Try.f65, _, Try.func65, rfl, Try.ntmps65, by kernel_rfl, by kernel_rfl⟩
theorem list_c (hn : 1 ≤ n) (hr : h.next + 2 < far) {v : Value} {m : Nat} {a : Nat → Int} (hi : Ints h v m a) (hm : m ≤ 30) :
    ∃ v' h', call n (.func (.func 65) #[] #[]) [v] h = some (v', h') ∧ Ints h' v' m a ∧ oneCell v' = true ∧ (∀ i, i < h.next → h'.get i = h.get i) ∧ h.next ≤ h'.next ∧ h'.next ≤ h.next + 1 ∧ h'.floor = h.floor ∧ (m = 0 ∨ ∃ c, v' = .slice (some ⟨h.next, 0, none⟩) m c ∧ h'.get h.next = some (.row ((List.range m).map fun i => .int .i64 (a i)) true 1)) := by
  obtain ⟨n, rfl⟩ : ∃ p, n = p + 1 := ⟨n - 1, by omega⟩
  refine call_any0 fok65 rfl rfl (by simp) ?_
  obtain ⟨x, k, e1, e2⟩ := Ints.cells hi
  have hap := append_nil (h := h) (s := 1) (bytes := 8) ⟨x, k, e1⟩ e2 (by simp) (by simp [maxBytes]; omega) (by simp [maxBytes]; omega)
  by_cases hz : m = 0
  · rw [if_pos hz] at hap
    simp only [rn0, rn1, rn2, reduceIte, Nat.reduceEqDiff, Nat.reduceAdd, Nat.reduceMul, Nat.reduceSub, Nat.reduceLeDiff, Nat.reduceLT, s65, hap]
    exact ⟨⟨none, 0, by rw [hz], (fun x e => nomatch e), .inl hz⟩, rfl, fun i _ => trivial, by omega, .inl hz⟩
  · rw [if_neg hz] at hap
    simp only [rn0, rn1, rn2, reduceIte, Nat.reduceEqDiff, Nat.reduceAdd, Nat.reduceMul, Nat.reduceSub, Nat.reduceLeDiff, Nat.reduceLT, s65, hap]
    refine step_slice (by omega) (by rw [allB_iff]; intro v hv; obtain ⟨i, _, rfl⟩ := List.mem_map.1 hv; rfl) fun h2 hx2 => ?_
    have n2 := hx2.next
    simp only [rn0, rn1, rn2, reduceIte, Nat.reduceEqDiff, Nat.reduceAdd, Nat.reduceMul, Nat.reduceSub, Nat.reduceLeDiff, Nat.reduceLT]
    exact ⟨ints_row hx2.get, rfl, hx2.old, by omega, by omega, hx2.floor, .inr ⟨_, rfl, hx2.get⟩⟩
theorem build_tr' {x1 x2 : Option Addr} {m1 m2 k1 k2 : Nat} {sp : Int} : buildA (fun x => (#[(0, 1), (1, 1), (2, 1)] : Array (Nat × Nat))[x]?) ⟨[.slice none 0 0, .int .i64 0, .slice none 0 0]⟩ [0, 1, 2] h [.slice x1 m1 k1, .int .i64 sp, .slice x2 m2 k2] = some (.agg ⟨[.slice x1 m1 k1, .int .i64 sp, .slice x2 m2 k2]⟩, h) := id rfl
theorem ints_slice {v : Value} {m : Nat} {a : Nat → Int} (hi : Ints h v m a) : ∃ x k, v = .slice x m k := by
  obtain ⟨x, k, e, _⟩ := hi
  exact ⟨x, k, e⟩
def s27 : SCode := (.seq (.ops [⟨(some 1), none, .box (T 0)⟩, ⟨(some 2), none, .alloc [(.slice none 0 0), (.int .i64 (0)), (.slice none 0 0)]⟩]) (.seq (.draw [⟨.free, ⟨(some 3), none, .fieldAddr 0 (T 1)⟩⟩, ⟨.rd1, ⟨(some 4), none, .load1 (T 3)⟩⟩, ⟨.up, ⟨(some 5), none, .call (.func 65) [(T 4)]⟩⟩, ⟨.free, ⟨(some 6), none, .fieldAddr 1 (T 1)⟩⟩, ⟨.rd, ⟨(some 7), none, .load1 (T 6)⟩⟩, ⟨.free, ⟨(some 8), none, .fieldAddr 2 (T 1)⟩⟩, ⟨.rd, ⟨(some 9), none, .load1 (T 8)⟩⟩, ⟨.up, ⟨(some 10), none, .call (.func 65) [(T 9)]⟩⟩, ⟨.free, ⟨(some 11), none, .build #[(0, 1), (1, 1), (2, 1)] [(.slice none 0 0), (.int .i64 (0)), (.slice none 0 0)] [0, 1, 2] [(T 5), (T 7), (T 10)]⟩⟩, ⟨.any, ⟨none, none, .store 3 (T 2) (T 11)⟩⟩]) .ret))
theorem fok27 : FnOk Try.prog 27 12 s27 [.cellN 2 3] := ⟨Try.f27, _, Try.func27, rfl, Try.ntmps27, by kernel_rfl, by kernel_rfl⟩
theorem truthL_c (hn : 10 ≤ n) (hr : h.next + 20 < far) (hfl : h.floor ≤ h.next) {tw tf : Value} {m1 m2 : Nat} {a1 a2 : Nat → Int} {sp : Int} (ht : TrR h tw tf m1 a1 m2 a2) (h30 : m1 ≤ 30 ∧ m2 ≤ 30) :
    ∃ tw' tf' h', call n (.func (.func 27) #[] #[]) [.agg ⟨trL tw tf sp⟩] h = some (.agg ⟨trL tw' tf' sp⟩, h') ∧ TrR h' tw' tf' m1 a1 m2 a2 ∧ (∀ i, i < h.next → h'.get i = h.get i) ∧ h.next ≤ h'.next ∧ h'.next ≤ h.next + 10 ∧ h'.floor = h.floor := by
  obtain ⟨n, rfl⟩ : ∃ p, n = p + 1 := ⟨n - 1, by omega⟩
  suffices hs : ∃ v h', call (n + 1) (.func (.func 27) #[] #[]) [.agg ⟨trL tw tf sp⟩] h = some (v, h') ∧ ∃ tw' tf', v = .agg ⟨trL tw' tf' sp⟩ ∧ TrR h' tw' tf' m1 a1 m2 a2 ∧ (∀ i, i < h.next → h'.get i = h.get i) ∧ h.next ≤ h'.next ∧ h'.next ≤ h.next + 10 ∧ h'.floor = h.floor by
    obtain ⟨v, h', e, tw', tf', rfl, q⟩ := hs
    exact ⟨tw', tf', h', e, q⟩
  refine call_any0 fok27 rfl rfl (by simp) ?_
  simp only [s27, W_seq, W_ops]
  refine ops_box (cs := trL tw tf sp) (by omega) rfl ht.one fun g1 hx1 => ?_
  have n1 := hx1.next
  have f1' := hx1.floor
  refine ops_alloc (cs := [nilS, .int .i64 0, nilS]) (by omega) rfl fun g2 hx2 => ?_
  have n2 := hx2.next
  have f2' := hx2.floor
  have r1 := hx1.row.mono hx2.sub
  have ht2 := (ht.mono hx1.sub).mono hx2.sub
  obtain ⟨w', g3, e3, i3, o3, old3, u3, nn3, f3', q3⟩ := list_c (n := n) (h := g2) (by omega) (by omega) ht2.w h30.1
  obtain ⟨x', g4, e4, i4, o4, old4, u4, nn4, f4', q4⟩ := list_c (n := n) (h := g3) (by omega) (by omega) (Cells.mono ht2.f (AHeap.subOf old3)) h30.2
  obtain ⟨x1, k1, rfl⟩ := ints_slice i3
  obtain ⟨x2, k2, rfl⟩ := ints_slice i4
  have hg4 : g4.get g1.next = some (.row [nilS, .int .i64 0, nilS] true 0) := by rw [old4 _ (by omega), old3 _ (by omega)]; exact hx2.get
  simp only [rn0, rn1, rn2, reduceIte, Nat.reduceEqDiff, Nat.reduceAdd, Nat.reduceMul, Nat.reduceSub, Nat.reduceLeDiff, Nat.reduceLT]
  refine W_draw All ?_
  simp only [rn0, rn1, rn2, reduceIte, Nat.reduceEqDiff, Nat.reduceAdd, Nat.reduceMul, Nat.reduceSub, Nat.reduceLeDiff, Nat.reduceLT, r1.ld, trg, Nat.zero_add, Cells.self ht2.w, Cells.self ht2.f, eqV_int, e3, e4, build_tr']
  refine ⟨⟨by omega, AHeap.subOf old3⟩, ⟨by omega, (AHeap.subOf old3).trans (AHeap.subOf old4)⟩, ?_⟩
  refine up_store (b := g1.next) (off := 0) (vs := trL (.slice x1 m1 k1) (.slice x2 m2 k2) sp) rfl hg4 (by omega) (by omega) rfl rfl rfl (by simp) (fun _ _ => trivial) fun g5 hs5 => ?_
  rw [splice_all (by rfl)] at hs5
  have n5 := hs5.next
  have f5' := hs5.floor
  simp only [rn0, rn1, rn2, reduceIte, Nat.reduceEqDiff, Nat.reduceAdd, Nat.reduceMul, Nat.reduceSub, Nat.reduceLeDiff, Nat.reduceLT, res_cellN, hs5.row.whole (n := 3) rfl]
  have keepI : ∀ {x : Option Addr} {m k q : Nat} {a : Nat → Int}, Ints g4 (.slice x m k) m a → (m = 0 ∨ ∃ c, Value.slice x m k = .slice (some ⟨q, 0, none⟩) m c) → q ≠ g1.next → Ints g5 (.slice x m k) m a := fun {x m k q a} hi hq hne => by
    rcases hq with h0 | ⟨c, e⟩
    · obtain ⟨a', c', e', hsp, _⟩ := hi
      exact ⟨a', c', e', hsp, .inl h0⟩
    · cases e
      exact Cells.keep hi hs5.keep fun b k c e => by cases e; exact hne
  refine ⟨_, _, rfl, ⟨?_, ?_⟩, fun i hi => by rw [hs5.old i (by omega), old4 i (by omega), old3 i (by omega), hx2.old i (by omega), hx1.old i hi], by omega, by omega, by omega⟩
  · exact keepI (q := g2.next) (Cells.mono i3 (AHeap.subOf old4)) (q3.imp id fun ⟨c, e, _⟩ => ⟨c, e⟩) (by omega)
  · exact keepI (q := g3.next) i4 (q4.imp id fun ⟨c, e, _⟩ => ⟨c, e⟩) (by omega)

theorem grow_push {B k s bytes : Nat} {v : Value} {c : Nat → Nat → Value} {g1 : AHeap} {row : List Value} (hg : GrowC B h v s k c) (hB : h.floor ≤ B) (hf : h.next + 2 < far) (hBn : B ≤ h.next) (hx : New h g1 row 0) (hlen : row.length = s) (hone : allB oneCell row = true) (hn : ∀ j, j < s → row[j]? = some (c k j)) (hb1 : (k + 1) * bytes ≤ maxBytes) (hb2 : k + 1 ≤ maxBytes) :
    ∃ v' g2, appendA s bytes g1 v (.slice (some ⟨h.next, 0, none⟩) 1 1) = some (v', g2) ∧ GrowC B g2 v' s (k + 1) c ∧ oneCell v' = true ∧ g2.next = h.next + 2 ∧ g2.floor = h.floor ∧ (∀ i, i < B → g2.get i = h.get i) ∧ g1.next ≤ g2.next := by
  have hnx := hx.next
  have hfl := hx.floor
  have g1' : GrowC B g1 v s k c := hg.sub hx.sub
  obtain ⟨v', g2, e, ev, gv, hk2⟩ := g1'.append (bytes := bytes) (cap := 1) (by omega) (by omega) (by omega) hx.get hlen hone hn hb1 hb2
  have n2 := hk2.next
  have f2 := hk2.floor
  refine ⟨v', g2, e, gv, gv.one, by omega, by omega, fun i hi => ?_, by omega⟩
  rw [hk2.old i (by omega) fun b m c e => by have := (g1'.block e).1; omega, hx.old i (by omega)]
theorem build_stI {a b c d : Int} : buildA (fun x => (#[(0, 1), (1, 1), (2, 1), (3, 2), (5, 1), (6, 1)] : Array (Nat × Nat))[x]?) ⟨[.int .i64 0, .int .i64 0, .slice none 0 0, .int .i64 0, .int .i64 0, .slice none 0 0, .slice none 0 0]⟩ [0, 1, 3] h [.int .i64 a, .int .i64 b, .agg ⟨[.int .i64 c, .int .i64 d]⟩] = some (.agg ⟨[.int .i64 a, .int .i64 b, .slice none 0 0, .int .i64 c, .int .i64 d, .slice none 0 0, .slice none 0 0]⟩, h) := by
  unfold buildA
  have e : Instr.fill (fun x => (#[(0, 1), (1, 1), (2, 1), (3, 2), (5, 1), (6, 1)] : Array (Nat × Nat))[x]?) #[.int .i64 0, .int .i64 0, .slice none 0 0, .int .i64 0, .int .i64 0, .slice none 0 0, .slice none 0 0] ([0, 1, 3].zip [.int .i64 a, .int .i64 b, .agg ⟨[.int .i64 c, .int .i64 d]⟩]) = some #[.int .i64 a, .int .i64 b, .slice none 0 0, .int .i64 c, .int .i64 d, .slice none 0 0, .slice none 0 0] := by
    simp [Instr.fill, Value.cells]
  rw [e]
theorem cells1 {v : Value} (h : oneCell v = true) : cellList v = [v] := by cases v <;> first | rfl | cases h
theorem build_va {a b c d : Int} : buildA (fun x => (#[(0, 1), (1, 2), (3, 1)] : Array (Nat × Nat))[x]?) ⟨[.int .i64 0, .int .i64 0, .int .i64 0, .int .i64 0]⟩ [0, 1, 2] h [.int .i64 a, .agg ⟨[.int .i64 b, .int .i64 c]⟩, .int .i64 d] = some (.agg ⟨[.int .i64 a, .int .i64 b, .int .i64 c, .int .i64 d]⟩, h) := by
  unfold buildA
  have e : Instr.fill (fun x => (#[(0, 1), (1, 2), (3, 1)] : Array (Nat × Nat))[x]?) #[.int .i64 0, .int .i64 0, .int .i64 0, .int .i64 0] ([0, 1, 2].zip [.int .i64 a, .agg ⟨[.int .i64 b, .int .i64 c]⟩, .int .i64 d]) = some #[.int .i64 a, .int .i64 b, .int .i64 c, .int .i64 d] := by
    simp [Instr.fill, Value.cells]
  rw [e]
theorem build_sm {a b c : Int} : buildA (fun x => (#[(0, 1), (1, 1), (2, 1)] : Array (Nat × Nat))[x]?) ⟨[.int .i64 0, .int .i64 0, .int .i64 0]⟩ [0, 1, 2] h [.int .i64 a, .int .i64 b, .int .i64 c] = some (.agg ⟨[.int .i64 a, .int .i64 b, .int .i64 c]⟩, h) := by
  unfold buildA
  have e : Instr.fill (fun x => (#[(0, 1), (1, 1), (2, 1)] : Array (Nat × Nat))[x]?) #[.int .i64 0, .int .i64 0, .int .i64 0] ([0, 1, 2].zip [.int .i64 a, .int .i64 b, .int .i64 c]) = some #[.int .i64 a, .int .i64 b, .int .i64 c] := by
    simp [Instr.fill, Value.cells]
  rw [e]
theorem sl_va {a b c d : Int} : buildSl 4 1 [.int .i64 0, .int .i64 0, .int .i64 0, .int .i64 0] [0] h [.agg ⟨[.int .i64 a, .int .i64 b, .int .i64 c, .int .i64 d]⟩] = newSlice h [.int .i64 a, .int .i64 b, .int .i64 c, .int .i64 d] 1 1 0 := by
  unfold buildSl
  have e : Instr.fill (fun i => some (i * 4, 4)) ⟨repl [Value.int .i64 0, .int .i64 0, .int .i64 0, .int .i64 0] 1⟩ ([0].zip [.agg ⟨[.int .i64 a, .int .i64 b, .int .i64 c, .int .i64 d]⟩]) = some #[.int .i64 a, .int .i64 b, .int .i64 c, .int .i64 d] := by
    simp [Instr.fill, Value.cells, repl, app_eq]
  rw [e]
theorem splice_at {l : List Value} {o : Nat} {v w : Value} (h : o < l.length) : (splice l o [v])[o]? = some v := by
  simp [splice, List.getElem?_append_right, Nat.min_eq_left (Nat.le_of_lt h)]
theorem sp2 {a b c d e f g x : Value} : splice [a, b, c, d, e, f, g] 2 [x] = [a, b, x, d, e, f, g] := rfl
theorem sp5 {a b c d e f g x : Value} : splice [a, b, c, d, e, f, g] 5 [x] = [a, b, c, d, e, x, g] := rfl
theorem sp6 {a b c d e f g x : Value} : splice [a, b, c, d, e, f, g] 6 [x] = [a, b, c, d, e, f, x] := rfl
abbrev stV (a b w c d v s : Value) : List Value := [a, b, w, c, d, v, s]
def s26 : SCode := (.seq (.ops [⟨(some 1), none, .box (T 0)⟩, ⟨(some 2), none, .alloc [(.int .i64 (0)), (.int .i64 (0)), (.slice none 0 0), (.int .i64 (0)), (.int .i64 (0)), (.slice none 0 0), (.slice none 0 0)]⟩]) (.seq (.draw [⟨.free, ⟨(some 9), none, .fieldAddr 0 (T 1)⟩⟩, ⟨.rd, ⟨(some 10), none, .load1 (T 9)⟩⟩, ⟨.free, ⟨(some 11), none, .fieldAddr 1 (T 1)⟩⟩, ⟨.rd, ⟨(some 12), none, .load1 (T 11)⟩⟩, ⟨.free, ⟨(some 13), none, .fieldAddr 3 (T 1)⟩⟩, ⟨.rd1, ⟨(some 14), none, .loadN 2 (T 13)⟩⟩, ⟨.up, ⟨(some 15), none, .call (.func 38) [(T 14)]⟩⟩, ⟨.free, ⟨(some 16), none, .build #[(0, 1), (1, 1), (2, 1), (3, 2), (5, 1), (6, 1)] [(.int .i64 (0)), (.int .i64 (0)), (.slice none 0 0), (.int .i64 (0)), (.int .i64 (0)), (.slice none 0 0), (.slice none 0 0)] [0, 1, 3] [(T 10), (T 12), (T 15)]⟩⟩, ⟨.up, ⟨(some 3), none, .alloc [(.int .i64 (0)), (.int .i64 (0)), (.slice none 0 0), (.int .i64 (0)), (.int .i64 (0)), (.slice none 0 0), (.slice none 0 0)]⟩⟩, ⟨.any, ⟨none, none, .store 7 (T 3) (T 16)⟩⟩]) (.seq (.seq (.ops [⟨(some 4), none, .mov (.const (.int .i64 (0)))⟩]) (.block 0 (.loop (.seq (.seq (.ops [⟨(some 17), none, .mov (T 4)⟩, ⟨(some 18), none, .fieldAddr 2 (T 1)⟩, ⟨(some 19), none, .load1 (T 18)⟩, ⟨(some 20), none, .len (T 19)⟩, ⟨(some 21), none, .int2 .lss (T 17) (T 20)⟩]) (.cond (T 21) .skip (.exit 0))) (.seq (.block 1 (.draw [⟨.free, ⟨(some 24), none, .fieldAddr 2 (T 3)⟩⟩, ⟨.rd, ⟨(some 25), none, .load1 (T 24)⟩⟩, ⟨.free, ⟨(some 26), none, .fieldAddr 2 (T 1)⟩⟩, ⟨.rd1, ⟨(some 27), none, .load1 (T 26)⟩⟩, ⟨.free, ⟨(some 28), none, .mov (T 4)⟩⟩, ⟨.free, ⟨(some 29), none, .idxSl 2 (T 27) (T 28)⟩⟩, ⟨.rd1, ⟨(some 30), none, .loadN 2 (T 29)⟩⟩, ⟨.up, ⟨(some 31), none, .call (.func 38) [(T 30)]⟩⟩, ⟨.up, ⟨(some 32), none, .bslice 2 1 [(.int .i64 (0)), (.int .i64 (0))] [0] [(T 31)]⟩⟩, ⟨.any, ⟨(some 33), none, .append 2 16 (T 25) (T 32)⟩⟩, ⟨.free, ⟨(some 34), none, .fieldAddr 2 (T 3)⟩⟩, ⟨.any, ⟨none, none, .store 1 (T 34) (T 33)⟩⟩])) (.ops [⟨(some 22), none, .mov (T 4)⟩, ⟨(some 23), none, .int2 .add (T 22) (.const (.int .i64 (1)))⟩, ⟨(some 4), none, .mov (T 23)⟩])))))) (.seq (.seq (.ops [⟨(some 5), none, .mov (.const (.int .i64 (0)))⟩]) (.block 2 (.loop (.seq (.seq (.ops [⟨(some 35), none, .mov (T 5)⟩, ⟨(some 36), none, .fieldAddr 5 (T 1)⟩, ⟨(some 37), none, .load1 (T 36)⟩, ⟨(some 38), none, .len (T 37)⟩, ⟨(some 39), none, .int2 .lss (T 35) (T 38)⟩]) (.cond (T 39) .skip (.exit 2))) (.seq (.block 3 (.seq (.ops [⟨(some 42), none, .fieldAddr 5 (T 1)⟩, ⟨(some 43), none, .load1 (T 42)⟩, ⟨(some 44), none, .mov (T 5)⟩, ⟨(some 45), none, .idxSl 4 (T 43) (T 44)⟩, ⟨(some 46), none, .loadN 4 (T 45)⟩, ⟨(some 6), none, .alloc [(.int .i64 (0)), (.int .i64 (0)), (.int .i64 (0)), (.int .i64 (0))]⟩, ⟨none, none, .store 4 (T 6) (T 46)⟩]) (.draw [⟨.free, ⟨(some 47), none, .fieldAddr 5 (T 3)⟩⟩, ⟨.rd, ⟨(some 48), none, .load1 (T 47)⟩⟩, ⟨.free, ⟨(some 49), none, .fieldAddr 0 (T 6)⟩⟩, ⟨.rd, ⟨(some 50), none, .load1 (T 49)⟩⟩, ⟨.free, ⟨(some 51), none, .fieldAddr 1 (T 6)⟩⟩, ⟨.rd1, ⟨(some 52), none, .loadN 2 (T 51)⟩⟩, ⟨.up, ⟨(some 53), none, .call (.func 38) [(T 52)]⟩⟩, ⟨.free, ⟨(some 54), none, .fieldAddr 3 (T 6)⟩⟩, ⟨.rd, ⟨(some 55), none, .load1 (T 54)⟩⟩, ⟨.free, ⟨(some 56), none, .build #[(0, 1), (1, 2), (3, 1)] [(.int .i64 (0)), (.int .i64 (0)), (.int .i64 (0)), (.int .i64 (0))] [0, 1, 2] [(T 50), (T 53), (T 55)]⟩⟩, ⟨.up, ⟨(some 57), none, .bslice 4 1 [(.int .i64 (0)), (.int .i64 (0)), (.int .i64 (0)), (.int .i64 (0))] [0] [(T 56)]⟩⟩, ⟨.any, ⟨(some 58), none, .append 4 32 (T 48) (T 57)⟩⟩, ⟨.free, ⟨(some 59), none, .fieldAddr 5 (T 3)⟩⟩, ⟨.any, ⟨none, none, .store 1 (T 59) (T 58)⟩⟩]))) (.ops [⟨(some 40), none, .mov (T 5)⟩, ⟨(some 41), none, .int2 .add (T 40) (.const (.int .i64 (1)))⟩, ⟨(some 5), none, .mov (T 41)⟩])))))) (.seq (.seq (.ops [⟨(some 7), none, .mov (.const (.int .i64 (0)))⟩]) (.block 4 (.loop (.seq (.seq (.ops [⟨(some 60), none, .mov (T 7)⟩, ⟨(some 61), none, .fieldAddr 6 (T 1)⟩, ⟨(some 62), none, .load1 (T 61)⟩, ⟨(some 63), none, .len (T 62)⟩, ⟨(some 64), none, .int2 .lss (T 60) (T 63)⟩]) (.cond (T 64) .skip (.exit 4))) (.seq (.block 5 (.seq (.ops [⟨(some 67), none, .fieldAddr 6 (T 1)⟩, ⟨(some 68), none, .load1 (T 67)⟩, ⟨(some 69), none, .mov (T 7)⟩, ⟨(some 70), none, .idxSl 3 (T 68) (T 69)⟩, ⟨(some 71), none, .loadN 3 (T 70)⟩, ⟨(some 8), none, .alloc [(.int .i64 (0)), (.int .i64 (0)), (.int .i64 (0))]⟩, ⟨none, none, .store 3 (T 8) (T 71)⟩]) (.ops [⟨(some 72), none, .fieldAddr 6 (T 3)⟩, ⟨(some 73), none, .load1 (T 72)⟩, ⟨(some 74), none, .fieldAddr 0 (T 8)⟩, ⟨(some 75), none, .load1 (T 74)⟩, ⟨(some 76), none, .fieldAddr 1 (T 8)⟩, ⟨(some 77), none, .load1 (T 76)⟩, ⟨(some 78), none, .fieldAddr 2 (T 8)⟩, ⟨(some 79), none, .load1 (T 78)⟩, ⟨(some 80), none, .build #[(0, 1), (1, 1), (2, 1)] [(.int .i64 (0)), (.int .i64 (0)), (.int .i64 (0))] [0, 1, 2] [(T 75), (T 77), (T 79)]⟩, ⟨(some 81), none, .bslice 3 1 [(.int .i64 (0)), (.int .i64 (0)), (.int .i64 (0))] [0] [(T 80)]⟩, ⟨(some 82), none, .append 3 24 (T 73) (T 81)⟩, ⟨(some 83), none, .fieldAddr 6 (T 3)⟩, ⟨none, none, .store 1 (T 83) (T 82)⟩]))) (.ops [⟨(some 65), none, .mov (T 7)⟩, ⟨(some 66), none, .int2 .add (T 65) (.const (.int .i64 (1)))⟩, ⟨(some 7), none, .mov (T 66)⟩])))))) (.seq (.ops [⟨(some 84), none, .loadN 7 (T 3)⟩, ⟨none, none, .store 7 (T 2) (T 84)⟩]) .ret))))))
theorem fok26 : FnOk Try.prog 26 85 s26 [.cellN 2 7] := ⟨Try.f26, _, Try.func26, rfl, Try.ntmps26, by kernel_rfl, by kernel_rfl⟩
set_option maxHeartbeats 1000000 in
theorem steepL_c (hn : 100 ≤ n) (hr : h.next + 500 < far) (hfl : h.floor ≤ h.next) {wv vv sv : Value} {S : MS} (hy : SteepR h wv vv sv S) (hT : ThinS S) :
    ∃ wv' vv' sv' h', call n (.func (.func 26) #[] #[]) [.agg ⟨stL S wv vv sv⟩] h = some (.agg ⟨stL S wv' vv' sv'⟩, h') ∧ SteepR h' wv' vv' sv' S ∧ (∀ i, i < h.next → h'.get i = h.get i) ∧ h.next ≤ h'.next ∧ h'.next ≤ h.next + 400 ∧ h'.floor = h.floor := by
  obtain ⟨n, rfl⟩ : ∃ p, n = p + 1 := ⟨n - 1, by omega⟩
  obtain ⟨t1, t2, t3⟩ := hT
  suffices hs : ∃ v h', call (n + 1) (.func (.func 26) #[] #[]) [.agg ⟨stL S wv vv sv⟩] h = some (v, h') ∧ ∃ wv' vv' sv', v = .agg ⟨stL S wv' vv' sv'⟩ ∧ SteepR h' wv' vv' sv' S ∧ (∀ i, i < h.next → h'.get i = h.get i) ∧ h.next ≤ h'.next ∧ h'.next ≤ h.next + 400 ∧ h'.floor = h.floor by
    obtain ⟨v, h', e, a, b, c, rfl, q⟩ := hs
    exact ⟨a, b, c, h', e, q⟩
  refine call_any0 fok26 rfl rfl (by simp) ?_
  simp only [s26, W_seq, W_ops]
  refine ops_box (cs := stL S wv vv sv) (by omega) rfl hy.one fun g1 hx1 => ?_
  have n1 := hx1.next
  have f1' := hx1.floor
  refine ops_alloc (cs := stV (.int .i64 0) (.int .i64 0) nilS (.int .i64 0) (.int .i64 0) nilS nilS) (by omega) rfl fun g2 hx2 => ?_
  have n2 := hx2.next
  have f2' := hx2.floor
  have r1 := hx1.row.mono hx2.sub
  have old2 : ∀ i, i < h.next → g2.get i = h.get i := fun i hi => by rw [hx2.old i (by omega), hx1.old i hi]
  have et := to_c (n := n) (h := g2) (by omega) (by omega) S.splo S.sphi
  simp only [rn0, rn1, rn2, reduceIte, Nat.reduceEqDiff, Nat.reduceAdd, Nat.reduceMul, Nat.reduceSub, Nat.reduceLeDiff, Nat.reduceLT]
  refine W_draw All ?_
  simp only [rn0, rn1, rn2, reduceIte, Nat.reduceEqDiff, Nat.reduceAdd, Nat.reduceMul, Nat.reduceSub, Nat.reduceLeDiff, Nat.reduceLT, r1.ld, stg, st_rng r1, Nat.zero_add, eqV_int, et, build_stI]
  refine up_row (cs := stV (.int .i64 0) (.int .i64 0) nilS (.int .i64 0) (.int .i64 0) nilS nilS) (by omega) rfl rfl (fun g3 hx => hx.sub) fun g3 hx3 => ?_
  have n3 := hx3.next
  have f3' := hx3.floor
  simp only [rn0, rn1, rn2, reduceIte, Nat.reduceEqDiff, Nat.reduceAdd, Nat.reduceMul, Nat.reduceSub, Nat.reduceLeDiff, Nat.reduceLT]
  refine up_store (b := g2.next) (off := 0) (vs := stV (.int .i64 S.last) (.int .i64 S.per) nilS (.int .i64 S.splo) (.int .i64 S.sphi) nilS nilS) rfl hx3.get (by omega) (by omega) rfl rfl rfl (by simp) (fun _ _ => trivial) fun g4 hs4 => ?_
  rw [splice_all (by rfl)] at hs4
  have n4 := hs4.next
  have f4' := hs4.floor
  have old4 : ∀ i, i < g2.next → g4.get i = g2.get i := fun i hi => by rw [hs4.old i (by omega), hx3.old i hi]
  have hm1 : g4.get g1.next = g2.get g1.next := old4 _ (by omega)
  simp only [rn0, rn1, rn2, reduceIte, Nat.reduceEqDiff, Nat.reduceAdd, Nat.reduceMul, Nat.reduceSub, Nat.reduceLeDiff, Nat.reduceLT]
  -- the warmth of the hours
  refine W_loop S.nw (fun k f g ms => (∃ v, (∀ i, i < g2.next → g.get i = g4.get i) ∧ g.floor = h.floor ∧ g4.next ≤ g.next ∧ g.next ≤ g4.next + 3 * k ∧ GrowC g4.next g v 2 k (fun k j => .int .i64 (if j = 0 then S.wlo k else S.whi k)) ∧ g.get g2.next = some (.row (stV (.int .i64 S.last) (.int .i64 S.per) v (.int .i64 S.splo) (.int .i64 S.sphi) nilS nilS) true 0)) ∧ ms = [] ∧ f 1 = .pointer (some ⟨h.next, 0, none⟩) ∧ f 2 = .pointer (some ⟨g1.next, 0, none⟩) ∧ f 3 = .pointer (some ⟨g2.next, 0, none⟩) ∧ f 4 = .int .i64 (k : Int)) (by simp; omega) ?_ ?_ ?_
  · simp only [rn0, rn1, rn2, reduceIte, Nat.reduceEqDiff, Nat.reduceAdd, Nat.reduceMul, Nat.reduceSub, Nat.reduceLeDiff, Nat.reduceLT]
    exact ⟨⟨nilS, fun i _ => trivial, by omega, by omega, .nil, hs4.get⟩, rfl⟩
  · rintro k f g ms hk ⟨⟨v, hs, hfg, hup, hnx, gv, grow⟩, rfl, p1, p2, p3, p4⟩
    have hk' : (k : Int) < (S.nw : Int) := by omega
    have hw : wrapF .i64 ((k : Int) + 1) = ((k + 1 : Nat) : Int) := by rw [wrap_in (by omega) (by omega)]; rfl
    have oldg : ∀ i, i < h.next → g.get i = h.get i := fun i hi => by rw [hs i (by omega), old4 i (by omega), old2 i hi]
    have hyg := hy.mono (AHeap.subOf oldg)
    have rg : Row g h.next (stL S wv vv sv) := r1.mono fun i cs w gr _ e => by rw [hs i (by have := AHeap.lt_of_get e; omega), old4 i (AHeap.lt_of_get e)]; exact e
    have r3g : Row g g2.next _ := ⟨_, _, grow⟩
    have et := to_c (n := n) (h := g) (by omega) (by omega) (S.wlo k) (S.whi k)
    simp only [rn0, rn1, rn2, reduceIte, Nat.reduceEqDiff, Nat.reduceAdd, Nat.reduceMul, Nat.reduceSub, Nat.reduceLeDiff, Nat.reduceLT, p1, p2, p3, p4, rg.ld, stg, Nat.zero_add, Cells.len hyg.w, hk']
    refine W_draw All ?_
    simp only [rn0, rn1, rn2, reduceIte, Nat.reduceEqDiff, Nat.reduceAdd, Nat.reduceMul, Nat.reduceSub, Nat.reduceLeDiff, Nat.reduceLT, p1, p2, p3, p4, rg.ld, r3g.ld, stg, Nat.zero_add, List.getElem?_cons_zero, List.getElem?_cons_succ, gv.cells.self, Cells.idx hyg.w hk, ranges_ld hyg.w hk, et, sl_range]
    refine up_slice (by omega) rfl (fun g5 hx => hx.sub) fun g5 hx5 => ?_
    have n5 := hx5.next
    obtain ⟨v', g6, e6, gv6, o6, n6, f6, old6, u6⟩ := grow_push (h := g) (bytes := 16) gv (by omega) (by omega) (by omega) hx5 rfl rfl (fun j hj => by
      obtain rfl | rfl : j = 0 ∨ j = 1 := by omega
      all_goals rfl) (by simp [maxBytes]; omega) (by simp [maxBytes]; omega)
    simp only [rn0, rn1, rn2, reduceIte, Nat.reduceEqDiff, Nat.reduceAdd, Nat.reduceMul, Nat.reduceSub, Nat.reduceLeDiff, Nat.reduceLT, p1, p2, p3, p4, e6]
    refine ⟨by omega, ?_⟩
    refine up_store (b := g2.next) (off := 2) (vs := [v']) rfl (by rw [old6 _ (by omega)]; exact grow) (by omega) (by omega) (cells1 o6) (by simp [allB, o6]) rfl (by simp) (fun _ _ => trivial) fun g7 hs7 => ?_
    rw [sp2] at hs7
    have n7 := hs7.next
    have f7 := hs7.floor
    simp only [rn0, rn1, rn2, reduceIte, Nat.reduceEqDiff, Nat.reduceAdd, Nat.reduceMul, Nat.reduceSub, Nat.reduceLeDiff, Nat.reduceLT, p1, p2, p3, p4, hw]
    exact ⟨v', fun i hi => by rw [hs7.old i (by omega), old6 i (by omega), hs i hi], by omega, by omega, by omega, gv6.keep hs7.keep (by omega), hs7.get⟩
  rintro f g ms ⟨⟨w', hs, hfg, hup, hnx, gvw, grow⟩, rfl, p1, p2, p3, p4⟩
  have oldg : ∀ i, i < h.next → g.get i = h.get i := fun i hi => by rw [hs i (by omega), old4 i (by omega), old2 i hi]
  have hyg := hy.mono (AHeap.subOf oldg)
  have rg : Row g h.next (stL S wv vv sv) := r1.mono fun i cs w gr _ e => by rw [hs i (by have := AHeap.lt_of_get e; omega), old4 i (AHeap.lt_of_get e)]; exact e
  have hm2 : g.get g1.next = g2.get g1.next := by rw [hs _ (by omega), hm1]
  have bw : ∀ x k q, w' = .slice (some x) k q → x.block < g.next := fun x k q e => (gvw.block e).2
  have bw2 : ∀ x k q, w' = .slice (some x) k q → g2.next ≠ x.block := fun x k q e => by have := (gvw.block e).1; omega
  have bwl : ∀ x k q, w' = .slice (some x) k q → g4.next ≤ x.block := fun x k q e => (gvw.block e).1
  have cw := gvw.cells
  have ow := gvw.one
  clear gvw hs
  have e4 : g2.next < g.next := by omega
  simp only [rn0, rn1, rn2, reduceIte, Nat.reduceEqDiff, Nat.reduceAdd, Nat.reduceMul, Nat.reduceSub, Nat.reduceLeDiff, Nat.reduceLT, p1, p2, p3, p4, rg.ld, stg, Nat.zero_add, Cells.len hyg.w, Int.lt_irrefl]
  -- the vats
  refine W_loop S.nv (fun k f g' ms => (∃ v, (∀ i, i < g.next → i ≠ g2.next → g'.get i = g.get i) ∧ g'.floor = h.floor ∧ g.next ≤ g'.next ∧ g'.next ≤ g.next + 3 * k ∧ GrowC g.next g' v 4 k (vatC S) ∧ g'.get g2.next = some (.row (stV (.int .i64 S.last) (.int .i64 S.per) w' (.int .i64 S.splo) (.int .i64 S.sphi) v nilS) true 0)) ∧ ms = [] ∧ f 1 = .pointer (some ⟨h.next, 0, none⟩) ∧ f 2 = .pointer (some ⟨g1.next, 0, none⟩) ∧ f 3 = .pointer (some ⟨g2.next, 0, none⟩) ∧ f 5 = .int .i64 (k : Int)) (by simp; omega) ?_ ?_ ?_
  · simp only [rn0, rn1, rn2, reduceIte, Nat.reduceEqDiff, Nat.reduceAdd, Nat.reduceMul, Nat.reduceSub, Nat.reduceLeDiff, Nat.reduceLT, p1, p2, p3]
    exact ⟨⟨nilS, fun i _ _ => trivial, hfg, by omega, .nil, grow⟩, rfl⟩
  · rintro k f g' ms hk ⟨⟨v, hs, hfg', hup', hnx', gv, grow'⟩, rfl, p1, p2, p3, p5⟩
    have hk' : (k : Int) < (S.nv : Int) := by omega
    have hw : wrapF .i64 ((k : Int) + 1) = ((k + 1 : Nat) : Int) := by rw [wrap_in (by omega) (by omega)]; rfl
    have oldg' : ∀ i, i < h.next → g'.get i = h.get i := fun i hi => by rw [hs i (by omega) (by omega), oldg i hi]
    have hyg' := hy.mono (AHeap.subOf oldg')
    have rg' : Row g' h.next (stL S wv vv sv) := by obtain ⟨w, gr, e⟩ := rg; exact ⟨w, gr, by rw [hs _ (by omega) (by omega)]; exact e⟩
    have r3g : Row g' g2.next _ := ⟨_, _, grow'⟩
    simp only [rn0, rn1, rn2, reduceIte, Nat.reduceEqDiff, Nat.reduceAdd, Nat.reduceMul, Nat.reduceSub, Nat.reduceLeDiff, Nat.reduceLT, p1, p2, p3, p5, rg'.ld, stg, Nat.zero_add, Cells.len hyg'.v, hk', Cells.idx hyg'.v hk, vat_ld hyg' hk]
    refine step_new (vs := [.int .i64 (S.vb k), .int .i64 (S.vlo k), .int .i64 (S.vhi k), .int .i64 (S.vn k)]) (by omega) (by omega) rfl (by simp only [rn0, rn1, rn2, reduceIte, Nat.reduceEqDiff, Nat.reduceAdd, Nat.reduceMul, Nat.reduceSub, Nat.reduceLeDiff, Nat.reduceLT]; rfl) rfl rfl rfl fun g5 hx5 => ?_
    have n5 := hx5.next
    have f5 := hx5.floor
    have r35 := r3g.mono hx5.sub
    have gv5 := gv.sub hx5.sub
    have et := to_c (n := n) (h := g5) (by omega) (by omega) (S.vlo k) (S.vhi k)
    simp only [rn0, rn1, rn2, reduceIte, Nat.reduceEqDiff, Nat.reduceAdd, Nat.reduceMul, Nat.reduceSub, Nat.reduceLeDiff, Nat.reduceLT]
    refine W_draw All ?_
    simp only [rn0, rn1, rn2, reduceIte, Nat.reduceEqDiff, Nat.reduceAdd, Nat.reduceMul, Nat.reduceSub, Nat.reduceLeDiff, Nat.reduceLT, p1, p2, p3, p5, r35.ld, hx5.ld, hx5.ldN 1 2 (by simp) (by simp), List.drop_succ_cons, List.drop_zero, List.take_succ_cons, List.take_zero, Nat.zero_add, List.getElem?_cons_zero, List.getElem?_cons_succ, eqV_int, gv5.cells.self, et, build_va, sl_va]
    refine up_slice (by omega) rfl (fun g6 hx => hx.sub) fun g6 hx6 => ?_
    have n6 := hx6.next
    obtain ⟨v', g7, e7, gv7, o7, n7, f7, old7, u7⟩ := grow_push (h := g5) (bytes := 32) gv5 (by omega) (by omega) (by omega) hx6 rfl rfl (fun j hj => by
      obtain rfl | rfl | rfl | rfl : j = 0 ∨ j = 1 ∨ j = 2 ∨ j = 3 := by omega
      all_goals rfl) (by simp [maxBytes]; omega) (by simp [maxBytes]; omega)
    simp only [rn0, rn1, rn2, reduceIte, Nat.reduceEqDiff, Nat.reduceAdd, Nat.reduceMul, Nat.reduceSub, Nat.reduceLeDiff, Nat.reduceLT, p1, p2, p3, e7]
    refine ⟨by omega, ?_⟩
    refine up_store (b := g2.next) (off := 5) (vs := [v']) rfl (by rw [old7 _ (by omega), hx5.old _ (by omega)]; exact grow') (by omega) (by omega) (cells1 o7) (by simp [allB, o7]) rfl (by simp) (fun _ _ => trivial) fun g8 hs8 => ?_
    rw [sp5] at hs8
    have n8 := hs8.next
    have f8 := hs8.floor
    simp only [rn0, rn1, rn2, reduceIte, Nat.reduceEqDiff, Nat.reduceAdd, Nat.reduceMul, Nat.reduceSub, Nat.reduceLeDiff, Nat.reduceLT, p1, p2, p3, p5, hw]
    exact ⟨v', fun i hi hne => by rw [hs8.old i hne, old7 i hi, hx5.old i (by omega), hs i hi hne], by omega, by omega, by omega, gv7.keep hs8.keep (by omega), hs8.get⟩
  rintro f ga ms ⟨⟨v', hsa, hfa, hupa, hnxa, gva, growa⟩, rfl, p1, p2, p3, p5⟩
  have olda : ∀ i, i < h.next → ga.get i = h.get i := fun i hi => by rw [hsa i (by omega) (by omega), oldg i hi]
  have hya := hy.mono (AHeap.subOf olda)
  have rga : Row ga h.next (stL S wv vv sv) := by obtain ⟨w, gr, e⟩ := rg; exact ⟨w, gr, by rw [hsa _ (by omega) (by omega)]; exact e⟩
  have hm3 : ga.get g1.next = g2.get g1.next := by rw [hsa _ (by omega) (by omega), hm2]
  have cwa : Ranges ga w' S.nw S.wlo S.whi := by
    obtain ⟨a, cap, rfl, hsp, h0 | ⟨b, o, cs, w, gr, rfl, h1, h2⟩⟩ := cw
    · exact ⟨a, cap, rfl, hsp, .inl h0⟩
    · exact ⟨_, cap, rfl, hsp, .inr ⟨b, o, cs, w, gr, rfl, by rw [hsa b (bw _ _ _ rfl) (fun e => bw2 _ _ _ rfl e.symm)]; exact h1, h2⟩⟩
  have bv : ∀ x k q, v' = .slice (some x) k q → x.block < ga.next := fun x k q e => (gva.block e).2
  have bv2 : ∀ x k q, v' = .slice (some x) k q → g2.next ≠ x.block := fun x k q e => by have := (gva.block e).1; omega
  have bvl : ∀ x k q, v' = .slice (some x) k q → g.next ≤ x.block := fun x k q e => (gva.block e).1
  have cv := gva.cells
  have ov := gva.one
  clear gva hsa cw
  have e5 : g2.next < ga.next := by omega
  simp only [rn0, rn1, rn2, reduceIte, Nat.reduceEqDiff, Nat.reduceAdd, Nat.reduceMul, Nat.reduceSub, Nat.reduceLeDiff, Nat.reduceLT, p1, p2, p3, p5, rga.ld, stg, Nat.zero_add, Cells.len hya.v, Int.lt_irrefl]
  -- the smells
  refine W_loop S.ns (fun k f g' ms => (∃ v, (∀ i, i < ga.next → i ≠ g2.next → g'.get i = ga.get i) ∧ g'.floor = h.floor ∧ ga.next ≤ g'.next ∧ g'.next ≤ ga.next + 3 * k ∧ GrowC ga.next g' v 3 k (fun k j => .int .i64 (if j = 0 then S.sv k else if j = 1 then S.sh k else S.sk k)) ∧ g'.get g2.next = some (.row (stV (.int .i64 S.last) (.int .i64 S.per) w' (.int .i64 S.splo) (.int .i64 S.sphi) v' v) true 0)) ∧ ms = [] ∧ f 1 = .pointer (some ⟨h.next, 0, none⟩) ∧ f 2 = .pointer (some ⟨g1.next, 0, none⟩) ∧ f 3 = .pointer (some ⟨g2.next, 0, none⟩) ∧ f 7 = .int .i64 (k : Int)) (by simp; omega) ?_ ?_ ?_
  · simp only [rn0, rn1, rn2, reduceIte, Nat.reduceEqDiff, Nat.reduceAdd, Nat.reduceMul, Nat.reduceSub, Nat.reduceLeDiff, Nat.reduceLT, p1, p2, p3]
    exact ⟨⟨nilS, fun i _ _ => trivial, hfa, by omega, .nil, growa⟩, rfl⟩
  · rintro k f g' ms hk ⟨⟨v, hs, hfg', hup', hnx', gv, grow'⟩, rfl, p1, p2, p3, p7⟩
    have hk' : (k : Int) < (S.ns : Int) := by omega
    have hw : wrapF .i64 ((k : Int) + 1) = ((k + 1 : Nat) : Int) := by rw [wrap_in (by omega) (by omega)]; rfl
    have oldg' : ∀ i, i < h.next → g'.get i = h.get i := fun i hi => by rw [hs i (by omega) (by omega), olda i hi]
    have hyg' := hy.mono (AHeap.subOf oldg')
    have rg' : Row g' h.next (stL S wv vv sv) := by obtain ⟨w, gr, e⟩ := rga; exact ⟨w, gr, by rw [hs _ (by omega) (by omega)]; exact e⟩
    have r3g : Row g' g2.next _ := ⟨_, _, grow'⟩
    simp only [rn0, rn1, rn2, reduceIte, Nat.reduceEqDiff, Nat.reduceAdd, Nat.reduceMul, Nat.reduceSub, Nat.reduceLeDiff, Nat.reduceLT, p1, p2, p3, p7, rg'.ld, stg, Nat.zero_add, Cells.len hyg'.s, hk', Cells.idx hyg'.s hk, samps_ld hyg'.s hk]
    refine step_new (vs := [.int .i64 (S.sv k), .int .i64 (S.sh k), .int .i64 (S.sk k)]) (by omega) (by omega) rfl (by simp only [rn0, rn1, rn2, reduceIte, Nat.reduceEqDiff, Nat.reduceAdd, Nat.reduceMul, Nat.reduceSub, Nat.reduceLeDiff, Nat.reduceLT]; rfl) rfl rfl rfl fun g5 hx5 => ?_
    have n5 := hx5.next
    have f5 := hx5.floor
    have r35 := r3g.mono hx5.sub
    have gv5 := gv.sub hx5.sub
    simp only [rn0, rn1, rn2, reduceIte, Nat.reduceEqDiff, Nat.reduceAdd, Nat.reduceMul, Nat.reduceSub, Nat.reduceLeDiff, Nat.reduceLT, p1, p2, p3, p7, r35.ld, hx5.ld, Nat.zero_add, List.getElem?_cons_zero, List.getElem?_cons_succ, build_sm, sl_samp]
    refine step_slice (by omega) rfl fun g6 hx6 => ?_
    have n6 := hx6.next
    obtain ⟨v'', g7, e7, gv7, o7, n7, f7, old7, u7⟩ := grow_push (h := g5) (bytes := 24) gv5 (by omega) (by omega) (by omega) hx6 rfl rfl (fun j hj => by
      obtain rfl | rfl | rfl : j = 0 ∨ j = 1 ∨ j = 2 := by omega
      all_goals rfl) (by simp [maxBytes]; omega) (by simp [maxBytes]; omega)
    simp only [rn0, rn1, rn2, reduceIte, Nat.reduceEqDiff, Nat.reduceAdd, Nat.reduceMul, Nat.reduceSub, Nat.reduceLeDiff, Nat.reduceLT, p1, p2, p3, e7]
    refine step_store (b := g2.next) (off := 6) (vs := [v'']) rfl (by rw [old7 _ (by omega), hx5.old _ (by omega)]; exact grow') (by omega) (by omega) (cells1 o7) (by simp [allB, o7]) rfl (by simp) fun g8 hs8 => ?_
    rw [sp6] at hs8
    have n8 := hs8.next
    have f8 := hs8.floor
    simp only [rn0, rn1, rn2, reduceIte, Nat.reduceEqDiff, Nat.reduceAdd, Nat.reduceMul, Nat.reduceSub, Nat.reduceLeDiff, Nat.reduceLT, p1, p2, p3, p7, hw]
    exact ⟨v'', fun i hi hne => by rw [hs8.old i hne, old7 i hi, hx5.old i (by omega), hs i hi hne], by omega, by omega, by omega, gv7.keep hs8.keep (by omega), hs8.get⟩
  rintro f gb ms ⟨⟨s', hsb, hfb, hupb, hnxb, gvb, growb⟩, rfl, p1, p2, p3, p7⟩
  have oldb : ∀ i, i < h.next → gb.get i = h.get i := fun i hi => by rw [hsb i (by omega) (by omega), olda i hi]
  have hyb := hy.mono (AHeap.subOf oldb)
  have rgb : Row gb h.next (stL S wv vv sv) := by obtain ⟨w, gr, e⟩ := rga; exact ⟨w, gr, by rw [hsb _ (by omega) (by omega)]; exact e⟩
  have hm4 : gb.get g1.next = some (.row (stV (.int .i64 0) (.int .i64 0) nilS (.int .i64 0) (.int .i64 0) nilS nilS) true 0) := by rw [hsb _ (by omega) (by omega), hm3]; exact hx2.get
  have rr : Row gb g2.next _ := ⟨_, _, growb⟩
  have hone : allB oneCell (stL S w' v' s') = true := by simp [stL, allB, one_int, ow, ov, gvb.one]
  simp only [rn0, rn1, rn2, reduceIte, Nat.reduceEqDiff, Nat.reduceAdd, Nat.reduceMul, Nat.reduceSub, Nat.reduceLeDiff, Nat.reduceLT, p1, p2, p3, p7, rgb.ld, stg, Nat.zero_add, Cells.len hyb.s, Int.lt_irrefl, rr.whole (n := 7) rfl]
  refine step_store (b := g1.next) (off := 0) (vs := stL S w' v' s') rfl hm4 (by omega) (by omega) rfl hone rfl (by simp) fun gc hsc => ?_
  rw [splice_all (by rfl)] at hsc
  have nc := hsc.next
  have fc := hsc.floor
  simp only [rn0, rn1, rn2, reduceIte, Nat.reduceEqDiff, Nat.reduceAdd, Nat.reduceMul, Nat.reduceSub, Nat.reduceLeDiff, Nat.reduceLT, p2, res_cellN, hsc.row.whole (n := 7) rfl]
  have sep : ∀ {v : Value} {s m : Nat} {c : Nat → Nat → Value}, Cells gb v s m c → (∀ x k q, v = .slice (some x) k q → g1.next < x.block) → Cells gc v s m c := fun {v s m c} hc hb => by
    obtain ⟨a, cap, rfl, hsp, h0 | ⟨b, o, cs, w, gr, rfl, h1, h2⟩⟩ := hc
    · exact ⟨a, cap, rfl, hsp, .inl h0⟩
    · have := hb _ _ _ rfl
      have : b ≠ g1.next := by have : g1.next < b := this; omega
      exact ⟨_, cap, rfl, hsp, .inr ⟨b, o, cs, w, gr, rfl, by rw [hsc.old b this]; exact h1, h2⟩⟩
  refine ⟨w', v', s', rfl, ⟨?_, ?_, ?_⟩, fun i hi => by rw [hsc.old i (by omega), oldb i hi], by omega, by omega, by omega⟩
  · have q : Ranges gb w' S.nw S.wlo S.whi := by
      obtain ⟨a, cap, rfl, hsp, h0 | ⟨b, o, cs, w, gr, rfl, h1, h2⟩⟩ := cwa
      · exact ⟨a, cap, rfl, hsp, .inl h0⟩
      · have hb := bw _ _ _ rfl
        have hb2 := bw2 _ _ _ rfl
        exact ⟨_, cap, rfl, hsp, .inr ⟨b, o, cs, w, gr, rfl, by rw [hsb b (Nat.lt_of_lt_of_le hb hupa) fun e => hb2 e.symm]; exact h1, h2⟩⟩
    exact sep q fun x k q e => by have := bwl x k q e; omega
  · have q : Cells gb v' 4 S.nv (vatC S) := by
      obtain ⟨a, cap, rfl, hsp, h0 | ⟨b, o, cs, w, gr, rfl, h1, h2⟩⟩ := cv
      · exact ⟨a, cap, rfl, hsp, .inl h0⟩
      · have hb := bv _ _ _ rfl
        have hb2 := bv2 _ _ _ rfl
        exact ⟨_, cap, rfl, hsp, .inr ⟨b, o, cs, w, gr, rfl, by rw [hsb b hb fun e => hb2 e.symm]; exact h1, h2⟩⟩
    exact sep q fun x k q e => by have := bvl x k q e; omega
  · exact sep gvb.cells fun x k q e => by have := (gvb.block e).1; omega

def rLo (S : MS) (j : Nat) : Int := if j = 0 then S.splo else if j ≤ S.nw then S.wlo (j - 1) else S.vlo (j - S.nw - 1)
def rHi (S : MS) (j : Nat) : Int := if j = 0 then S.sphi else if j ≤ S.nw then S.whi (j - 1) else S.vhi (j - S.nw - 1)
def rSz (S : MS) (j : Nat) : Nat := (rHi S j - rLo S j + 1).toNat
def posU (S : MS) (i : Nat) : Nat := if i < S.nw then i + 1 else if i = S.nw then 0 else i
def digU (S : MS) (m j : Nat) : Int := rLo S j + ((divN (rSz S) m j % rSz S j : Nat) : Int)
def nthU (S : MS) (m i : Nat) : Int := if i < numU S then digU S m (posU S i) else 0
theorem r_pos {S : MS} {i : Nat} : rLo S (posU S i) = uLo S i ∧ rHi S (posU S i) = uHi S i := by
  unfold posU rLo rHi uLo uHi
  by_cases c1 : i < S.nw
  · have q1 : ¬ i + 1 = 0 := by omega
    have q2 : i + 1 ≤ S.nw := by omega
    simp only [c1, q1, q2, if_true, if_false, Nat.add_sub_cancel, and_self]
  · by_cases c2 : i = S.nw
    · have q1 : ¬ S.nw < S.nw := by omega
      simp only [c2, q1, if_true, if_false, and_self]
    · have q1 : ¬ i = 0 := by omega
      have q2 : ¬ i ≤ S.nw := by omega
      simp only [c1, c2, q1, q2, if_false, and_self]
theorem pos_lt {S : MS} {i : Nat} (hi : i < numU S) : posU S i < numU S := by
  have h0 : numU S = S.nw + 1 + S.nv := rfl
  unfold posU
  by_cases c1 : i < S.nw
  · rw [if_pos c1]; omega
  · rw [if_neg c1]
    by_cases c2 : i = S.nw
    · rw [if_pos c2]; omega
    · rw [if_neg c2]; exact hi
def unpos (S : MS) (j : Nat) : Nat := if j = 0 then S.nw else if j ≤ S.nw then j - 1 else j
theorem pos_unpos {S : MS} {j : Nat} : posU S (unpos S j) = j := by
  unfold posU unpos
  by_cases c1 : j = 0
  · subst c1; simp
  · by_cases c2 : j ≤ S.nw
    · have q1 : j - 1 < S.nw := by omega
      simp only [c1, c2, q1, if_true, if_false]; omega
    · have q1 : ¬ j < S.nw := by omega
      have q2 : ¬ j = S.nw := by omega
      simp only [c1, c2, q1, q2, if_false]
theorem unpos_lt {S : MS} {j : Nat} (hj : j < numU S) : unpos S j < numU S := by
  have h0 : numU S = S.nw + 1 + S.nv := rfl
  unfold unpos
  by_cases c1 : j = 0
  · rw [if_pos c1]; omega
  · rw [if_neg c1]
    by_cases c2 : j ≤ S.nw
    · rw [if_pos c2]; omega
    · rw [if_neg c2]; exact hj
theorem Good.r {S : MS} (hG : Good S) {j : Nat} (hj : j < numU S) : 0 ≤ rLo S j ∧ rLo S j ≤ rHi S j ∧ rHi S j ≤ 99 ∧ (rSz S j : Int) = rHi S j - rLo S j + 1 ∧ 1 ≤ rSz S j ∧ rSz S j ≤ 100 := by
  have h1 := hG.u (unpos S j) (unpos_lt hj)
  have h2 := r_pos (S := S) (i := unpos S j)
  rw [pos_unpos] at h2
  rw [← h2.1, ← h2.2] at h1
  have : (rSz S j : Int) = rHi S j - rLo S j + 1 := Int.toNat_of_nonneg (by omega)
  omega
theorem dig_in {S : MS} (hG : Good S) {m j : Nat} (hj : j < numU S) : rLo S j ≤ digU S m j ∧ digU S m j ≤ rHi S j := by
  obtain ⟨_, _, _, h4, h5, _⟩ := hG.r hj
  have := Nat.mod_lt (divN (rSz S) m j) (show 0 < rSz S j by omega)
  unfold digU
  omega
theorem nthU_in {S : MS} (hG : Good S) {m : Nat} : InU S (nthU S m) := fun i hi => by
  have h1 := dig_in (m := m) hG (pos_lt hi)
  rw [r_pos.1, r_pos.2] at h1
  unfold nthU
  rw [if_pos hi]
  exact h1
theorem nthU_w {S : MS} {m i : Nat} (hi : i < S.nw) : nthU S m i = digU S m (i + 1) := by
  have h0 : numU S = S.nw + 1 + S.nv := rfl
  unfold nthU posU
  rw [if_pos (by omega), if_pos hi]
theorem nthU_s {S : MS} {m : Nat} : nthU S m S.nw = digU S m 0 := by
  have h0 : numU S = S.nw + 1 + S.nv := rfl
  unfold nthU posU
  rw [if_pos (by omega), if_neg (Nat.lt_irrefl _), if_pos rfl]
theorem nthU_f {S : MS} {m v : Nat} (hv : v < S.nv) : nthU S m (S.nw + 1 + v) = digU S m (S.nw + 1 + v) := by
  have h0 : numU S = S.nw + 1 + S.nv := rfl
  unfold nthU posU
  rw [if_pos (by omega), if_neg (by omega), if_neg (by omega)]
theorem divN_le' {s : Nat → Nat} {m : Nat} : ∀ k, divN s m k ≤ m
  | 0 => Nat.le_refl _
  | k + 1 => Nat.le_trans (Nat.div_le_self _ _) (divN_le' k)
theorem build_t1 {x : Int} : buildA (fun x => (#[(0, 1), (1, 1), (2, 1)] : Array (Nat × Nat))[x]?) ⟨[.slice none 0 0, .int .i64 0, .slice none 0 0]⟩ [1] h [.int .i64 x] = some (.agg ⟨[.slice none 0 0, .int .i64 x, .slice none 0 0]⟩, h) := by
  unfold buildA
  have e : Instr.fill (fun x => (#[(0, 1), (1, 1), (2, 1)] : Array (Nat × Nat))[x]?) #[.slice none 0 0, .int .i64 0, .slice none 0 0] ([1].zip [.int .i64 x]) = some #[.slice none 0 0, .int .i64 x, .slice none 0 0] := by
    simp [Instr.fill, Value.cells]
  rw [e]
theorem rd_neb {b o : Nat} {s : Option Nat} {v : Value} : (∀ ad : Addr, Value.pointer (some ⟨b, o, s⟩) = .pointer (some ad) → NeB v ad.block) = NeB v b := by
  simp only [eq_iff_iff]
  exact ⟨fun hh => hh _ rfl, fun hb ad e => by cases e; exact hb⟩
theorem grow_push2 {B k s bytes : Nat} {v : Value} {c : Nat → Nat → Value} {g1 : AHeap} {row : List Value} (hg : GrowC B h v s k c) (hB : h.floor ≤ B) (hf : h.next + 2 < far) (hBn : B ≤ h.next) (hx : New h g1 row 0) (hlen : row.length = s) (hone : allB oneCell row = true) (hn : ∀ j, j < s → row[j]? = some (c k j)) (hb1 : (k + 1) * bytes ≤ maxBytes) (hb2 : k + 1 ≤ maxBytes) :
    ∃ v' g2, appendA s bytes g1 v (.slice (some ⟨h.next, 0, none⟩) 1 1) = some (v', g2) ∧ GrowC B g2 v' s (k + 1) c ∧ oneCell v' = true ∧ g2.next = h.next + 2 ∧ g2.floor = h.floor ∧ (∀ i, i < h.next → NeB v i → g2.get i = h.get i) ∧ g1.next ≤ g2.next := by
  have hnx := hx.next
  have hfl := hx.floor
  have g1' : GrowC B g1 v s k c := hg.sub hx.sub
  obtain ⟨v', g2, e, ev, gv, hk2⟩ := g1'.append (bytes := bytes) (cap := 1) (by omega) (by omega) (by omega) hx.get hlen hone hn hb1 hb2
  have n2 := hk2.next
  have f2 := hk2.floor
  refine ⟨v', g2, e, gv, gv.one, by omega, by omega, fun i hi hne => ?_, by omega⟩
  rw [hk2.old i (by omega) fun b m c e => hne b m c e, hx.old i (by omega)]
theorem neB_of {B s k : Nat} {v : Value} {c : Nat → Nat → Value} (hg : GrowC B h v s k c) {i : Nat} (hi : i < B ∨ h.next ≤ i) : NeB v i := fun b m c e => by
  have := hg.block e
  omega
theorem _root_.Go.Vm.GrowC.le {B C s m : Nat} {v : Value} {c : Nat → Nat → Value} (hg : GrowC B h v s m c) (hc : C ≤ B) : GrowC C h v s m c := by
  obtain ⟨cs, h1, h2, h3⟩ := hg
  refine ⟨cs, ?_, h2, h3⟩
  rcases h1 with q | ⟨b, q1, q2, q3, q4⟩
  · exact .inl q
  · exact .inr ⟨b, q1, q2, q3, by omega⟩
def s63 : SCode := (.seq (.ops [⟨(some 2), none, .box (T 0)⟩, ⟨(some 4), none, .alloc [(.slice none 0 0), (.int .i64 (0)), (.slice none 0 0)]⟩]) (.seq (.draw [⟨.free, ⟨(some 10), none, .fieldAddr 3 (T 2)⟩⟩, ⟨.free, ⟨(some 11), none, .fieldAddr 0 (T 10)⟩⟩, ⟨.rd, ⟨(some 12), none, .load1 (T 11)⟩⟩, ⟨.free, ⟨(some 13), none, .mov (T 1)⟩⟩, ⟨.free, ⟨(some 14), none, .fieldAddr 3 (T 2)⟩⟩, ⟨.rd1, ⟨(some 15), none, .loadN 2 (T 14)⟩⟩, ⟨.up, ⟨(some 16), none, .call (.func 100) [(T 15)]⟩⟩, ⟨.free, ⟨(some 17), none, .plain (.binOp .rem 3 (T 13) (T 16) 3) 3⟩⟩, ⟨.free, ⟨(some 18), none, .int2 .add (T 12) (T 17)⟩⟩, ⟨.free, ⟨(some 19), none, .build #[(0, 1), (1, 1), (2, 1)] [(.slice none 0 0), (.int .i64 (0)), (.slice none 0 0)] [1] [(T 18)]⟩⟩, ⟨.up, ⟨(some 5), none, .alloc [(.slice none 0 0), (.int .i64 (0)), (.slice none 0 0)]⟩⟩, ⟨.any, ⟨none, none, .store 3 (T 5) (T 19)⟩⟩]) (.seq (.ops [⟨(some 20), none, .mov (T 1)⟩, ⟨(some 21), none, .fieldAddr 3 (T 2)⟩, ⟨(some 22), none, .loadN 2 (T 21)⟩, ⟨(some 23), none, .call (.func 100) [(T 22)]⟩, ⟨(some 24), none, .plain (.binOp .quo 3 (T 20) (T 23) 3) 3⟩, ⟨(some 1), none, .mov (T 24)⟩]) (.seq (.seq (.ops [⟨(some 6), none, .mov (.const (.int .i64 (0)))⟩]) (.block 0 (.loop (.seq (.seq (.ops [⟨(some 25), none, .mov (T 6)⟩, ⟨(some 26), none, .fieldAddr 2 (T 2)⟩, ⟨(some 27), none, .load1 (T 26)⟩, ⟨(some 28), none, .len (T 27)⟩, ⟨(some 29), none, .int2 .lss (T 25) (T 28)⟩]) (.cond (T 29) .skip (.exit 0))) (.seq (.block 1 (.seq (.ops [⟨(some 32), none, .fieldAddr 2 (T 2)⟩, ⟨(some 33), none, .load1 (T 32)⟩, ⟨(some 34), none, .mov (T 6)⟩, ⟨(some 35), none, .idxSl 2 (T 33) (T 34)⟩, ⟨(some 36), none, .loadN 2 (T 35)⟩, ⟨(some 7), none, .alloc [(.int .i64 (0)), (.int .i64 (0))]⟩, ⟨none, none, .store 2 (T 7) (T 36)⟩]) (.draw [⟨.free, ⟨(some 37), none, .fieldAddr 0 (T 5)⟩⟩, ⟨.rd, ⟨(some 38), none, .load1 (T 37)⟩⟩, ⟨.free, ⟨(some 39), none, .fieldAddr 0 (T 7)⟩⟩, ⟨.rd, ⟨(some 40), none, .load1 (T 39)⟩⟩, ⟨.free, ⟨(some 41), none, .mov (T 1)⟩⟩, ⟨.rd1, ⟨(some 42), none, .loadN 2 (T 7)⟩⟩, ⟨.up, ⟨(some 43), none, .call (.func 100) [(T 42)]⟩⟩, ⟨.free, ⟨(some 44), none, .plain (.binOp .rem 3 (T 41) (T 43) 3) 3⟩⟩, ⟨.free, ⟨(some 45), none, .int2 .add (T 40) (T 44)⟩⟩, ⟨.up, ⟨(some 46), none, .bslice 1 1 [(.int .i64 (0))] [0] [(T 45)]⟩⟩, ⟨.up, ⟨(some 47), none, .append 1 8 (T 38) (T 46)⟩⟩, ⟨.free, ⟨(some 48), none, .mov (T 1)⟩⟩, ⟨.rd, ⟨(some 49), none, .loadN 2 (T 7)⟩⟩, ⟨.any, ⟨(some 50), none, .call (.func 100) [(T 49)]⟩⟩, ⟨.free, ⟨(some 51), none, .plain (.binOp .quo 3 (T 48) (T 50) 3) 3⟩⟩, ⟨.free, ⟨(some 52), none, .fieldAddr 0 (T 5)⟩⟩, ⟨.any, ⟨none, none, .store 1 (T 52) (T 47)⟩⟩, ⟨.free, ⟨(some 1), none, .mov (T 51)⟩⟩]))) (.ops [⟨(some 30), none, .mov (T 6)⟩, ⟨(some 31), none, .int2 .add (T 30) (.const (.int .i64 (1)))⟩, ⟨(some 6), none, .mov (T 31)⟩])))))) (.seq (.seq (.ops [⟨(some 8), none, .mov (.const (.int .i64 (0)))⟩]) (.block 2 (.loop (.seq (.seq (.ops [⟨(some 53), none, .mov (T 8)⟩, ⟨(some 54), none, .fieldAddr 5 (T 2)⟩, ⟨(some 55), none, .load1 (T 54)⟩, ⟨(some 56), none, .len (T 55)⟩, ⟨(some 57), none, .int2 .lss (T 53) (T 56)⟩]) (.cond (T 57) .skip (.exit 2))) (.seq (.block 3 (.seq (.ops [⟨(some 60), none, .fieldAddr 5 (T 2)⟩, ⟨(some 61), none, .load1 (T 60)⟩, ⟨(some 62), none, .mov (T 8)⟩, ⟨(some 63), none, .idxSl 4 (T 61) (T 62)⟩, ⟨(some 64), none, .fieldAddr 1 (T 63)⟩, ⟨(some 65), none, .loadN 2 (T 64)⟩, ⟨(some 9), none, .alloc [(.int .i64 (0)), (.int .i64 (0))]⟩, ⟨none, none, .store 2 (T 9) (T 65)⟩]) (.draw [⟨.free, ⟨(some 66), none, .fieldAddr 2 (T 5)⟩⟩, ⟨.rd, ⟨(some 67), none, .load1 (T 66)⟩⟩, ⟨.free, ⟨(some 68), none, .fieldAddr 0 (T 9)⟩⟩, ⟨.rd, ⟨(some 69), none, .load1 (T 68)⟩⟩, ⟨.free, ⟨(some 70), none, .mov (T 1)⟩⟩, ⟨.rd1, ⟨(some 71), none, .loadN 2 (T 9)⟩⟩, ⟨.up, ⟨(some 72), none, .call (.func 100) [(T 71)]⟩⟩, ⟨.free, ⟨(some 73), none, .plain (.binOp .rem 3 (T 70) (T 72) 3) 3⟩⟩, ⟨.free, ⟨(some 74), none, .int2 .add (T 69) (T 73)⟩⟩, ⟨.up, ⟨(some 75), none, .bslice 1 1 [(.int .i64 (0))] [0] [(T 74)]⟩⟩, ⟨.up, ⟨(some 76), none, .append 1 8 (T 67) (T 75)⟩⟩, ⟨.free, ⟨(some 77), none, .mov (T 1)⟩⟩, ⟨.rd, ⟨(some 78), none, .loadN 2 (T 9)⟩⟩, ⟨.any, ⟨(some 79), none, .call (.func 100) [(T 78)]⟩⟩, ⟨.free, ⟨(some 80), none, .plain (.binOp .quo 3 (T 77) (T 79) 3) 3⟩⟩, ⟨.free, ⟨(some 81), none, .fieldAddr 2 (T 5)⟩⟩, ⟨.any, ⟨none, none, .store 1 (T 81) (T 76)⟩⟩, ⟨.free, ⟨(some 1), none, .mov (T 80)⟩⟩]))) (.ops [⟨(some 58), none, .mov (T 8)⟩, ⟨(some 59), none, .int2 .add (T 58) (.const (.int .i64 (1)))⟩, ⟨(some 8), none, .mov (T 59)⟩])))))) (.seq (.ops [⟨(some 82), none, .loadN 3 (T 5)⟩, ⟨none, none, .store 3 (T 4) (T 82)⟩]) .ret))))))
theorem fok63 : FnOk Try.prog 63 83 s63 [.cellN 4 3] := ⟨Try.f63, _, Try.func63, rfl, Try.ntmps63, by kernel_rfl, by kernel_rfl⟩
set_option maxHeartbeats 1000000 in
theorem nthG_c (hn : 100 ≤ n) (hr : h.next + 300 < far) (hfl : h.floor ≤ h.next) {wv vv sv : Value} {S : MS} (hy : SteepR h wv vv sv S) (hG : Good S) {m : Nat} (hm : m ≤ 100000) :
    ∃ tw tf h', call n (.func (.func 63) #[] #[]) [.agg ⟨stL S wv vv sv⟩, .int .i64 (m : Int)] h = some (.agg ⟨trL tw tf (nthU S m S.nw)⟩, h') ∧ TruR h' tw tf S (nthU S m) ∧ (∀ i, i < h.next → h'.get i = h.get i) ∧ h.next ≤ h'.next ∧ h'.next ≤ h.next + 200 ∧ h'.floor = h.floor ∧ (∀ x k c, tw = .slice (some x) k c → h.next ≤ x.block) ∧ (∀ x k c, tf = .slice (some x) k c → h.next ≤ x.block) ∧ GrowC h.next h' tf 1 S.nv (fun i _ => .int .i64 (nthU S m (S.nw + 1 + i))) ∧ (∀ x k c y k' c', tw = .slice (some x) k c → tf = .slice (some y) k' c' → x.block < y.block) := by
  obtain ⟨n, rfl⟩ : ∃ p, n = p + 1 := ⟨n - 1, by omega⟩
  have h0 : numU S = S.nw + 1 + S.nv := rfl
  obtain ⟨_, _, _, z4, z5, _, _, _, s1, s2, s3⟩ := hG.sizes
  suffices hs : ∃ v h', call (n + 1) (.func (.func 63) #[] #[]) [.agg ⟨stL S wv vv sv⟩, .int .i64 (m : Int)] h = some (v, h') ∧ ∃ tw tf, v = .agg ⟨trL tw tf (nthU S m S.nw)⟩ ∧ TruR h' tw tf S (nthU S m) ∧ (∀ i, i < h.next → h'.get i = h.get i) ∧ h.next ≤ h'.next ∧ h'.next ≤ h.next + 200 ∧ h'.floor = h.floor ∧ (∀ x k c, tw = .slice (some x) k c → h.next ≤ x.block) ∧ (∀ x k c, tf = .slice (some x) k c → h.next ≤ x.block) ∧ GrowC h.next h' tf 1 S.nv (fun i _ => .int .i64 (nthU S m (S.nw + 1 + i))) ∧ (∀ x k c y k' c', tw = .slice (some x) k c → tf = .slice (some y) k' c' → x.block < y.block) by
    obtain ⟨v, h', e, tw, tf, rfl, q⟩ := hs
    exact ⟨tw, tf, h', e, q⟩
  refine call_any0 fok63 rfl rfl (by simp) ?_
  simp only [s63, W_seq, W_ops]
  refine ops_box (cs := stL S wv vv sv) (by omega) rfl hy.one fun g1 hx1 => ?_
  have n1 := hx1.next
  have f1' := hx1.floor
  refine ops_alloc (cs := trL nilS nilS 0) (by omega) rfl fun g2 hx2 => ?_
  have n2 := hx2.next
  have f2' := hx2.floor
  have r1 := hx1.row.mono hx2.sub
  have old2 : ∀ i, i < h.next → g2.get i = h.get i := fun i hi => by rw [hx2.old i (by omega), hx1.old i hi]
  have es := size_ok (n := n) (h := g2) (by omega) (by omega) s1 s2 s3
  obtain ⟨_, _, _, q4, q5, q6⟩ := hG.r (j := 0) (by omega)
  have e0 : S.sphi - S.splo + 1 = ((rSz S 0 : Nat) : Int) := by rw [q4]; simp [rLo, rHi]
  rw [e0] at es
  have hne0 : ¬ ((rSz S 0 : Nat) : Int) = 0 := by omega
  have hrem : (m : Int).tmod ((rSz S 0 : Nat) : Int) = ((m % rSz S 0 : Nat) : Int) := rfl
  have hmod := Nat.mod_lt m (show 0 < rSz S 0 by omega)
  have hdig : wrapF .i64 (S.splo + ((m % rSz S 0 : Nat) : Int)) = nthU S m S.nw := by
    rw [wrap_in (by omega) (by omega), nthU_s]
    simp [digU, rLo, divN]
  have hquo : IntKind.wrap .i64 ((m : Int).tdiv ((rSz S 0 : Nat) : Int)) = ((divN (rSz S) m 1 : Nat) : Int) := by
    have e : (m : Int).tdiv ((rSz S 0 : Nat) : Int) = ((m / rSz S 0 : Nat) : Int) := rfl
    have hd := Nat.div_le_self m (rSz S 0)
    rw [e, IntKind.wrap_i64]
    simp only [divN]
    generalize m / rSz S 0 = dq at hd
    omega
  simp only [rn0, rn1, rn2, reduceIte, Nat.reduceEqDiff, Nat.reduceAdd, Nat.reduceMul, Nat.reduceSub, Nat.reduceLeDiff, Nat.reduceLT]
  refine W_draw All ?_
  simp only [rn0, rn1, rn2, reduceIte, Nat.reduceEqDiff, Nat.reduceAdd, Nat.reduceMul, Nat.reduceSub, Nat.reduceLeDiff, Nat.reduceLT, r1.ld, stg, st_rng r1, Nat.zero_add, Nat.add_zero, eqV_int, es, valN_tmp, r_rem hne0, hrem, hdig, build_t1]
  refine up_row (cs := trL nilS nilS 0) (by omega) rfl rfl (fun g3 hx => hx.sub) fun g3 hx3 => ?_
  have n3 := hx3.next
  have f3' := hx3.floor
  simp only [rn0, rn1, rn2, reduceIte, Nat.reduceEqDiff, Nat.reduceAdd, Nat.reduceMul, Nat.reduceSub, Nat.reduceLeDiff, Nat.reduceLT]
  refine up_store (b := g2.next) (off := 0) (vs := trL nilS nilS (nthU S m S.nw)) rfl hx3.get (by omega) (by omega) rfl rfl rfl (by simp [trL]) (fun _ _ => trivial) fun g4 hs4 => ?_
  rw [splice_all (by rfl)] at hs4
  have n4 := hs4.next
  have f4' := hs4.floor
  have old4 : ∀ i, i < g2.next → g4.get i = g2.get i := fun i hi => by rw [hs4.old i (by omega), hx3.old i hi]
  have r14 : Row g4 h.next (stL S wv vv sv) := r1.mono fun i cs w gr _ e => by rw [old4 i (AHeap.lt_of_get e)]; exact e
  have es4 := size_ok (n := n) (h := g4) (by omega) (by omega) s1 s2 s3
  rw [e0] at es4
  simp only [rn0, rn1, rn2, reduceIte, Nat.reduceEqDiff, Nat.reduceAdd, Nat.reduceMul, Nat.reduceSub, Nat.reduceLeDiff, Nat.reduceLT, st_rng r14, es4, valN_tmp, r_quo hne0, hquo]
  have hgen : ∀ j, j < numU S → 1 ≤ j → ∀ lo hi : Int, lo = rLo S j → hi = rHi S j → hi - lo + 1 = ((rSz S j : Nat) : Int) ∧ ¬ ((rSz S j : Nat) : Int) = 0 ∧ ((divN (rSz S) m j : Nat) : Int).tmod ((rSz S j : Nat) : Int) = ((divN (rSz S) m j % rSz S j : Nat) : Int) ∧ wrapF .i64 (lo + ((divN (rSz S) m j % rSz S j : Nat) : Int)) = digU S m j ∧ IntKind.wrap .i64 (((divN (rSz S) m j : Nat) : Int).tdiv ((rSz S j : Nat) : Int)) = ((divN (rSz S) m (j + 1) : Nat) : Int) ∧ 0 ≤ lo ∧ lo ≤ hi ∧ hi ≤ 99 := fun j hj _ lo hi el eh => by
    obtain ⟨a1, a2, a3, a4, a5, a6⟩ := hG.r hj
    have hmd := Nat.mod_lt (divN (rSz S) m j) (show 0 < rSz S j by omega)
    have hle := divN_le' (s := rSz S) (m := m) j
    subst el eh
    refine ⟨by omega, by omega, rfl, wrap_in (by omega) (by omega), ?_, a1, a2, a3⟩
    have e : ((divN (rSz S) m j : Nat) : Int).tdiv ((rSz S j : Nat) : Int) = ((divN (rSz S) m j / rSz S j : Nat) : Int) := rfl
    have hd := Nat.div_le_self (divN (rSz S) m j) (rSz S j)
    rw [e, IntKind.wrap_i64]
    simp only [divN]
    generalize divN (rSz S) m j / rSz S j = dq at hd
    omega
  refine W_loop S.nw (fun k f g ms => (∃ w, (∀ i, i < g2.next → g.get i = g2.get i) ∧ g.floor = h.floor ∧ g4.next ≤ g.next ∧ g.next ≤ g4.next + 4 * k ∧ GrowC g4.next g w 1 k (fun i _ => .int .i64 (nthU S m i)) ∧ g.get g2.next = some (.row (trL w nilS (nthU S m S.nw)) true 0)) ∧ ms = [] ∧ f 1 = .int .i64 ((divN (rSz S) m (k + 1) : Nat) : Int) ∧ f 2 = .pointer (some ⟨h.next, 0, none⟩) ∧ f 4 = .pointer (some ⟨g1.next, 0, none⟩) ∧ f 5 = .pointer (some ⟨g2.next, 0, none⟩) ∧ f 6 = .int .i64 (k : Int)) (by simp; omega) ?_ ?_ ?_
  · simp only [rn0, rn1, rn2, reduceIte, Nat.reduceEqDiff, Nat.reduceAdd, Nat.reduceMul, Nat.reduceSub, Nat.reduceLeDiff, Nat.reduceLT, Nat.zero_add]
    exact ⟨⟨nilS, old4, by omega, by omega, .nil, hs4.get⟩, rfl⟩
  · rintro k f g ms hk ⟨⟨w, hs, hfg, hup, hnx, gv, grow⟩, rfl, p1, p2, p4, p5, p6⟩
    have hk' : (k : Int) < (S.nw : Int) := by omega
    have hw : wrapF .i64 ((k : Int) + 1) = ((k + 1 : Nat) : Int) := by rw [wrap_in (by omega) (by omega)]; rfl
    have oldg : ∀ i, i < h.next → g.get i = h.get i := fun i hi => by rw [hs i (by omega), old2 i hi]
    have hyg := hy.mono (AHeap.subOf oldg)
    have rg : Row g h.next (stL S wv vv sv) := r1.mono (AHeap.subOf hs)
    simp only [rn0, rn1, rn2, reduceIte, Nat.reduceEqDiff, Nat.reduceAdd, Nat.reduceMul, Nat.reduceSub, Nat.reduceLeDiff, Nat.reduceLT, p1, p2, p4, p5, p6, rg.ld, stg, Nat.zero_add, Cells.len hyg.w, hk', Cells.idx hyg.w hk, ranges_ld hyg.w hk]
    refine step_new (vs := [.int .i64 (S.wlo k), .int .i64 (S.whi k)]) (by omega) (by omega) rfl (by simp only [rn0, rn1, rn2, reduceIte, Nat.reduceEqDiff, Nat.reduceAdd, Nat.reduceMul, Nat.reduceSub, Nat.reduceLeDiff, Nat.reduceLT]; rfl) rfl rfl rfl fun g5 hx5 => ?_
    have n5 := hx5.next
    have f5 := hx5.floor
    have gv5 := gv.sub hx5.sub
    have grow5 : g5.get g2.next = _ := hx5.sub _ _ _ _ trivial grow
    have rt : Row g5 g2.next _ := ⟨_, _, grow5⟩
    have w5 := hx5.row.whole (n := 2) rfl
    have ql : k + 1 ≤ S.nw := by omega
    have hlo : S.wlo k = rLo S (k + 1) := by simp [rLo, ql]
    have hhi : S.whi k = rHi S (k + 1) := by simp [rHi, ql]
    obtain ⟨x1, x2, x3, x4, x5, x6, x7, x8⟩ := hgen (k + 1) (by omega) (by omega) (S.wlo k) (S.whi k) hlo hhi
    have esz : ∀ g', g'.next < far → call n (.func (.func 100) #[] #[]) [.agg ⟨[.int .i64 (S.wlo k), .int .i64 (S.whi k)]⟩] g' = some (.int .i64 ((rSz S (k + 1) : Nat) : Int), g') := fun g' hg' => by rw [← x1]; exact size_ok (n := n) (h := g') (by omega) hg' x6 x7 x8
    rw [← nthU_w hk] at x4
    have ne1 : NeB w g2.next := neB_of gv5 (by left; omega)
    have ne2 : NeB w g.next := neB_of gv (by right; omega)
    simp only [rn0, rn1, rn2, reduceIte, Nat.reduceEqDiff, Nat.reduceAdd, Nat.reduceMul, Nat.reduceSub, Nat.reduceLeDiff, Nat.reduceLT]
    refine W_draw (NeB w) ?_
    simp only [rn0, rn1, rn2, reduceIte, Nat.reduceEqDiff, Nat.reduceAdd, Nat.reduceMul, Nat.reduceSub, Nat.reduceLeDiff, Nat.reduceLT, rd_1, rd_N, rd_neb, ne1, ne2, p1, p2, p4, p5, p6, rt.ld, hx5.row.ld, w5, trg, Nat.zero_add, List.getElem?_cons_zero, gv5.cells.self, eqV_int, self_two, esz g5 (by omega), valN_tmp, r_rem x2, x3, x4, sl_int]
    refine up_slice (by omega) rfl (fun g6 hx i cs w gr _ e => hx.sub i cs w gr trivial e) fun g6 hx6 => ?_
    have n6 := hx6.next
    obtain ⟨w', g7, e7, gv7, o7, n7, f7, old7, u7⟩ := grow_push2 (h := g5) (bytes := 8) gv5 (by omega) (by omega) (by omega) hx6 rfl rfl (fun j hj => by rw [one_get j hj]) (by simp [maxBytes]; omega) (by simp [maxBytes]; omega)
    simp only [rn0, rn1, rn2, reduceIte, Nat.reduceEqDiff, Nat.reduceAdd, Nat.reduceMul, Nat.reduceSub, Nat.reduceLeDiff, Nat.reduceLT, rd_1, rd_N, rd_neb, ne1, ne2, p1, p2, p4, p5, p6, e7, w5, self_two, Nat.zero_add, esz g7 (by omega), valN_tmp, r_quo x2, x5]
    refine ⟨⟨by omega, fun i cs w gr hi e => by rw [old7 i (AHeap.lt_of_get e) hi]; exact e⟩, ?_⟩
    refine up_store (b := g2.next) (off := 0) (vs := [w']) rfl (by rw [old7 _ (by omega) ne1]; exact grow5) (by omega) (by omega) (cells1 o7) (by simp [allB, o7]) rfl (by simp [trL]) (fun _ _ => trivial) fun g8 hs8 => ?_
    have n8 := hs8.next
    have f8 := hs8.floor
    simp only [rn0, rn1, rn2, reduceIte, Nat.reduceEqDiff, Nat.reduceAdd, Nat.reduceMul, Nat.reduceSub, Nat.reduceLeDiff, Nat.reduceLT, p1, p2, p4, p5, p6, hw]
    exact ⟨w', fun i hi => by rw [hs8.old i (by omega), old7 i (by omega) (neB_of gv5 (by left; omega)), hx5.old i (by omega), hs i hi], by omega, by omega, by omega, gv7.keep hs8.keep (by omega), hs8.get⟩
  rintro f ga ms ⟨⟨w', hsa, hfa, hupa, hnxa, gva, growa⟩, rfl, p1, p2, p4, p5, p6⟩
  have olda : ∀ i, i < h.next → ga.get i = h.get i := fun i hi => by rw [hsa i (by omega), old2 i hi]
  have hya := hy.mono (AHeap.subOf olda)
  have rga : Row ga h.next (stL S wv vv sv) := r1.mono (AHeap.subOf hsa)
  have bw : ∀ x k q, w' = .slice (some x) k q → g4.next ≤ x.block ∧ x.block < ga.next := fun x k q e => gva.block e
  have cw := gva.cells
  have ow := gva.one
  have hm3 : ga.get g1.next = some (.row (trL nilS nilS 0) true 0) := by rw [hsa _ (by omega)]; exact hx2.get
  have e5 : g2.next < ga.next := by omega
  clear gva
  simp only [rn0, rn1, rn2, reduceIte, Nat.reduceEqDiff, Nat.reduceAdd, Nat.reduceMul, Nat.reduceSub, Nat.reduceLeDiff, Nat.reduceLT, p1, p2, p4, p5, p6, rga.ld, stg, Nat.zero_add, Cells.len hya.w, Int.lt_irrefl]
  refine W_loop S.nv (fun k f g ms => (∃ w, (∀ i, i < ga.next → i ≠ g2.next → g.get i = ga.get i) ∧ g.floor = h.floor ∧ ga.next ≤ g.next ∧ g.next ≤ ga.next + 4 * k ∧ GrowC ga.next g w 1 k (fun i _ => .int .i64 (nthU S m (S.nw + 1 + i))) ∧ g.get g2.next = some (.row (trL w' w (nthU S m S.nw)) true 0)) ∧ ms = [] ∧ f 1 = .int .i64 ((divN (rSz S) m (S.nw + 1 + k) : Nat) : Int) ∧ f 2 = .pointer (some ⟨h.next, 0, none⟩) ∧ f 4 = .pointer (some ⟨g1.next, 0, none⟩) ∧ f 5 = .pointer (some ⟨g2.next, 0, none⟩) ∧ f 8 = .int .i64 (k : Int)) (by simp; omega) ?_ ?_ ?_
  · simp only [rn0, rn1, rn2, reduceIte, Nat.reduceEqDiff, Nat.reduceAdd, Nat.reduceMul, Nat.reduceSub, Nat.reduceLeDiff, Nat.reduceLT, p1, p2, p4, p5, Nat.add_zero]
    exact ⟨⟨nilS, fun i _ _ => trivial, hfa, .nil, growa⟩, rfl⟩
  · rintro k f g ms hk ⟨⟨w, hs, hfg, hup, hnx, gv, grow⟩, rfl, p1, p2, p4, p5, p8⟩
    have hk' : (k : Int) < (S.nv : Int) := by omega
    have hw : wrapF .i64 ((k : Int) + 1) = ((k + 1 : Nat) : Int) := by rw [wrap_in (by omega) (by omega)]; rfl
    have oldg : ∀ i, i < h.next → g.get i = h.get i := fun i hi => by rw [hs i (by omega) (by omega), olda i hi]
    have hyg := hy.mono (AHeap.subOf oldg)
    have rg : Row g h.next (stL S wv vv sv) := by obtain ⟨w, gr, e⟩ := rga; exact ⟨w, gr, by rw [hs _ (by omega) (by omega)]; exact e⟩
    simp only [rn0, rn1, rn2, reduceIte, Nat.reduceEqDiff, Nat.reduceAdd, Nat.reduceMul, Nat.reduceSub, Nat.reduceLeDiff, Nat.reduceLT, p1, p2, p4, p5, p8, rg.ld, stg, Nat.zero_add, Cells.len hyg.v, hk', Cells.idx hyg.v hk, Cells.fld hyg.v hk, full_ld hyg hk]
    refine step_new (vs := [.int .i64 (S.vlo k), .int .i64 (S.vhi k)]) (by omega) (by omega) rfl (by simp only [rn0, rn1, rn2, reduceIte, Nat.reduceEqDiff, Nat.reduceAdd, Nat.reduceMul, Nat.reduceSub, Nat.reduceLeDiff, Nat.reduceLT]; rfl) rfl rfl rfl fun g5 hx5 => ?_
    have n5 := hx5.next
    have f5 := hx5.floor
    have gv5 := gv.sub hx5.sub
    have grow5 : g5.get g2.next = _ := hx5.sub _ _ _ _ trivial grow
    have rt : Row g5 g2.next _ := ⟨_, _, grow5⟩
    have w5 := hx5.row.whole (n := 2) rfl
    have c1 : ¬ S.nw + 1 + k = 0 := by omega
    have c2 : ¬ S.nw + 1 + k ≤ S.nw := by omega
    have c3 : S.nw + 1 + k - S.nw - 1 = k := by omega
    obtain ⟨x1, x2, x3, x4, x5, x6, x7, x8⟩ := hgen (S.nw + 1 + k) (by omega) (by omega) (S.vlo k) (S.vhi k) (by simp only [rLo, c1, c2, c3, if_false]) (by simp only [rHi, c1, c2, c3, if_false])
    have esz : ∀ g', g'.next < far → call n (.func (.func 100) #[] #[]) [.agg ⟨[.int .i64 (S.vlo k), .int .i64 (S.vhi k)]⟩] g' = some (.int .i64 ((rSz S (S.nw + 1 + k) : Nat) : Int), g') := fun g' hg' => by rw [← x1]; exact size_ok (n := n) (h := g') (by omega) hg' x6 x7 x8
    rw [← nthU_f hk] at x4
    have ne1 : NeB w g2.next := neB_of gv5 (by left; omega)
    have ne2 : NeB w g.next := neB_of gv (by right; omega)
    simp only [rn0, rn1, rn2, reduceIte, Nat.reduceEqDiff, Nat.reduceAdd, Nat.reduceMul, Nat.reduceSub, Nat.reduceLeDiff, Nat.reduceLT]
    refine W_draw (NeB w) ?_
    simp only [rn0, rn1, rn2, reduceIte, Nat.reduceEqDiff, Nat.reduceAdd, Nat.reduceMul, Nat.reduceSub, Nat.reduceLeDiff, Nat.reduceLT, rd_1, rd_N, rd_neb, ne1, ne2, p1, p2, p4, p5, p8, rt.ld, hx5.row.ld, w5, trg, Nat.zero_add, List.getElem?_cons_zero, gv5.cells.self, eqV_int, self_two, esz g5 (by omega), valN_tmp, r_rem x2, x3, x4, sl_int]
    refine up_slice (by omega) rfl (fun g6 hx i cs w gr _ e => hx.sub i cs w gr trivial e) fun g6 hx6 => ?_
    have n6 := hx6.next
    obtain ⟨w'', g7, e7, gv7, o7, n7, f7, old7, u7⟩ := grow_push2 (h := g5) (bytes := 8) gv5 (by omega) (by omega) (by omega) hx6 rfl rfl (fun j hj => by rw [one_get j hj]) (by simp [maxBytes]; omega) (by simp [maxBytes]; omega)
    simp only [rn0, rn1, rn2, reduceIte, Nat.reduceEqDiff, Nat.reduceAdd, Nat.reduceMul, Nat.reduceSub, Nat.reduceLeDiff, Nat.reduceLT, rd_1, rd_N, rd_neb, ne1, ne2, p1, p2, p4, p5, p8, e7, w5, self_two, Nat.zero_add, esz g7 (by omega), valN_tmp, r_quo x2, x5]
    refine ⟨⟨by omega, fun i cs w gr hi e => by rw [old7 i (AHeap.lt_of_get e) hi]; exact e⟩, ?_⟩
    refine up_store (b := g2.next) (off := 2) (vs := [w'']) rfl (by rw [old7 _ (by omega) ne1]; exact grow5) (by omega) (by omega) (cells1 o7) (by simp [allB, o7]) rfl (by simp [trL]) (fun _ _ => trivial) fun g8 hs8 => ?_
    have n8 := hs8.next
    have f8 := hs8.floor
    simp only [rn0, rn1, rn2, reduceIte, Nat.reduceEqDiff, Nat.reduceAdd, Nat.reduceMul, Nat.reduceSub, Nat.reduceLeDiff, Nat.reduceLT, p1, p2, p4, p5, p8, hw]
    exact ⟨⟨w'', fun i hi hne => by rw [hs8.old i hne, old7 i (by omega) (neB_of gv5 (by left; omega)), hx5.old i (by omega), hs i hi hne], by omega, by omega, by omega, gv7.keep hs8.keep (by omega), hs8.get⟩, rfl⟩
  rintro f gb ms ⟨⟨x', hsb, hfb, hupb, hnxb, gvb, growb⟩, rfl, p1, p2, p4, p5, p8⟩
  have oldb : ∀ i, i < h.next → gb.get i = h.get i := fun i hi => by rw [hsb i (by omega) (by omega), olda i hi]
  have hyb := hy.mono (AHeap.subOf oldb)
  have rgb : Row gb h.next (stL S wv vv sv) := by obtain ⟨w, gr, e⟩ := rga; exact ⟨w, gr, by rw [hsb _ (by omega) (by omega)]; exact e⟩
  have hm4 : gb.get g1.next = some (.row (trL nilS nilS 0) true 0) := by rw [hsb _ (by omega) (by omega)]; exact hm3
  have rr : Row gb g2.next _ := ⟨_, _, growb⟩
  have hone : allB oneCell (trL w' x' (nthU S m S.nw)) = true := by simp [trL, allB, one_int, ow, gvb.one]
  simp only [rn0, rn1, rn2, reduceIte, Nat.reduceEqDiff, Nat.reduceAdd, Nat.reduceMul, Nat.reduceSub, Nat.reduceLeDiff, Nat.reduceLT, p1, p2, p4, p5, p8, rgb.ld, stg, Nat.zero_add, Cells.len hyb.v, Int.lt_irrefl, rr.whole (n := 3) rfl]
  refine step_store (b := g1.next) (off := 0) (vs := trL w' x' (nthU S m S.nw)) rfl hm4 (by omega) (by omega) rfl hone rfl (by simp [trL]) fun gc hsc => ?_
  rw [splice_all (by rfl)] at hsc
  have nc := hsc.next
  have fc := hsc.floor
  simp only [rn0, rn1, rn2, reduceIte, Nat.reduceEqDiff, Nat.reduceAdd, Nat.reduceMul, Nat.reduceSub, Nat.reduceLeDiff, Nat.reduceLT, p4, res_cellN, hsc.row.whole (n := 3) rfl]
  have sep : ∀ {v : Value} {s m : Nat} {c : Nat → Nat → Value}, Cells gb v s m c → (∀ x k q, v = .slice (some x) k q → g1.next < x.block) → Cells gc v s m c := fun {v s m c} hc hb => by
    obtain ⟨a, cap, rfl, hsp, h0 | ⟨b, o, cs, w, gr, rfl, h1, h2⟩⟩ := hc
    · exact ⟨a, cap, rfl, hsp, .inl h0⟩
    · have := hb _ _ _ rfl
      have : b ≠ g1.next := by have : g1.next < b := this; omega
      exact ⟨_, cap, rfl, hsp, .inr ⟨b, o, cs, w, gr, rfl, by rw [hsc.old b this]; exact h1, h2⟩⟩
  refine ⟨w', x', rfl, ⟨?_, ?_⟩, fun i hi => by rw [hsc.old i (by omega), oldb i hi], by omega, by omega, by omega, fun x k c e => by have := bw x k c e; omega, fun x k c e => by have := gvb.block e; omega, (gvb.keep hsc.keep (by omega)).le (by omega), fun x k c y k' c' e e' => by have h1 := bw x k c e; have h2 := gvb.block e'; omega⟩
  · have q : Ints gb w' S.nw (nthU S m) := by
      obtain ⟨a, cap, rfl, hsp, h0 | ⟨b, o, cs, w, gr, rfl, h1, h2⟩⟩ := cw
      · exact ⟨a, cap, rfl, hsp, .inl h0⟩
      · have hb := bw _ _ _ rfl
        have hb1 : g4.next ≤ b := hb.1
        have hb2 : b < ga.next := hb.2
        exact ⟨_, cap, rfl, hsp, .inr ⟨b, o, cs, w, gr, rfl, by rw [hsb b hb2 (by omega)]; exact h1, h2⟩⟩
    exact sep q fun x k q e => by have := bw x k q e; omega
  · exact sep gvb.cells fun x k q e => by have := gvb.block e; omega
theorem nth_c (hn : 100 ≤ n) (hr : h.next + 300 < far) (hfl : h.floor ≤ h.next) {wv vv sv : Value} {S : MS} (hy : SteepR h wv vv sv S) (hG : Good S) {m : Nat} (hm : m ≤ 100000) :
    ∃ tw tf h', call n (.func (.func 63) #[] #[]) [.agg ⟨stL S wv vv sv⟩, .int .i64 (m : Int)] h = some (.agg ⟨trL tw tf (nthU S m S.nw)⟩, h') ∧ TruR h' tw tf S (nthU S m) ∧ (∀ i, i < h.next → h'.get i = h.get i) ∧ h.next ≤ h'.next ∧ h'.next ≤ h.next + 200 ∧ h'.floor = h.floor ∧ (∀ x k c, tw = .slice (some x) k c → h.next ≤ x.block) ∧ (∀ x k c, tf = .slice (some x) k c → h.next ≤ x.block) := by
  obtain ⟨tw, tf, h', e, q1, q2, q3, q4, q5, q6, q7, _⟩ := nthG_c hn hr hfl hy hG hm
  exact ⟨tw, tf, h', e, q1, q2, q3, q4, q5, q6, q7⟩

theorem p_conv16 {N : Nat} {f : Fr} {x : Operand} {ty : TypeId} : plainF Try.prog N (.convert 90 3 x) ty f h = run16 (plainF Try.prog N (.convert 90 3 x) ty f) (valN N f x) h := by
  unfold run16
  split
  · rename_i a e1
    unfold plainF
    have : allB (fun x => plainV (valN N f x)) (Op.convert 90 3 x).operands.toList = true := by simp [Op.operands, allB, e1, plainV, plainE, plainCell]
    rw [this]
    have e : pureRun Try.prog (execOp (valN N f) (bare (.convert 90 3 x) ty)) = some (.value (.int .i64 (IntKind.wrap .i64 a))) := by
      show pureRun Try.prog (convert 90 3 (valN N f x) >>= fun a => pure (Next.value a)) = _
      rw [pureRun_bind, e1]
      have hc : pureRun Try.prog (convert 90 3 (.int .u16 a)) = some (.int .i64 (IntKind.wrap .i64 a)) := by
        unfold convert
        rw [pureRun_bind, pr_under Try.underlying90, Option.bind_some, pureRun_bind, pr_under Try.underlying3]
        rfl
      rw [hc]; rfl
    rw [e]
    rfl
  · rfl
theorem wf16 {a : Int} (h : (Lit.int .u16 a).wf = true) : ∃ k : Nat, a = k ∧ k < 65536 := by
  simp only [Lit.wf, Bool.and_eq_true, decide_eq_true_eq] at h
  have h1 : (IntKind.u16).min = 0 := rfl
  have h2 : (IntKind.u16).max = 65535 := rfl
  rw [h1, h2] at h
  exact ⟨a.toNat, by omega, by omega⟩
theorem sumR_congr {u u' : Nat → Int} {b : Nat} : ∀ m, (∀ k, k < m → u (b + k) = u' (b + k)) → sumR u b m = sumR u' b m
  | 0, _ => rfl
  | m + 1, h => by
    simp only [sumR]
    rw [sumR_congr m fun k hk => h k (by omega), h m (by omega)]
theorem warm_congr {S : MS} {u u' : Nat → Int} (hG : Good S) (he : ∀ i, i < S.nw → u i = u' i) {v : Nat} {h : Int} (hh : HourOk S v h) : warmS S u v h = warmS S u' v h := by
  obtain ⟨h1, h2, h3, h4, h5, h6⟩ := hh.nat hG
  exact sumR_congr _ fun k hk => he _ (by omega)
theorem blue_congr {S : MS} {u u' : Nat → Int} (hG : Good S) (he : ∀ i, i < numU S → u i = u' i) {v : Nat} {h : Int} (hh : HourOk S v h) : blueS S u v h = blueS S u' v h := by
  have := hh.isV
  unfold blueS
  rw [warm_congr hG (fun i hi => he i (by unfold numU; omega)) hh, he (S.nw + 1 + v) (by unfold numU; omega)]
theorem kind_congr {S : MS} {u u' : Nat → Int} (hG : Good S) (he : ∀ i, i < numU S → u i = u' i) {v : Nat} {h : Int} (hh : HourOk S v h) : kindS S u v h = kindS S u' v h := by
  unfold kindS
  rw [blue_congr hG he hh, warm_congr hG (fun i hi => he i (by unfold numU; omega)) hh, he S.nw (by unfold numU; omega)]
theorem warm_next {S : MS} {u : Nat → Int} (hG : Good S) (hu : InU S u) {v : Nat} {h : Int} (hh : HourOk S v h) (hh' : HourOk S v (h + 1)) : warmS S u v h ≤ warmS S u v (h + 1) := by
  obtain ⟨h1, h2, h3, h4, h5, h6⟩ := hh.nat hG
  obtain ⟨g1, g2, g3, g4, g5, g6⟩ := hh'.nat hG
  unfold warmS
  rw [show (h + 1 - S.vb v + 1).toNat = (h - S.vb v + 1).toNat + 1 by omega]
  simp only [sumR]
  have := (hu.warm hG (i := (S.vb v).toNat + (h - S.vb v + 1).toNat) (by omega)).1
  omega
theorem blue_next {S : MS} {u : Nat → Int} (hG : Good S) (hu : InU S u) {v : Nat} {h : Int} (hh : HourOk S v h) (hh' : HourOk S v (h + 1)) : blueS S u v h ≤ blueS S u v (h + 1) := by
  obtain ⟨_, _, _, _, _, _, h7, h8, _⟩ := hG.sizes
  have := Int.mul_le_mul_of_nonneg_left (c := S.per) (warm_next hG hu hh hh') (by omega)
  unfold blueS
  omega
theorem kind_next {S : MS} {u : Nat → Int} (hG : Good S) (hu : InU S u) {v : Nat} {h : Int} (hh : HourOk S v h) (hh' : HourOk S v (h + 1)) : kindS S u v h ≤ kindS S u v (h + 1) := by
  have h1 := blue_next hG hu hh hh'
  have h2 := warm_next hG hu hh hh'
  unfold kindS
  repeat' split
  all_goals omega
theorem many_pos {S : MS} (hG : Good S) : 1 ≤ manyS S ∧ manyS S ≤ 2000 := by
  refine ⟨?_, hG.few⟩
  obtain ⟨b1, ⟨b2, b3⟩, b4, b5, b6, b7⟩ := hG.args.head
  have h2 := capN_bound (lo := S.wlo) (hi := S.whi) (n0 := S.sphi - S.splo + 1) (by omega) (by omega) S.nw fun k hk => (hG.args.warm k hk).2.1
  exact (capN_bound (lo := S.vlo) (hi := S.vhi) (n0 := capN (S.sphi - S.splo + 1) S.wlo S.whi S.nw) h2.1 h2.2 S.nv fun k hk => (hG.args.vat k hk).2.1.2.1).1
theorem listed_of {S : MS} {u : Nat → Int} (hG : Good S) (hu : InU S u) : Listed S S.nw u (u S.nw) S.nv fun v => u (S.nw + 1 + v) := by
  refine ⟨?_, rfl, rfl, fun i hi => ?_, fun i hi => ?_⟩
  · have := hu S.nw (by unfold numU; omega)
    simpa [uLo, uHi] using this
  · have := hu i (by unfold numU; omega)
    simpa [uLo, uHi, hi] using this
  · have := hu (S.nw + 1 + i) (by unfold numU; omega)
    have c1 : ¬ S.nw + 1 + i < S.nw := by omega
    have c2 : ¬ S.nw + 1 + i = S.nw := by omega
    simp only [uLo, uHi, c1, c2, if_false] at this
    rw [show S.nw + 1 + i - S.nw - 1 = i by omega] at this
    exact this

theorem flat_struct3 {P : Program} {k : IntKind} {t : TypeId} {f0 f1 f2 : Field} {s0 s1 s2 : Nat} (ht : P.underlying t = some (.struct #[f0, f1, f2])) (hc : P.cellsOf t = s0 + s1 + s2) (o0 : f0.offset = 0) (o1 : f1.offset = s0) (o2 : f2.offset = s0 + s1)
    (c0 : P.cellsOf f0.type = s0) (c1 : P.cellsOf f1.type = s1) (c2 : P.cellsOf f2.type = s2) (h0 : FlatT P k f0.type s0) (h1 : FlatT P k f1.type s1) (h2 : FlatT P k f2.type s2) : FlatT P k t (s0 + s1 + s2) := by
  intro H enc w base sp held fuel cs x h
  obtain ⟨xs, n, _, _, hl, hx, hf⟩ := DataW.trod_struct ht h
  rw [hc] at hl
  have hx3 : xs.length = 3 := hx
  have e0 := hf 0 _ rfl
  have e1 := hf 1 _ rfl
  have e2 := hf 2 _ rfl
  rw [List.getElem?_eq_getElem (by omega)] at e0 e1 e2
  change DataW.trod enc P w base sp held n f0.type ((cs.drop f0.offset).take (P.cellsOf f0.type)) = _ at e0
  obtain ⟨_, k0⟩ := h0 _ _ _ _ _ _ _ _ e0
  change DataW.trod enc P w base sp held n f1.type ((cs.drop f1.offset).take (P.cellsOf f1.type)) = _ at e1
  obtain ⟨_, k1⟩ := h1 _ _ _ _ _ _ _ _ e1
  change DataW.trod enc P w base sp held n f2.type ((cs.drop f2.offset).take (P.cellsOf f2.type)) = _ at e2
  obtain ⟨_, k2⟩ := h2 _ _ _ _ _ _ _ _ e2
  rw [o0, c0, List.drop_zero] at k0
  rw [o1, c1] at k1
  rw [o2, c2, List.take_of_length_le (by rw [List.length_drop]; omega)] at k2
  refine ⟨hl, fun v hv => ?_⟩
  rw [← List.take_append_drop s0 cs] at hv
  rcases List.mem_append.1 hv with hv | hv
  · exact k0 v hv
  · rw [← List.take_append_drop s1 (cs.drop s0), List.drop_drop] at hv
    rcases List.mem_append.1 hv with hv | hv
    · exact k1 v hv
    · exact k2 v hv
theorem c3 : Try.prog.cellsOf 3 = 1 := by kernel_rfl
theorem c24 : Try.prog.cellsOf 24 = 2 := by kernel_rfl
theorem c52 : Try.prog.cellsOf 52 = 4 := by kernel_rfl
theorem c105 : Try.prog.cellsOf 105 = 3 := by kernel_rfl
theorem c22 : Try.prog.cellsOf 22 = 1 := by kernel_rfl
theorem c25 : Try.prog.cellsOf 25 = 1 := by kernel_rfl
theorem c26 : Try.prog.cellsOf 26 = 1 := by kernel_rfl
theorem c28 : Try.prog.cellsOf 28 = 7 := by kernel_rfl
theorem c90 : Try.prog.cellsOf 90 = 1 := by kernel_rfl
theorem flat3 : FlatT Try.prog .i64 3 1 := flat_int (by rfl)
theorem flat24 : FlatT Try.prog .i64 24 2 := flat_struct2 (s0 := 1) (s1 := 1) Try.underlying24 c24 rfl rfl c3 c3 flat3 flat3
theorem flat52 : FlatT Try.prog .i64 52 4 := flat_struct3 (s0 := 1) (s1 := 2) (s2 := 1) Try.underlying52 c52 rfl rfl rfl c3 c24 c3 flat3 flat24 flat3
theorem flat105 : FlatT Try.prog .i64 105 3 := flat_struct3 (s0 := 1) (s1 := 1) (s2 := 1) Try.underlying105 c105 rfl rfl rfl c3 c3 c3 flat3 flat3 flat3
section
variable {H : Type} {enc : TypeId × Value → H} {w : World} {base : Nat} {sp : Nat → Bool} {held : Bool} {fuel : Nat} {cs : List Value} {x : DataW H × List MemPlace}
structure SteepW (wd : World) (wv vv sv : Value) : Prop where
  w : FlatS wd .i64 2 wv
  v : FlatS wd .i64 4 vv
  s : FlatS wd .i64 3 sv
theorem steepW_of (h : DataW.trod enc Try.prog w base sp held fuel 28 cs = some x) : ∃ a b c d wv vv sv, cs = [.int .i64 a, .int .i64 b, wv, .int .i64 c, .int .i64 d, vv, sv] ∧ SteepW w wv vv sv := by
  obtain ⟨xs, n, _, _, hl, hx, hf⟩ := DataW.trod_struct Try.underlying28 h
  rw [c28] at hl
  obtain ⟨a, b, wv, c, d, vv, sv, rfl⟩ : ∃ a b c d e f g, cs = [a, b, c, d, e, f, g] := by
    match cs, hl with
    | [a, b, c, d, e, f, g], _ => exact ⟨a, b, c, d, e, f, g, rfl⟩
  have hx3 : xs.length = 6 := hx
  have h0 := hf 0 _ rfl
  have h1 := hf 1 _ rfl
  have h2 := hf 2 _ rfl
  have h3 := hf 3 _ rfl
  have h4 := hf 4 _ rfl
  have h5 := hf 5 _ rfl
  rw [List.getElem?_eq_getElem (by omega)] at h0 h1 h2 h3 h4 h5
  change DataW.trod enc Try.prog w base sp held n 3 (([a, b, wv, c, d, vv, sv].drop 0).take (Try.prog.cellsOf 3)) = _ at h0
  change DataW.trod enc Try.prog w base sp held n 3 (([a, b, wv, c, d, vv, sv].drop 1).take (Try.prog.cellsOf 3)) = _ at h1
  change DataW.trod enc Try.prog w base sp held n 22 (([a, b, wv, c, d, vv, sv].drop 2).take (Try.prog.cellsOf 22)) = _ at h2
  change DataW.trod enc Try.prog w base sp held n 24 (([a, b, wv, c, d, vv, sv].drop 3).take (Try.prog.cellsOf 24)) = _ at h3
  change DataW.trod enc Try.prog w base sp held n 25 (([a, b, wv, c, d, vv, sv].drop 5).take (Try.prog.cellsOf 25)) = _ at h4
  change DataW.trod enc Try.prog w base sp held n 26 (([a, b, wv, c, d, vv, sv].drop 6).take (Try.prog.cellsOf 26)) = _ at h5
  rw [c3] at h0 h1
  rw [c22] at h2
  rw [c24] at h3
  rw [c25] at h4
  rw [c26] at h5
  obtain ⟨_, k0⟩ := flat3 _ _ _ _ _ _ _ _ h0
  obtain ⟨_, k1⟩ := flat3 _ _ _ _ _ _ _ _ h1
  obtain ⟨_, k3⟩ := flat24 _ _ _ _ _ _ _ _ h3
  obtain ⟨_, e2, k2⟩ := flat_slice Try.underlying22 c24 (by omega) flat24 h2
  obtain ⟨_, e4, k4⟩ := flat_slice Try.underlying25 c52 (by omega) flat52 h4
  obtain ⟨_, e5, k5⟩ := flat_slice Try.underlying26 c105 (by omega) flat105 h5
  cases e2
  cases e4
  cases e5
  obtain ⟨a', rfl, _⟩ := k0 a (by simp)
  obtain ⟨b', rfl, _⟩ := k1 b (by simp)
  obtain ⟨c', rfl, _⟩ := k3 c (by simp)
  obtain ⟨d', rfl, _⟩ := k3 d (by simp)
  exact ⟨a', b', c', d', wv, vv, sv, rfl, k2, k4, k5⟩
end
theorem steep_load {w : World} {φ : Emb} (L : Loaded w φ h) (hn : h.next + 40 < far) {wv vv sv : Value} (hy : SteepW w wv vv sv) (a b c d : Int) :
    ∃ φ' h' u0 u1 u2 S, Step w φ h φ' h' 3 ∧ Stands φ' h' u0 wv ∧ Stands φ' h' u1 vv ∧ Stands φ' h' u2 sv ∧ SteepR h' u0 u1 u2 S ∧ S.last = a ∧ S.per = b ∧ S.splo = c ∧ S.sphi = d := by
  obtain ⟨φ1, h1, u0, s1, t1, c0, r0⟩ := L.flat (by omega) (by omega) hy.w
  have n1 := s1.next
  obtain ⟨φ2, h2, u1, s2, t2, c1, r1⟩ := s1.ld.flat (by omega) (by omega) hy.v
  have n2 := s2.next
  obtain ⟨φ3, h3, u2, s3, t3, c2, r2⟩ := s2.ld.flat (by omega) (by omega) hy.s
  have n3 := s3.next
  have st := (s1.trans s2).trans s3
  refine ⟨φ3, h3, u0, u1, u2, ⟨a, b, vlen wv, fun k => c0 k 0, fun k => c0 k 1, c, d, vlen vv, fun k => c1 k 0, fun k => c1 k 1, fun k => c1 k 2, fun k => c1 k 3, vlen sv, fun k => c2 k 0, fun k => c2 k 1, fun k => c2 k 2⟩, st, (t1.step s2).step s3, t2.step s3, t3, ⟨?_, ?_, ?_⟩, rfl, rfl, rfl, rfl⟩
  · refine cells_congr (r0.mono (s2.sub.trans s3.sub)) fun k j hk hj => ?_
    rcases j with _ | _ | j
    · rfl
    · rfl
    · omega
  · refine cells_congr (r1.mono s3.sub) fun k j hk hj => ?_
    rcases j with _ | _ | _ | _ | j
    · rfl
    · rfl
    · rfl
    · rfl
    · omega
  · refine cells_congr r2 fun k j hk hj => ?_
    rcases j with _ | _ | _ | j
    · rfl
    · rfl
    · rfl
    · omega
end Go.Vm.St

namespace Go.Vm.StAwake
def quiet : List Nat := [46]
def e0 : Entry :=
  { next := 7, f := 25, args := [(.agg ⟨[(.int Go.IntKind.i64 (3)), (.int Go.IntKind.i64 (3)), (.slice (some ⟨2, 0, none⟩) 4 4), (.int Go.IntKind.i64 (7)), (.int Go.IntKind.i64 (8)), (.slice (some ⟨3, 0, none⟩) 2 2), (.slice (some ⟨1, 0, none⟩) 0 2)]⟩), (.agg ⟨[(.slice (some ⟨5, 0, none⟩) 4 4), (.int Go.IntKind.i64 (7)), (.slice (some ⟨6, 0, none⟩) 2 2)]⟩)], objs := [(6, .row [(.int Go.IntKind.i64 (21)), (.int Go.IntKind.i64 (9))] true 0), (5, .row [(.int Go.IntKind.i64 (2)), (.int Go.IntKind.i64 (2)), (.int Go.IntKind.i64 (2)), (.int Go.IntKind.i64 (3))] true 0), (1, .row [(.int Go.IntKind.i64 (0)), (.int Go.IntKind.i64 (1)), (.int Go.IntKind.i64 (1)), (.int Go.IntKind.i64 (0)), (.int Go.IntKind.i64 (3)), (.int Go.IntKind.i64 (1))] true 0), (3, .row [(.int Go.IntKind.i64 (0)), (.int Go.IntKind.i64 (20)), (.int Go.IntKind.i64 (22)), (.int Go.IntKind.i64 (14)), (.int Go.IntKind.i64 (1)), (.int Go.IntKind.i64 (9)), (.int Go.IntKind.i64 (9)), (.int Go.IntKind.i64 (9))] true 0), (2, .row [(.int Go.IntKind.i64 (2)), (.int Go.IntKind.i64 (3)), (.int Go.IntKind.i64 (2)), (.int Go.IntKind.i64 (2)), (.int Go.IntKind.i64 (1)), (.int Go.IntKind.i64 (2)), (.int Go.IntKind.i64 (3)), (.int Go.IntKind.i64 (3))] true 0)], val := (.tuple ⟨[(.slice (some ⟨192, 0, none⟩) 2 4611686018427387904), (.slice (some ⟨227, 0, none⟩) 2 4611686018427387904), (.int Go.IntKind.i64 (0))]⟩), next' := 228, objs' := [(197, .row [(.int Go.IntKind.i64 (0)), (.int Go.IntKind.i64 (1)), (.int Go.IntKind.i64 (1))] true 0), (135, .row [(.int Go.IntKind.i64 (0)), (.int Go.IntKind.i64 (0)), (.int Go.IntKind.i64 (1)), (.int Go.IntKind.i64 (2))] true 0), (227, .row [(.slice (some ⟨135, 0, none⟩) 4 4), (.slice (some ⟨197, 0, none⟩) 3 3)] true 1), (174, .row [(.int Go.IntKind.i64 (6)), (.int Go.IntKind.i64 (9)), (.int Go.IntKind.i64 (9))] true 0), (107, .row [(.int Go.IntKind.i64 (6)), (.int Go.IntKind.i64 (12)), (.int Go.IntKind.i64 (18)), (.int Go.IntKind.i64 (21))] true 0), (192, .row [(.slice (some ⟨107, 0, none⟩) 4 4), (.slice (some ⟨174, 0, none⟩) 3 3)] true 1)] }
def e1 : Entry :=
  { next := 232, f := 35, args := [(.agg ⟨[(.int Go.IntKind.i64 (3)), (.int Go.IntKind.i64 (3)), (.slice (some ⟨230, 0, none⟩) 4 4), (.int Go.IntKind.i64 (7)), (.int Go.IntKind.i64 (8)), (.slice (some ⟨231, 0, none⟩) 2 2), (.slice (some ⟨229, 0, none⟩) 0 2)]⟩), (.int Go.IntKind.i64 (0))], objs := [(229, .row [(.int Go.IntKind.i64 (0)), (.int Go.IntKind.i64 (1)), (.int Go.IntKind.i64 (1)), (.int Go.IntKind.i64 (0)), (.int Go.IntKind.i64 (3)), (.int Go.IntKind.i64 (1))] true 0), (231, .row [(.int Go.IntKind.i64 (0)), (.int Go.IntKind.i64 (20)), (.int Go.IntKind.i64 (22)), (.int Go.IntKind.i64 (14)), (.int Go.IntKind.i64 (1)), (.int Go.IntKind.i64 (9)), (.int Go.IntKind.i64 (9)), (.int Go.IntKind.i64 (9))] true 0), (230, .row [(.int Go.IntKind.i64 (2)), (.int Go.IntKind.i64 (3)), (.int Go.IntKind.i64 (2)), (.int Go.IntKind.i64 (2)), (.int Go.IntKind.i64 (1)), (.int Go.IntKind.i64 (2)), (.int Go.IntKind.i64 (3)), (.int Go.IntKind.i64 (3))] true 0)], val := (.tuple ⟨[(.slice (some ⟨524, 0, none⟩) 4 4611686018427387904), (.int Go.IntKind.i64 (0))]⟩), next' := 1238, objs' := [(524, .row [(.int Go.IntKind.i64 (6)), (.int Go.IntKind.i64 (9)), (.int Go.IntKind.i64 (12)), (.int Go.IntKind.i64 (15)), (.int Go.IntKind.i64 (15)), (.int Go.IntKind.i64 (21)), (.int Go.IntKind.i64 (20)), (.int Go.IntKind.i64 (22))] true 2)] }
def e2 : Entry :=
  { next := 1242, f := 40, args := [(.agg ⟨[(.int Go.IntKind.i64 (3)), (.int Go.IntKind.i64 (3)), (.slice (some ⟨1240, 0, none⟩) 4 4), (.int Go.IntKind.i64 (7)), (.int Go.IntKind.i64 (8)), (.slice (some ⟨1241, 0, none⟩) 2 2), (.slice (some ⟨1239, 0, none⟩) 0 2)]⟩), (.int Go.IntKind.i64 (0)), (.int Go.IntKind.i64 (1))], objs := [(1239, .row [(.int Go.IntKind.i64 (0)), (.int Go.IntKind.i64 (1)), (.int Go.IntKind.i64 (1)), (.int Go.IntKind.i64 (0)), (.int Go.IntKind.i64 (3)), (.int Go.IntKind.i64 (1))] true 0), (1241, .row [(.int Go.IntKind.i64 (0)), (.int Go.IntKind.i64 (20)), (.int Go.IntKind.i64 (22)), (.int Go.IntKind.i64 (14)), (.int Go.IntKind.i64 (1)), (.int Go.IntKind.i64 (9)), (.int Go.IntKind.i64 (9)), (.int Go.IntKind.i64 (9))] true 0), (1240, .row [(.int Go.IntKind.i64 (2)), (.int Go.IntKind.i64 (3)), (.int Go.IntKind.i64 (2)), (.int Go.IntKind.i64 (2)), (.int Go.IntKind.i64 (1)), (.int Go.IntKind.i64 (2)), (.int Go.IntKind.i64 (3)), (.int Go.IntKind.i64 (3))] true 0)], val := (.tuple ⟨[(.int Go.IntKind.i64 (3)), (.int Go.IntKind.i64 (0))]⟩), next' := 2431, objs' := [] }
def e3 : Entry :=
  { next := 2435, f := 44, args := [(.agg ⟨[(.int Go.IntKind.i64 (3)), (.int Go.IntKind.i64 (3)), (.slice (some ⟨2433, 0, none⟩) 4 4), (.int Go.IntKind.i64 (7)), (.int Go.IntKind.i64 (8)), (.slice (some ⟨2434, 0, none⟩) 2 2), (.slice (some ⟨2432, 0, none⟩) 1 2)]⟩), (.int Go.IntKind.i64 (0))], objs := [(2432, .row [(.int Go.IntKind.i64 (0)), (.int Go.IntKind.i64 (1)), (.int Go.IntKind.i64 (1)), (.int Go.IntKind.i64 (0)), (.int Go.IntKind.i64 (3)), (.int Go.IntKind.i64 (1))] true 0), (2434, .row [(.int Go.IntKind.i64 (0)), (.int Go.IntKind.i64 (20)), (.int Go.IntKind.i64 (22)), (.int Go.IntKind.i64 (14)), (.int Go.IntKind.i64 (1)), (.int Go.IntKind.i64 (9)), (.int Go.IntKind.i64 (9)), (.int Go.IntKind.i64 (9))] true 0), (2433, .row [(.int Go.IntKind.i64 (2)), (.int Go.IntKind.i64 (3)), (.int Go.IntKind.i64 (2)), (.int Go.IntKind.i64 (2)), (.int Go.IntKind.i64 (1)), (.int Go.IntKind.i64 (2)), (.int Go.IntKind.i64 (3)), (.int Go.IntKind.i64 (3))] true 0)], val := (.tuple ⟨[(.agg ⟨[(.int Go.IntKind.i64 (1)), (.int Go.IntKind.i64 (2))]⟩), (.int Go.IntKind.i64 (0))]⟩), next' := 3476, objs' := [] }
def e4 : Entry :=
  { next := 3481, f := 47, args := [(.agg ⟨[(.int Go.IntKind.i64 (3)), (.int Go.IntKind.i64 (3)), (.slice (some ⟨3479, 0, none⟩) 4 4), (.int Go.IntKind.i64 (7)), (.int Go.IntKind.i64 (8)), (.slice (some ⟨3480, 0, none⟩) 2 2), (.slice (some ⟨3478, 0, none⟩) 0 2)]⟩)], objs := [(3478, .row [(.int Go.IntKind.i64 (0)), (.int Go.IntKind.i64 (1)), (.int Go.IntKind.i64 (1)), (.int Go.IntKind.i64 (0)), (.int Go.IntKind.i64 (3)), (.int Go.IntKind.i64 (1))] true 0), (3480, .row [(.int Go.IntKind.i64 (0)), (.int Go.IntKind.i64 (20)), (.int Go.IntKind.i64 (22)), (.int Go.IntKind.i64 (16)), (.int Go.IntKind.i64 (1)), (.int Go.IntKind.i64 (9)), (.int Go.IntKind.i64 (9)), (.int Go.IntKind.i64 (9))] true 0), (3479, .row [(.int Go.IntKind.i64 (2)), (.int Go.IntKind.i64 (3)), (.int Go.IntKind.i64 (2)), (.int Go.IntKind.i64 (2)), (.int Go.IntKind.i64 (1)), (.int Go.IntKind.i64 (2)), (.int Go.IntKind.i64 (3)), (.int Go.IntKind.i64 (3))] true 0)], val := (.tuple ⟨[(.int Go.IntKind.i64 (0)), (.int Go.IntKind.i64 (0))]⟩), next' := 4673, objs' := [] }
def e5 : Entry :=
  { next := 4678, f := 94, args := [(.agg ⟨[(.int Go.IntKind.i64 (3)), (.int Go.IntKind.i64 (3)), (.slice (some ⟨4675, 0, none⟩) 4 4), (.int Go.IntKind.i64 (7)), (.int Go.IntKind.i64 (8)), (.slice (some ⟨4676, 0, none⟩) 2 2), (.slice (some ⟨4674, 0, none⟩) 0 2)]⟩)], objs := [(4674, .row [(.int Go.IntKind.i64 (0)), (.int Go.IntKind.i64 (1)), (.int Go.IntKind.i64 (1)), (.int Go.IntKind.i64 (0)), (.int Go.IntKind.i64 (3)), (.int Go.IntKind.i64 (1))] true 0), (4676, .row [(.int Go.IntKind.i64 (0)), (.int Go.IntKind.i64 (20)), (.int Go.IntKind.i64 (22)), (.int Go.IntKind.i64 (14)), (.int Go.IntKind.i64 (1)), (.int Go.IntKind.i64 (9)), (.int Go.IntKind.i64 (9)), (.int Go.IntKind.i64 (9))] true 0), (4675, .row [(.int Go.IntKind.i64 (2)), (.int Go.IntKind.i64 (3)), (.int Go.IntKind.i64 (2)), (.int Go.IntKind.i64 (2)), (.int Go.IntKind.i64 (1)), (.int Go.IntKind.i64 (2)), (.int Go.IntKind.i64 (3)), (.int Go.IntKind.i64 (3))] true 0)], val := (.tuple ⟨[(.agg ⟨[(.int Go.IntKind.i64 (3)), (.int Go.IntKind.i64 (3)), (.slice (some ⟨4675, 0, none⟩) 4 4), (.int Go.IntKind.i64 (7)), (.int Go.IntKind.i64 (8)), (.slice (some ⟨4676, 0, none⟩) 2 2), (.slice (some ⟨4674, 0, none⟩) 0 2), (.slice (some ⟨4929, 0, none⟩) 24 4611686018427387904)]⟩), (.int Go.IntKind.i64 (0))]⟩), next' := 4931, objs' := [(4929, .row [(.int Go.IntKind.i64 (2)), (.int Go.IntKind.i64 (2)), (.int Go.IntKind.i64 (1)), (.int Go.IntKind.i64 (3)), (.int Go.IntKind.i64 (0)), (.int Go.IntKind.i64 (0)), (.int Go.IntKind.i64 (7)), (.int Go.IntKind.i64 (20)), (.int Go.IntKind.i64 (9)), (.int Go.IntKind.i64 (0)), (.int Go.IntKind.i64 (0)), (.int Go.IntKind.i64 (2)), (.int Go.IntKind.i64 (2)), (.int Go.IntKind.i64 (1)), (.int Go.IntKind.i64 (3)), (.int Go.IntKind.i64 (0)), (.int Go.IntKind.i64 (0)), (.int Go.IntKind.i64 (7)), (.int Go.IntKind.i64 (21)), (.int Go.IntKind.i64 (9)), (.int Go.IntKind.i64 (0)), (.int Go.IntKind.i64 (0)), (.int Go.IntKind.i64 (2)), (.int Go.IntKind.i64 (2)), (.int Go.IntKind.i64 (1)), (.int Go.IntKind.i64 (3)), (.int Go.IntKind.i64 (0)), (.int Go.IntKind.i64 (0)), (.int Go.IntKind.i64 (7)), (.int Go.IntKind.i64 (22)), (.int Go.IntKind.i64 (9)), (.int Go.IntKind.i64 (0)), (.int Go.IntKind.i64 (0)), (.int Go.IntKind.i64 (2)), (.int Go.IntKind.i64 (2)), (.int Go.IntKind.i64 (1)), (.int Go.IntKind.i64 (3)), (.int Go.IntKind.i64 (0)), (.int Go.IntKind.i64 (0)), (.int Go.IntKind.i64 (8)), (.int Go.IntKind.i64 (20)), (.int Go.IntKind.i64 (9)), (.int Go.IntKind.i64 (0)), (.int Go.IntKind.i64 (0)), (.int Go.IntKind.i64 (2)), (.int Go.IntKind.i64 (2)), (.int Go.IntKind.i64 (1)), (.int Go.IntKind.i64 (3)), (.int Go.IntKind.i64 (0)), (.int Go.IntKind.i64 (0)), (.int Go.IntKind.i64 (8)), (.int Go.IntKind.i64 (21)), (.int Go.IntKind.i64 (9)), (.int Go.IntKind.i64 (0)), (.int Go.IntKind.i64 (0)), (.int Go.IntKind.i64 (2)), (.int Go.IntKind.i64 (2)), (.int Go.IntKind.i64 (1)), (.int Go.IntKind.i64 (3)), (.int Go.IntKind.i64 (0)), (.int Go.IntKind.i64 (0)), (.int Go.IntKind.i64 (8)), (.int Go.IntKind.i64 (22)), (.int Go.IntKind.i64 (9)), (.int Go.IntKind.i64 (0)), (.int Go.IntKind.i64 (0)), (.int Go.IntKind.i64 (2)), (.int Go.IntKind.i64 (2)), (.int Go.IntKind.i64 (2)), (.int Go.IntKind.i64 (3)), (.int Go.IntKind.i64 (0)), (.int Go.IntKind.i64 (0)), (.int Go.IntKind.i64 (7)), (.int Go.IntKind.i64 (20)), (.int Go.IntKind.i64 (9)), (.int Go.IntKind.i64 (0)), (.int Go.IntKind.i64 (0)), (.int Go.IntKind.i64 (2)), (.int Go.IntKind.i64 (2)), (.int Go.IntKind.i64 (2)), (.int Go.IntKind.i64 (3)), (.int Go.IntKind.i64 (0)), (.int Go.IntKind.i64 (0)), (.int Go.IntKind.i64 (7)), (.int Go.IntKind.i64 (21)), (.int Go.IntKind.i64 (9)), (.int Go.IntKind.i64 (0)), (.int Go.IntKind.i64 (0)), (.int Go.IntKind.i64 (2)), (.int Go.IntKind.i64 (2)), (.int Go.IntKind.i64 (2)), (.int Go.IntKind.i64 (3)), (.int Go.IntKind.i64 (0)), (.int Go.IntKind.i64 (0)), (.int Go.IntKind.i64 (7)), (.int Go.IntKind.i64 (22)), (.int Go.IntKind.i64 (9)), (.int Go.IntKind.i64 (0)), (.int Go.IntKind.i64 (0)), (.int Go.IntKind.i64 (2)), (.int Go.IntKind.i64 (2)), (.int Go.IntKind.i64 (2)), (.int Go.IntKind.i64 (3)), (.int Go.IntKind.i64 (0)), (.int Go.IntKind.i64 (0)), (.int Go.IntKind.i64 (8)), (.int Go.IntKind.i64 (20)), (.int Go.IntKind.i64 (9)), (.int Go.IntKind.i64 (0)), (.int Go.IntKind.i64 (0)), (.int Go.IntKind.i64 (2)), (.int Go.IntKind.i64 (2)), (.int Go.IntKind.i64 (2)), (.int Go.IntKind.i64 (3)), (.int Go.IntKind.i64 (0)), (.int Go.IntKind.i64 (0)), (.int Go.IntKind.i64 (8)), (.int Go.IntKind.i64 (21)), (.int Go.IntKind.i64 (9)), (.int Go.IntKind.i64 (0)), (.int Go.IntKind.i64 (0)), (.int Go.IntKind.i64 (2)), (.int Go.IntKind.i64 (2)), (.int Go.IntKind.i64 (2)), (.int Go.IntKind.i64 (3)), (.int Go.IntKind.i64 (0)), (.int Go.IntKind.i64 (0)), (.int Go.IntKind.i64 (8)), (.int Go.IntKind.i64 (22)), (.int Go.IntKind.i64 (9)), (.int Go.IntKind.i64 (0)), (.int Go.IntKind.i64 (0)), (.int Go.IntKind.i64 (3)), (.int Go.IntKind.i64 (2)), (.int Go.IntKind.i64 (1)), (.int Go.IntKind.i64 (3)), (.int Go.IntKind.i64 (0)), (.int Go.IntKind.i64 (0)), (.int Go.IntKind.i64 (7)), (.int Go.IntKind.i64 (20)), (.int Go.IntKind.i64 (9)), (.int Go.IntKind.i64 (0)), (.int Go.IntKind.i64 (0)), (.int Go.IntKind.i64 (3)), (.int Go.IntKind.i64 (2)), (.int Go.IntKind.i64 (1)), (.int Go.IntKind.i64 (3)), (.int Go.IntKind.i64 (0)), (.int Go.IntKind.i64 (0)), (.int Go.IntKind.i64 (7)), (.int Go.IntKind.i64 (21)), (.int Go.IntKind.i64 (9)), (.int Go.IntKind.i64 (0)), (.int Go.IntKind.i64 (0)), (.int Go.IntKind.i64 (3)), (.int Go.IntKind.i64 (2)), (.int Go.IntKind.i64 (1)), (.int Go.IntKind.i64 (3)), (.int Go.IntKind.i64 (0)), (.int Go.IntKind.i64 (0)), (.int Go.IntKind.i64 (7)), (.int Go.IntKind.i64 (22)), (.int Go.IntKind.i64 (9)), (.int Go.IntKind.i64 (0)), (.int Go.IntKind.i64 (0)), (.int Go.IntKind.i64 (3)), (.int Go.IntKind.i64 (2)), (.int Go.IntKind.i64 (1)), (.int Go.IntKind.i64 (3)), (.int Go.IntKind.i64 (0)), (.int Go.IntKind.i64 (0)), (.int Go.IntKind.i64 (8)), (.int Go.IntKind.i64 (20)), (.int Go.IntKind.i64 (9)), (.int Go.IntKind.i64 (0)), (.int Go.IntKind.i64 (0)), (.int Go.IntKind.i64 (3)), (.int Go.IntKind.i64 (2)), (.int Go.IntKind.i64 (1)), (.int Go.IntKind.i64 (3)), (.int Go.IntKind.i64 (0)), (.int Go.IntKind.i64 (0)), (.int Go.IntKind.i64 (8)), (.int Go.IntKind.i64 (21)), (.int Go.IntKind.i64 (9)), (.int Go.IntKind.i64 (0)), (.int Go.IntKind.i64 (0)), (.int Go.IntKind.i64 (3)), (.int Go.IntKind.i64 (2)), (.int Go.IntKind.i64 (1)), (.int Go.IntKind.i64 (3)), (.int Go.IntKind.i64 (0)), (.int Go.IntKind.i64 (0)), (.int Go.IntKind.i64 (8)), (.int Go.IntKind.i64 (22)), (.int Go.IntKind.i64 (9)), (.int Go.IntKind.i64 (0)), (.int Go.IntKind.i64 (0)), (.int Go.IntKind.i64 (3)), (.int Go.IntKind.i64 (2)), (.int Go.IntKind.i64 (2)), (.int Go.IntKind.i64 (3)), (.int Go.IntKind.i64 (0)), (.int Go.IntKind.i64 (0)), (.int Go.IntKind.i64 (7)), (.int Go.IntKind.i64 (20)), (.int Go.IntKind.i64 (9)), (.int Go.IntKind.i64 (0)), (.int Go.IntKind.i64 (0)), (.int Go.IntKind.i64 (3)), (.int Go.IntKind.i64 (2)), (.int Go.IntKind.i64 (2)), (.int Go.IntKind.i64 (3)), (.int Go.IntKind.i64 (0)), (.int Go.IntKind.i64 (0)), (.int Go.IntKind.i64 (7)), (.int Go.IntKind.i64 (21)), (.int Go.IntKind.i64 (9)), (.int Go.IntKind.i64 (0)), (.int Go.IntKind.i64 (0)), (.int Go.IntKind.i64 (3)), (.int Go.IntKind.i64 (2)), (.int Go.IntKind.i64 (2)), (.int Go.IntKind.i64 (3)), (.int Go.IntKind.i64 (0)), (.int Go.IntKind.i64 (0)), (.int Go.IntKind.i64 (7)), (.int Go.IntKind.i64 (22)), (.int Go.IntKind.i64 (9)), (.int Go.IntKind.i64 (0)), (.int Go.IntKind.i64 (0)), (.int Go.IntKind.i64 (3)), (.int Go.IntKind.i64 (2)), (.int Go.IntKind.i64 (2)), (.int Go.IntKind.i64 (3)), (.int Go.IntKind.i64 (0)), (.int Go.IntKind.i64 (0)), (.int Go.IntKind.i64 (8)), (.int Go.IntKind.i64 (20)), (.int Go.IntKind.i64 (9)), (.int Go.IntKind.i64 (0)), (.int Go.IntKind.i64 (0)), (.int Go.IntKind.i64 (3)), (.int Go.IntKind.i64 (2)), (.int Go.IntKind.i64 (2)), (.int Go.IntKind.i64 (3)), (.int Go.IntKind.i64 (0)), (.int Go.IntKind.i64 (0)), (.int Go.IntKind.i64 (8)), (.int Go.IntKind.i64 (21)), (.int Go.IntKind.i64 (9)), (.int Go.IntKind.i64 (0)), (.int Go.IntKind.i64 (0)), (.int Go.IntKind.i64 (3)), (.int Go.IntKind.i64 (2)), (.int Go.IntKind.i64 (2)), (.int Go.IntKind.i64 (3)), (.int Go.IntKind.i64 (0)), (.int Go.IntKind.i64 (0)), (.int Go.IntKind.i64 (8)), (.int Go.IntKind.i64 (22)), (.int Go.IntKind.i64 (9)), (.int Go.IntKind.i64 (0)), (.int Go.IntKind.i64 (0))] true 11)] }
def e6 : Entry :=
  { next := 4932, f := 95, args := [(.agg ⟨[(.int Go.IntKind.i64 (3)), (.int Go.IntKind.i64 (3)), (.slice (some ⟨4675, 0, none⟩) 4 4), (.int Go.IntKind.i64 (7)), (.int Go.IntKind.i64 (8)), (.slice (some ⟨4676, 0, none⟩) 2 2), (.slice (some ⟨4674, 0, none⟩) 0 2), (.slice (some ⟨4929, 0, none⟩) 24 4611686018427387904)]⟩)], objs := [(4929, .row [(.int Go.IntKind.i64 (2)), (.int Go.IntKind.i64 (2)), (.int Go.IntKind.i64 (1)), (.int Go.IntKind.i64 (3)), (.int Go.IntKind.i64 (0)), (.int Go.IntKind.i64 (0)), (.int Go.IntKind.i64 (7)), (.int Go.IntKind.i64 (20)), (.int Go.IntKind.i64 (9)), (.int Go.IntKind.i64 (0)), (.int Go.IntKind.i64 (0)), (.int Go.IntKind.i64 (2)), (.int Go.IntKind.i64 (2)), (.int Go.IntKind.i64 (1)), (.int Go.IntKind.i64 (3)), (.int Go.IntKind.i64 (0)), (.int Go.IntKind.i64 (0)), (.int Go.IntKind.i64 (7)), (.int Go.IntKind.i64 (21)), (.int Go.IntKind.i64 (9)), (.int Go.IntKind.i64 (0)), (.int Go.IntKind.i64 (0)), (.int Go.IntKind.i64 (2)), (.int Go.IntKind.i64 (2)), (.int Go.IntKind.i64 (1)), (.int Go.IntKind.i64 (3)), (.int Go.IntKind.i64 (0)), (.int Go.IntKind.i64 (0)), (.int Go.IntKind.i64 (7)), (.int Go.IntKind.i64 (22)), (.int Go.IntKind.i64 (9)), (.int Go.IntKind.i64 (0)), (.int Go.IntKind.i64 (0)), (.int Go.IntKind.i64 (2)), (.int Go.IntKind.i64 (2)), (.int Go.IntKind.i64 (1)), (.int Go.IntKind.i64 (3)), (.int Go.IntKind.i64 (0)), (.int Go.IntKind.i64 (0)), (.int Go.IntKind.i64 (8)), (.int Go.IntKind.i64 (20)), (.int Go.IntKind.i64 (9)), (.int Go.IntKind.i64 (0)), (.int Go.IntKind.i64 (0)), (.int Go.IntKind.i64 (2)), (.int Go.IntKind.i64 (2)), (.int Go.IntKind.i64 (1)), (.int Go.IntKind.i64 (3)), (.int Go.IntKind.i64 (0)), (.int Go.IntKind.i64 (0)), (.int Go.IntKind.i64 (8)), (.int Go.IntKind.i64 (21)), (.int Go.IntKind.i64 (9)), (.int Go.IntKind.i64 (0)), (.int Go.IntKind.i64 (0)), (.int Go.IntKind.i64 (2)), (.int Go.IntKind.i64 (2)), (.int Go.IntKind.i64 (1)), (.int Go.IntKind.i64 (3)), (.int Go.IntKind.i64 (0)), (.int Go.IntKind.i64 (0)), (.int Go.IntKind.i64 (8)), (.int Go.IntKind.i64 (22)), (.int Go.IntKind.i64 (9)), (.int Go.IntKind.i64 (0)), (.int Go.IntKind.i64 (0)), (.int Go.IntKind.i64 (2)), (.int Go.IntKind.i64 (2)), (.int Go.IntKind.i64 (2)), (.int Go.IntKind.i64 (3)), (.int Go.IntKind.i64 (0)), (.int Go.IntKind.i64 (0)), (.int Go.IntKind.i64 (7)), (.int Go.IntKind.i64 (20)), (.int Go.IntKind.i64 (9)), (.int Go.IntKind.i64 (0)), (.int Go.IntKind.i64 (0)), (.int Go.IntKind.i64 (2)), (.int Go.IntKind.i64 (2)), (.int Go.IntKind.i64 (2)), (.int Go.IntKind.i64 (3)), (.int Go.IntKind.i64 (0)), (.int Go.IntKind.i64 (0)), (.int Go.IntKind.i64 (7)), (.int Go.IntKind.i64 (21)), (.int Go.IntKind.i64 (9)), (.int Go.IntKind.i64 (0)), (.int Go.IntKind.i64 (0)), (.int Go.IntKind.i64 (2)), (.int Go.IntKind.i64 (2)), (.int Go.IntKind.i64 (2)), (.int Go.IntKind.i64 (3)), (.int Go.IntKind.i64 (0)), (.int Go.IntKind.i64 (0)), (.int Go.IntKind.i64 (7)), (.int Go.IntKind.i64 (22)), (.int Go.IntKind.i64 (9)), (.int Go.IntKind.i64 (0)), (.int Go.IntKind.i64 (0)), (.int Go.IntKind.i64 (2)), (.int Go.IntKind.i64 (2)), (.int Go.IntKind.i64 (2)), (.int Go.IntKind.i64 (3)), (.int Go.IntKind.i64 (0)), (.int Go.IntKind.i64 (0)), (.int Go.IntKind.i64 (8)), (.int Go.IntKind.i64 (20)), (.int Go.IntKind.i64 (9)), (.int Go.IntKind.i64 (0)), (.int Go.IntKind.i64 (0)), (.int Go.IntKind.i64 (2)), (.int Go.IntKind.i64 (2)), (.int Go.IntKind.i64 (2)), (.int Go.IntKind.i64 (3)), (.int Go.IntKind.i64 (0)), (.int Go.IntKind.i64 (0)), (.int Go.IntKind.i64 (8)), (.int Go.IntKind.i64 (21)), (.int Go.IntKind.i64 (9)), (.int Go.IntKind.i64 (0)), (.int Go.IntKind.i64 (0)), (.int Go.IntKind.i64 (2)), (.int Go.IntKind.i64 (2)), (.int Go.IntKind.i64 (2)), (.int Go.IntKind.i64 (3)), (.int Go.IntKind.i64 (0)), (.int Go.IntKind.i64 (0)), (.int Go.IntKind.i64 (8)), (.int Go.IntKind.i64 (22)), (.int Go.IntKind.i64 (9)), (.int Go.IntKind.i64 (0)), (.int Go.IntKind.i64 (0)), (.int Go.IntKind.i64 (3)), (.int Go.IntKind.i64 (2)), (.int Go.IntKind.i64 (1)), (.int Go.IntKind.i64 (3)), (.int Go.IntKind.i64 (0)), (.int Go.IntKind.i64 (0)), (.int Go.IntKind.i64 (7)), (.int Go.IntKind.i64 (20)), (.int Go.IntKind.i64 (9)), (.int Go.IntKind.i64 (0)), (.int Go.IntKind.i64 (0)), (.int Go.IntKind.i64 (3)), (.int Go.IntKind.i64 (2)), (.int Go.IntKind.i64 (1)), (.int Go.IntKind.i64 (3)), (.int Go.IntKind.i64 (0)), (.int Go.IntKind.i64 (0)), (.int Go.IntKind.i64 (7)), (.int Go.IntKind.i64 (21)), (.int Go.IntKind.i64 (9)), (.int Go.IntKind.i64 (0)), (.int Go.IntKind.i64 (0)), (.int Go.IntKind.i64 (3)), (.int Go.IntKind.i64 (2)), (.int Go.IntKind.i64 (1)), (.int Go.IntKind.i64 (3)), (.int Go.IntKind.i64 (0)), (.int Go.IntKind.i64 (0)), (.int Go.IntKind.i64 (7)), (.int Go.IntKind.i64 (22)), (.int Go.IntKind.i64 (9)), (.int Go.IntKind.i64 (0)), (.int Go.IntKind.i64 (0)), (.int Go.IntKind.i64 (3)), (.int Go.IntKind.i64 (2)), (.int Go.IntKind.i64 (1)), (.int Go.IntKind.i64 (3)), (.int Go.IntKind.i64 (0)), (.int Go.IntKind.i64 (0)), (.int Go.IntKind.i64 (8)), (.int Go.IntKind.i64 (20)), (.int Go.IntKind.i64 (9)), (.int Go.IntKind.i64 (0)), (.int Go.IntKind.i64 (0)), (.int Go.IntKind.i64 (3)), (.int Go.IntKind.i64 (2)), (.int Go.IntKind.i64 (1)), (.int Go.IntKind.i64 (3)), (.int Go.IntKind.i64 (0)), (.int Go.IntKind.i64 (0)), (.int Go.IntKind.i64 (8)), (.int Go.IntKind.i64 (21)), (.int Go.IntKind.i64 (9)), (.int Go.IntKind.i64 (0)), (.int Go.IntKind.i64 (0)), (.int Go.IntKind.i64 (3)), (.int Go.IntKind.i64 (2)), (.int Go.IntKind.i64 (1)), (.int Go.IntKind.i64 (3)), (.int Go.IntKind.i64 (0)), (.int Go.IntKind.i64 (0)), (.int Go.IntKind.i64 (8)), (.int Go.IntKind.i64 (22)), (.int Go.IntKind.i64 (9)), (.int Go.IntKind.i64 (0)), (.int Go.IntKind.i64 (0)), (.int Go.IntKind.i64 (3)), (.int Go.IntKind.i64 (2)), (.int Go.IntKind.i64 (2)), (.int Go.IntKind.i64 (3)), (.int Go.IntKind.i64 (0)), (.int Go.IntKind.i64 (0)), (.int Go.IntKind.i64 (7)), (.int Go.IntKind.i64 (20)), (.int Go.IntKind.i64 (9)), (.int Go.IntKind.i64 (0)), (.int Go.IntKind.i64 (0)), (.int Go.IntKind.i64 (3)), (.int Go.IntKind.i64 (2)), (.int Go.IntKind.i64 (2)), (.int Go.IntKind.i64 (3)), (.int Go.IntKind.i64 (0)), (.int Go.IntKind.i64 (0)), (.int Go.IntKind.i64 (7)), (.int Go.IntKind.i64 (21)), (.int Go.IntKind.i64 (9)), (.int Go.IntKind.i64 (0)), (.int Go.IntKind.i64 (0)), (.int Go.IntKind.i64 (3)), (.int Go.IntKind.i64 (2)), (.int Go.IntKind.i64 (2)), (.int Go.IntKind.i64 (3)), (.int Go.IntKind.i64 (0)), (.int Go.IntKind.i64 (0)), (.int Go.IntKind.i64 (7)), (.int Go.IntKind.i64 (22)), (.int Go.IntKind.i64 (9)), (.int Go.IntKind.i64 (0)), (.int Go.IntKind.i64 (0)), (.int Go.IntKind.i64 (3)), (.int Go.IntKind.i64 (2)), (.int Go.IntKind.i64 (2)), (.int Go.IntKind.i64 (3)), (.int Go.IntKind.i64 (0)), (.int Go.IntKind.i64 (0)), (.int Go.IntKind.i64 (8)), (.int Go.IntKind.i64 (20)), (.int Go.IntKind.i64 (9)), (.int Go.IntKind.i64 (0)), (.int Go.IntKind.i64 (0)), (.int Go.IntKind.i64 (3)), (.int Go.IntKind.i64 (2)), (.int Go.IntKind.i64 (2)), (.int Go.IntKind.i64 (3)), (.int Go.IntKind.i64 (0)), (.int Go.IntKind.i64 (0)), (.int Go.IntKind.i64 (8)), (.int Go.IntKind.i64 (21)), (.int Go.IntKind.i64 (9)), (.int Go.IntKind.i64 (0)), (.int Go.IntKind.i64 (0)), (.int Go.IntKind.i64 (3)), (.int Go.IntKind.i64 (2)), (.int Go.IntKind.i64 (2)), (.int Go.IntKind.i64 (3)), (.int Go.IntKind.i64 (0)), (.int Go.IntKind.i64 (0)), (.int Go.IntKind.i64 (8)), (.int Go.IntKind.i64 (22)), (.int Go.IntKind.i64 (9)), (.int Go.IntKind.i64 (0)), (.int Go.IntKind.i64 (0))] true 11), (4674, .row [(.int Go.IntKind.i64 (0)), (.int Go.IntKind.i64 (1)), (.int Go.IntKind.i64 (1)), (.int Go.IntKind.i64 (0)), (.int Go.IntKind.i64 (3)), (.int Go.IntKind.i64 (1))] true 0), (4676, .row [(.int Go.IntKind.i64 (0)), (.int Go.IntKind.i64 (20)), (.int Go.IntKind.i64 (22)), (.int Go.IntKind.i64 (14)), (.int Go.IntKind.i64 (1)), (.int Go.IntKind.i64 (9)), (.int Go.IntKind.i64 (9)), (.int Go.IntKind.i64 (9))] true 0), (4675, .row [(.int Go.IntKind.i64 (2)), (.int Go.IntKind.i64 (3)), (.int Go.IntKind.i64 (2)), (.int Go.IntKind.i64 (2)), (.int Go.IntKind.i64 (1)), (.int Go.IntKind.i64 (2)), (.int Go.IntKind.i64 (3)), (.int Go.IntKind.i64 (3))] true 0)], val := (.tuple ⟨[(.int Go.IntKind.i64 (0)), (.int Go.IntKind.i64 (1)), (.int Go.IntKind.i64 (12))]⟩), next' := 6684, objs' := [] }
def e7 : Entry :=
  { next := 6688, f := 51, args := [(.agg ⟨[(.int Go.IntKind.i64 (3)), (.int Go.IntKind.i64 (3)), (.slice (some ⟨6686, 0, none⟩) 4 4), (.int Go.IntKind.i64 (7)), (.int Go.IntKind.i64 (8)), (.slice (some ⟨6687, 0, none⟩) 2 2), (.slice (some ⟨6685, 0, none⟩) 2 2)]⟩)], objs := [(6685, .row [(.int Go.IntKind.i64 (0)), (.int Go.IntKind.i64 (1)), (.int Go.IntKind.i64 (1)), (.int Go.IntKind.i64 (0)), (.int Go.IntKind.i64 (3)), (.int Go.IntKind.i64 (1))] true 0), (6687, .row [(.int Go.IntKind.i64 (0)), (.int Go.IntKind.i64 (20)), (.int Go.IntKind.i64 (22)), (.int Go.IntKind.i64 (14)), (.int Go.IntKind.i64 (1)), (.int Go.IntKind.i64 (9)), (.int Go.IntKind.i64 (9)), (.int Go.IntKind.i64 (9))] true 0), (6686, .row [(.int Go.IntKind.i64 (2)), (.int Go.IntKind.i64 (3)), (.int Go.IntKind.i64 (2)), (.int Go.IntKind.i64 (2)), (.int Go.IntKind.i64 (1)), (.int Go.IntKind.i64 (2)), (.int Go.IntKind.i64 (3)), (.int Go.IntKind.i64 (3))] true 0)], val := (.tuple ⟨[(.int Go.IntKind.i64 (1)), (.int Go.IntKind.i64 (0))]⟩), next' := 7485, objs' := [] }
def e8 : Entry :=
  { next := 7489, f := 52, args := [(.agg ⟨[(.int Go.IntKind.i64 (3)), (.int Go.IntKind.i64 (3)), (.slice (some ⟨7487, 0, none⟩) 4 4), (.int Go.IntKind.i64 (7)), (.int Go.IntKind.i64 (8)), (.slice (some ⟨7488, 0, none⟩) 2 2), (.slice (some ⟨7486, 0, none⟩) 2 2)]⟩)], objs := [(7486, .row [(.int Go.IntKind.i64 (0)), (.int Go.IntKind.i64 (1)), (.int Go.IntKind.i64 (1)), (.int Go.IntKind.i64 (0)), (.int Go.IntKind.i64 (3)), (.int Go.IntKind.i64 (1))] true 0), (7488, .row [(.int Go.IntKind.i64 (0)), (.int Go.IntKind.i64 (20)), (.int Go.IntKind.i64 (22)), (.int Go.IntKind.i64 (14)), (.int Go.IntKind.i64 (1)), (.int Go.IntKind.i64 (9)), (.int Go.IntKind.i64 (9)), (.int Go.IntKind.i64 (9))] true 0), (7487, .row [(.int Go.IntKind.i64 (2)), (.int Go.IntKind.i64 (3)), (.int Go.IntKind.i64 (2)), (.int Go.IntKind.i64 (2)), (.int Go.IntKind.i64 (1)), (.int Go.IntKind.i64 (2)), (.int Go.IntKind.i64 (3)), (.int Go.IntKind.i64 (3))] true 0)], val := (.tuple ⟨[(.slice (some ⟨8307, 0, none⟩) 1 4611686018427387904), (.int Go.IntKind.i64 (0))]⟩), next' := 8309, objs' := [(8307, .row [(.int Go.IntKind.i64 (0))] true 1)] }
def tab : List Entry := [e0, e1, e2, e3, e4, e5, e6, e7, e8]
end Go.Vm.StAwake

namespace Go.Vm.StAwake
open Go.Proofs
set_option maxRecDepth 100000
def isTrue (x : Option (Value × AHeap)) : Bool := match x with
  | some (.bool true, _) => true
  | _ => false
theorem main_ok : isTrue (acallO Try.prog quiet tab 1000 (.func (.func 24) #[] #[]) [] AHeap.empty) = true := by kernel_rfl
end Go.Vm.StAwake
