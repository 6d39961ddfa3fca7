/- Texts of the proofs of this seat, put together: VatSpRef2, VatSpreadsL. -/
import Derived.Test.YtnibceeoejeimaaPk7

namespace Go.Vm.Vat
open Go.Proofs
set_option linter.unusedSimpArgs false
set_option linter.unusedVariables false
set_option maxRecDepth 10000
variable {n : Nat} {h : AHeap}
/-! ### The reference: the least blue of a spread, and the best spread -/
def s50 : SCode := (.seq (.ops [⟨(some 4), none, .box (T 0)⟩, ⟨(some 8), none, .mov (.const (.int .i64 (0)))⟩]) (.seq (.ops [⟨(some 9), none, .mov (.const (.int .i64 (1099511627776)))⟩]) (.seq (.seq (.ops [⟨(some 10), none, .mov (.const (.int .i64 (0)))⟩]) (.block 0 (.loop (.seq (.seq (.ops [⟨(some 12), none, .mov (T 10)⟩, ⟨(some 13), none, .mov (T 1)⟩, ⟨(some 14), none, .len (T 13)⟩, ⟨(some 15), none, .int2 .lss (T 12) (T 14)⟩]) (.cond (T 15) .skip (.exit 0))) (.seq (.block 1 (.seq (.ops [⟨(some 11), none, .mov (.const (.int .i64 (0)))⟩]) (.block 2 (.loop (.seq (.seq (.ops [⟨(some 18), none, .mov (T 11)⟩, ⟨(some 19), none, .fieldAddr 1 (T 4)⟩, ⟨(some 20), none, .load1 (T 19)⟩, ⟨(some 21), none, .len (T 20)⟩, ⟨(some 22), none, .int2 .lss (T 18) (T 21)⟩]) (.cond (T 22) .skip (.exit 2))) (.seq (.block 3 (.draw [⟨.free, ⟨(some 25), none, .mov (T 9)⟩⟩, ⟨.rd1, ⟨(some 26), none, .loadN 3 (T 4)⟩⟩, ⟨.free, ⟨(some 27), none, .mov (T 1)⟩⟩, ⟨.free, ⟨(some 28), none, .mov (T 10)⟩⟩, ⟨.free, ⟨(some 29), none, .idxSl 1 (T 27) (T 28)⟩⟩, ⟨.rd1, ⟨(some 30), none, .load1 (T 29)⟩⟩, ⟨.free, ⟨(some 31), none, .mov (T 11)⟩⟩, ⟨.up, ⟨(some 32), none, .call (.func 33) [(T 26), (T 30), (T 31)]⟩⟩, ⟨.free, ⟨(some 33), none, .mov (T 3)⟩⟩, ⟨.free, ⟨(some 34), none, .mov (T 11)⟩⟩, ⟨.free, ⟨(some 35), none, .idxSl 1 (T 33) (T 34)⟩⟩, ⟨.rd, ⟨(some 36), none, .load1 (T 35)⟩⟩, ⟨.free, ⟨(some 37), none, .mov (T 1)⟩⟩, ⟨.free, ⟨(some 38), none, .mov (T 10)⟩⟩, ⟨.free, ⟨(some 39), none, .idxSl 1 (T 37) (T 38)⟩⟩, ⟨.rd, ⟨(some 40), none, .load1 (T 39)⟩⟩, ⟨.free, ⟨(some 41), none, .mov (T 2)⟩⟩, ⟨.free, ⟨(some 42), none, .idxSl 1 (T 40) (T 41)⟩⟩, ⟨.rd, ⟨(some 43), none, .load1 (T 42)⟩⟩, ⟨.free, ⟨(some 44), none, .int2 .mul (T 36) (T 43)⟩⟩, ⟨.free, ⟨(some 45), none, .int2 .add (T 32) (T 44)⟩⟩, ⟨.free, ⟨(some 46), none, .plain (.call { callee := .builtin .min, args := #[(T 25), (T 45)], argTypes := #[3, 3] }) 3⟩⟩, ⟨.free, ⟨(some 9), none, .mov (T 46)⟩⟩])) (.ops [⟨(some 23), none, .mov (T 11)⟩, ⟨(some 24), none, .int2 .add (T 23) (.const (.int .i64 (1)))⟩, ⟨(some 11), none, .mov (T 24)⟩]))))))) (.ops [⟨(some 16), none, .mov (T 10)⟩, ⟨(some 17), none, .int2 .add (T 16) (.const (.int .i64 (1)))⟩, ⟨(some 10), none, .mov (T 17)⟩])))))) (.seq (.ops [⟨(some 47), none, .mov (T 9)⟩, ⟨(some 8), none, .mov (T 47)⟩]) .ret))))
theorem fok50 : FnOk Try.prog 50 48 s50 [.tmp 8] := ⟨Try.f50, _, Try.func50, rfl, Try.ntmps50, by kernel_rfl, by kernel_rfl⟩
theorem least_c (hn : 10010 ≤ n) (hr : h.next + 100 < far) {fv vv sv l vp : Value} {Y : MY} (hy : YardR h fv vv sv Y) (hf : faultN Y = 0) (he : truths Y ≠ []) (hl : TruthsL h l Y.nf (refTruths Y)) {f : Nat} (hff : f < Y.nf) (hv0 : 0 < Y.nv) {p : Nat → Int} (hp : Ints h vp Y.nv p) (hp9 : ∀ v, v < Y.nv → 0 ≤ p v ∧ p v ≤ 9) :
    call n (.func (.func 50) #[] #[]) [.agg ⟨[fv, vv, sv]⟩, l, .int .i64 (f : Int), vp] h = some (.int .i64 (lowS (fun v k => sureN Y v f k (truths Y)) Y.nv p), h) := by
  obtain ⟨n, rfl⟩ : ∃ p, n = p + 1 := ⟨n - 1, by omega⟩
  refine call_plain0 fok50 rfl rfl (by simp) rfl ?_
  have hy := hy.shut
  have hl := hl.mono (g := h.shutAll) fun _ _ _ _ _ h => h
  have hp : Ints h.shutAll vp Y.nv p := Cells.shut hp
  have hr : h.shutAll.next + 100 < far := hr
  generalize h.shutAll = h at hy hl hp hr
  have hG := good_of hf
  have hlen := refTruths_len hf
  obtain ⟨z1, z2, z3⟩ := hG.sz
  simp only [s50, W_seq, W_ops]
  refine ops_box (cs := [fv, vv, sv]) (by omega) rfl hy.one fun g1 hx1 => ?_
  have n1 := hx1.next
  have hy1 := hy.mono hx1.sub
  have hl1 := hl.mono hx1.sub
  have hp1 : Ints g1 vp Y.nv p := Cells.mono hp hx1.sub
  have w1 := hx1.row.whole (n := 3) rfl
  obtain ⟨r, q1, q2⟩ := hl1
  obtain ⟨rr, hrw, hq⟩ := hy1.v
  let bw : Nat → Nat → Int := fun i v => blueN ((refTruths Y).getD i fun _ => 0) (Y.q v) Y.nf + p v * (refTruths Y).getD i (fun _ => 0) f
  have hblue : ∀ i v, i < (refTruths Y).length → v < Y.nv → call n (.func (.func 33) #[] #[]) [.agg ⟨[fv, vv, sv]⟩, r i, .int .i64 (v : Int)] g1 = some (.int .i64 (blueN ((refTruths Y).getD i fun _ => 0) (Y.q v) Y.nf), g1) := fun i v hi hv => by
    obtain ⟨v1, v2⟩ := hG.v v hv
    exact blue_c (n := n) (h := g1) (at_ := v) (by omega) (by omega) hy1 (q2 i hi) (by omega) hv (by omega) (refTruths_range hf (refTruths_at hi)) (fun k hk => v2 k (by omega))
  have hbwr : ∀ i v, i < (refTruths Y).length → v < Y.nv → (0 ≤ blueN ((refTruths Y).getD i fun _ => 0) (Y.q v) Y.nf ∧ blueN ((refTruths Y).getD i fun _ => 0) (Y.q v) Y.nf ≤ 900) ∧ 0 ≤ p v * (refTruths Y).getD i (fun _ => 0) f ∧ p v * (refTruths Y).getD i (fun _ => 0) f ≤ 180 := fun i v hi hv => by
    obtain ⟨v1, v2⟩ := hG.v v hv
    have hrg := refTruths_range hf (refTruths_at hi)
    obtain ⟨h1, h2⟩ := blueN_bound (b := (refTruths Y).getD i fun _ => 0) (q := Y.q v) (n := Y.nf) (by omega) hrg (fun j hj => v2 j (by omega)) Y.nf (Nat.le_refl _)
    obtain ⟨t1, t2⟩ := hrg f hff
    obtain ⟨k1, k2⟩ := hp9 v hv
    have m1 : 0 ≤ p v * (refTruths Y).getD i (fun _ => 0) f := Int.mul_nonneg k1 t1
    have m2 : p v * (refTruths Y).getD i (fun _ => 0) f ≤ 9 * 20 := Int.mul_le_mul k2 t2 t1 (by omega)
    exact ⟨⟨h1, by have : (180 : Int) * Y.nf ≤ 900 := by omega
                   omega⟩, m1, by omega⟩
  simp only [rn0, rn1, rn2, rn3, rn4, rn5, rn6, rn7, rn8, if_true, if_false, Nat.le_refl, true_and, and_true, decide_true, decide_false, Bool.not_true, Bool.not_false, reduceIte, Nat.reduceEqDiff, Nat.reduceAdd, Nat.reduceMul, Nat.reduceSub, Nat.reduceLeDiff, Nat.reduceLT]
  refine W_loop (refTruths Y).length (fun i f' g ms => g = g1 ∧ ms = [] ∧ f' 1 = l ∧ f' 2 = .int .i64 (f : Int) ∧ f' 3 = vp ∧ f' 4 = .pointer (some ⟨h.next, 0, none⟩) ∧ f' 10 = .int .i64 (i : Int) ∧ ∃ x, f' 9 = .int .i64 x ∧ ∀ b, b ≤ x ↔ b ≤ 1099511627776 ∧ ∀ j, j < i → ∀ v, v < Y.nv → b ≤ bw j v) (by simp; omega) ?_ ?_ ?_
  · simp only [rn0, rn1, rn2, rn3, rn4, rn5, rn6, rn7, rn8, if_true, if_false, Nat.le_refl, true_and, and_true, decide_true, decide_false, Bool.not_true, Bool.not_false, reduceIte, Nat.reduceEqDiff, Nat.reduceAdd, Nat.reduceMul, Nat.reduceSub, Nat.reduceLeDiff, Nat.reduceLT]
    refine ⟨rfl, _, rfl, fun b => ⟨fun h => ⟨h, fun j hj => absurd hj (Nat.not_lt_zero _)⟩, fun h => h.1⟩⟩
  · rintro i f' g ms hi ⟨rfl, rfl, p1, p2, p3, p4, p10, x, p9, hx⟩
    have hi' : (i : Int) < ((refTruths Y).length : Int) := by omega
    have hwi : wrapF .i64 ((i : Int) + 1) = ((i + 1 : Nat) : Int) := by rw [wrap_in (by omega) (by omega)]; rfl
    simp only [rn0, rn1, rn2, rn3, rn4, rn5, rn6, rn7, rn8, if_true, if_false, Nat.le_refl, true_and, and_true, decide_true, decide_false, Bool.not_true, Bool.not_false, reduceIte, Nat.reduceEqDiff, Nat.reduceAdd, Nat.reduceMul, Nat.reduceSub, Nat.reduceLeDiff, Nat.reduceLT, p1, p2, p3, p4, p9, p10, Cells.len q1, hi']
    refine W_loop Y.nv (fun v f' g' ms => g' = g ∧ ms = [] ∧ f' 1 = l ∧ f' 2 = .int .i64 (f : Int) ∧ f' 3 = vp ∧ f' 4 = .pointer (some ⟨h.next, 0, none⟩) ∧ f' 10 = .int .i64 (i : Int) ∧ f' 11 = .int .i64 (v : Int) ∧ ∃ y, f' 9 = .int .i64 y ∧ ∀ b, b ≤ y ↔ b ≤ x ∧ ∀ u, u < v → b ≤ bw i u) (by simp; omega) ?_ ?_ ?_
    · simp only [rn0, rn1, rn2, rn3, rn4, rn5, rn6, rn7, rn8, if_true, if_false, Nat.le_refl, true_and, and_true, decide_true, decide_false, Bool.not_true, Bool.not_false, reduceIte, Nat.reduceEqDiff, Nat.reduceAdd, Nat.reduceMul, Nat.reduceSub, Nat.reduceLeDiff, Nat.reduceLT, p1, p2, p3, p4, p9, p10]
      refine ⟨rfl, _, rfl, fun b => ⟨fun h => ⟨h, fun j hj => absurd hj (Nat.not_lt_zero _)⟩, fun h => h.1⟩⟩
    · rintro v f' g' ms hv ⟨rfl, rfl, p1, p2, p3, p4, p10, p11, y, p9, hy'⟩
      have hv' : (v : Int) < (Y.nv : Int) := by omega
      have hwv : wrapF .i64 ((v : Int) + 1) = ((v + 1 : Nat) : Int) := by rw [wrap_in (by omega) (by omega)]; rfl
      obtain ⟨⟨k1, k2⟩, k3, k4⟩ := hbwr i v hi hv
      have wm : wrapF .i64 (p v * (refTruths Y).getD i (fun _ => 0) f) = p v * (refTruths Y).getD i (fun _ => 0) f := wrap_in (by omega) (by omega)
      have wp : wrapF .i64 (blueN ((refTruths Y).getD i fun _ => 0) (Y.q v) Y.nf + p v * (refTruths Y).getD i (fun _ => 0) f) = bw i v := wrap_in (by omega) (by omega)
      simp only [rn0, rn1, rn2, rn3, rn4, rn5, rn6, rn7, rn8, if_true, if_false, Nat.le_refl, true_and, and_true, decide_true, decide_false, Bool.not_true, Bool.not_false, reduceIte, Nat.reduceEqDiff, Nat.reduceAdd, Nat.reduceMul, Nat.reduceSub, Nat.reduceLeDiff, Nat.reduceLT, p1, p2, p3, p4, p9, p10, p11, hx1.row.ld, Nat.zero_add, List.getElem?_cons_zero, List.getElem?_cons_succ, Cells.len hrw, hv']
      refine W_draw All ?_
      simp only [rn0, rn1, rn2, rn3, rn4, rn5, rn6, rn7, rn8, if_true, if_false, Nat.le_refl, true_and, and_true, decide_true, decide_false, Bool.not_true, Bool.not_false, reduceIte, Nat.reduceEqDiff, Nat.reduceAdd, Nat.reduceMul, Nat.reduceSub, Nat.reduceLeDiff, Nat.reduceLT, p1, p2, p3, p4, p9, p10, p11, w1, Cells.idx q1 hi, Cells.ld q1 hi Nat.zero_lt_one, hblue i v hi hv, Cells.idx hp1 hv, Cells.ld hp1 hv Nat.zero_lt_one, Cells.self (q2 i hi), Cells.idx (q2 i hi) hff, Cells.ld (q2 i hi) hff Nat.zero_lt_one, wm, wp, valN_tmp, valN_const, Nat.reduceLT, hwv]
      refine ⟨_, rfl, fun b => ?_⟩
      rw [Int.le_min, hy' b]
      constructor
      · rintro ⟨⟨h1, h2⟩, h3⟩
        refine ⟨h1, fun u hu => ?_⟩
        by_cases e : u = v
        · subst e; exact h3
        · exact h2 u (by omega)
      · rintro ⟨h1, h2⟩
        exact ⟨⟨h1, fun u hu => h2 u (by omega)⟩, h2 v (by omega)⟩
    · rintro f' g' ms ⟨rfl, rfl, p1, p2, p3, p4, p10, p11, y, p9, hy'⟩
      simp only [rn0, rn1, rn2, rn3, rn4, rn5, rn6, rn7, rn8, if_true, if_false, Nat.le_refl, true_and, and_true, decide_true, decide_false, Bool.not_true, Bool.not_false, reduceIte, Nat.reduceEqDiff, Nat.reduceAdd, Nat.reduceMul, Nat.reduceSub, Nat.reduceLeDiff, Nat.reduceLT, p1, p2, p3, p4, p9, p10, p11, hx1.row.ld, Nat.zero_add, List.getElem?_cons_zero, List.getElem?_cons_succ, Cells.len hrw, Int.lt_irrefl, hwi]
      refine ⟨_, rfl, fun b => ?_⟩
      rw [hy' b, hx b]
      constructor
      · rintro ⟨⟨h1, h2⟩, h3⟩
        refine ⟨h1, fun u hu => ?_⟩
        by_cases e : u = i
        · subst e; exact h3
        · exact h2 u (by omega)
      · rintro ⟨h1, h2⟩
        exact ⟨⟨h1, fun u hu => h2 u (by omega)⟩, h2 i (by omega)⟩
  · rintro f' g ms ⟨rfl, rfl, p1, p2, p3, p4, p10, x, p9, hx⟩
    simp only [rn0, rn1, rn2, rn3, rn4, rn5, rn6, rn7, rn8, if_true, if_false, Nat.le_refl, true_and, and_true, decide_true, decide_false, Bool.not_true, Bool.not_false, reduceIte, Nat.reduceEqDiff, Nat.reduceAdd, Nat.reduceMul, Nat.reduceSub, Nat.reduceLeDiff, Nat.reduceLT, p1, p2, p3, p4, p9, p10, Cells.len q1, Int.lt_irrefl]
    have hbw : ∀ i v, v < Y.nv → bw i v = blueWith Y v f (p v).toNat ((refTruths Y).getD i fun _ => 0) := fun i v hv => by
      show blueN _ _ _ + p v * _ = blueN _ _ _ + ((p v).toNat : Int) * _
      rw [Int.toNat_of_nonneg (hp9 v hv).1]
    have hS : ∀ v, v < Y.nv → sureN Y v f (p v).toNat (truths Y) ≤ 99999 := fun v hv => sureN_le hf he hv hff (by have := hp9 v hv; omega)
    have : x = lowS (fun v k => sureN Y v f k (truths Y)) Y.nv p := int_ext fun c => by
      rw [hx c, le_lowS hv0]
      constructor
      · rintro ⟨h1, h2⟩ v hv
        rw [le_sureN he]
        intro t ht
        obtain ⟨i, hi, e⟩ := mem_getD ((refTruths_mem hf).2 ht)
        have := h2 i hi v hv
        rw [hbw i v hv, e] at this
        exact this
      · intro h1
        refine ⟨?_, fun i hi v hv => ?_⟩
        · have h2 := h1 0 hv0
          have h3 := hS 0 hv0
          omega
        · rw [hbw i v hv]
          exact (le_sureN he).1 (h1 v hv) _ ((refTruths_mem hf).1 (refTruths_at hi))
    rw [this]
def s51 : SCode := (.seq (.ops [⟨(some 4), none, .box (T 0)⟩, ⟨(some 8), none, .mov (.const (.slice none 0 0))⟩, ⟨(some 9), none, .mov (.const (.int .i64 (0)))⟩]) (.seq (.ops [⟨(some 10), none, .mov (.const (.slice none 0 0))⟩]) (.seq (.ops [⟨(some 11), none, .mov (.const (.int .i64 (-1)))⟩]) (.seq (.ops [⟨(some 15), none, .mov (T 3)⟩, ⟨(some 16), none, .fieldAddr 1 (T 4)⟩, ⟨(some 17), none, .load1 (T 16)⟩, ⟨(some 18), none, .len (T 17)⟩, ⟨(some 19), none, .call (.func 104) [(T 15), (T 18)]⟩, ⟨(some 12), none, .mov (T 19)⟩]) (.seq (.seq (.ops [⟨(some 13), none, .mov (.const (.int .i64 (0)))⟩]) (.block 0 (.loop (.seq (.seq (.ops [⟨(some 20), none, .mov (T 13)⟩, ⟨(some 21), none, .mov (T 12)⟩, ⟨(some 22), none, .len (T 21)⟩, ⟨(some 23), none, .int2 .lss (T 20) (T 22)⟩]) (.cond (T 23) .skip (.exit 0))) (.seq (.block 1 (.seq (.draw [⟨.rd1, ⟨(some 26), none, .loadN 3 (T 4)⟩⟩, ⟨.free, ⟨(some 27), none, .mov (T 1)⟩⟩, ⟨.free, ⟨(some 28), none, .mov (T 2)⟩⟩, ⟨.free, ⟨(some 29), none, .mov (T 12)⟩⟩, ⟨.free, ⟨(some 30), none, .mov (T 13)⟩⟩, ⟨.free, ⟨(some 31), none, .idxSl 1 (T 29) (T 30)⟩⟩, ⟨.rd1, ⟨(some 32), none, .load1 (T 31)⟩⟩, ⟨.any, ⟨(some 33), none, .call (.func 50) [(T 26), (T 27), (T 28), (T 32)]⟩⟩, ⟨.free, ⟨(some 14), none, .mov (T 33)⟩⟩]) (.seq (.ops [⟨(some 34), none, .mov (T 14)⟩, ⟨(some 35), none, .mov (T 11)⟩, ⟨(some 36), none, .int2 .gtr (T 34) (T 35)⟩]) (.cond (T 36) (.ops [⟨(some 37), none, .mov (T 12)⟩, ⟨(some 38), none, .mov (T 13)⟩, ⟨(some 39), none, .idxSl 1 (T 37) (T 38)⟩, ⟨(some 40), none, .load1 (T 39)⟩, ⟨(some 41), none, .mov (T 14)⟩, ⟨(some 10), none, .mov (T 40)⟩, ⟨(some 11), none, .mov (T 41)⟩]) .skip)))) (.ops [⟨(some 24), none, .mov (T 13)⟩, ⟨(some 25), none, .int2 .add (T 24) (.const (.int .i64 (1)))⟩, ⟨(some 13), none, .mov (T 25)⟩])))))) (.seq (.ops [⟨(some 42), none, .mov (T 10)⟩, ⟨(some 43), none, .mov (T 11)⟩, ⟨(some 8), none, .mov (T 42)⟩, ⟨(some 9), none, .mov (T 43)⟩]) .ret))))))
theorem fok51 : FnOk Try.prog 51 44 s51 [.tmp 8, .tmp 9] := ⟨Try.f51, _, Try.func51, rfl, Try.ntmps51, by kernel_rfl, by kernel_rfl⟩
theorem spreadRef_c (hn : 10030 ≤ n) (hr : h.next + 100000 < far) (hfl : h.floor ≤ h.next) {fv vv sv l : Value} {Y : MY} (hy : YardR h fv vv sv Y) (hf : faultN Y = 0) (he : truths Y ≠ []) (hl : TruthsL h l Y.nf (refTruths Y)) {f k : Nat} (hff : f < Y.nf) (hv0 : 0 < Y.nv) (hk : k ≤ 9) :
    ∃ v h', call n (.func (.func 51) #[] #[]) [.agg ⟨[fv, vv, sv]⟩, l, .int .i64 (f : Int), .int .i64 (k : Int)] h = some (v, h') ∧ Made h h' 90000 ∧ ∃ bl, v = .tuple ⟨[bl, .int .i64 (bestS Y f k).2]⟩ ∧ Ints h' bl Y.nv (bestS Y f k).1 := by
  obtain ⟨n, rfl⟩ : ∃ p, n = p + 1 := ⟨n - 1, by omega⟩
  have hG := good_of hf
  obtain ⟨z1, z2, z3⟩ := hG.sz
  refine call_any0 fok51 rfl rfl (by simp) ?_
  simp only [s51, W_seq, W_ops]
  refine ops_box (cs := [fv, vv, sv]) (by omega) rfl hy.one fun g1 hx1 => ?_
  have n1 := hx1.next
  have f1 := hx1.floor
  have hy1 := hy.mono hx1.sub
  obtain ⟨rr, hrw, hq⟩ := hy1.v
  obtain ⟨d, hd⟩ : ∃ d, Y.nv = d + 1 := ⟨Y.nv - 1, by omega⟩
  have hbd : bndR d ≤ 72555 := by
    obtain rfl | rfl | rfl | rfl : d = 0 ∨ d = 1 ∨ d = 2 ∨ d = 3 := by omega
    all_goals decide
  obtain ⟨v1, g2, ec, m2, hlen, rv, hc1, hb1, ho1, hr1⟩ := spreads_c d k n g1 (by omega) (by omega) hk (by omega) (by omega)
  have n2 := m2.next
  have u2 := m2.up
  have f2 := m2.floor
  rw [← hd] at ec
  have hLS : enumR d k = enumS (Y.nv - 1) 0 k fun _ => 0 := by rw [enumR_zero, show Y.nv - 1 = d by omega]
  have hy2 := hy1.mono m2.sub
  have hl2 : TruthsL g2 l Y.nf (refTruths Y) := (hl.mono hx1.sub).mono m2.sub
  have w2 := (hx1.row.mono m2.sub).whole (n := 3) rfl
  obtain ⟨L, hL⟩ : ∃ L, L = enumR d k := ⟨_, rfl⟩
  rw [← hL] at hc1 hr1 hLS
  have hput : ∀ i, i < L.length → IsPut Y.nv k (L.getD i fun _ => 0) := fun i hi => by
    rw [← put_mem hv0, ← hLS, List.getD_eq_getElem?_getD, List.getElem?_eq_getElem hi]
    exact List.getElem_mem hi
  have hLl : L.length ≤ 1000 := by
    rw [hL]
    refine Nat.le_trans (enumR_len d k hk) ?_
    exact Nat.le_trans (Nat.pow_le_pow_right (by omega) (show d ≤ 3 by omega)) (by decide)
  have hpos : 0 < L.length := by
    have := (put_mem hv0).2 (first_put (many := k) hv0)
    rw [← hLS] at this
    exact List.length_pos_of_mem this
  let SS : Nat → Nat → Int := fun v k => sureN Y v f k (truths Y)
  have hls : ∀ i, i < L.length → call n (.func (.func 50) #[] #[]) [.agg ⟨[fv, vv, sv]⟩, l, .int .i64 (f : Int), rv i] g2 = some (.int .i64 (lowS SS Y.nv (L.getD i fun _ => 0)), g2) := fun i hi => by
    have hpi := hput i hi
    have hri := (hr1 i hi).1
    rw [← hd] at hri
    exact least_c (n := n) (h := g2) (by omega) (by omega) hy2 hf he hl2 hff hv0 hri fun v hv => ⟨hpi.2.1 v hv, by
      have h1 := sumF_le Y.nv 0 v (fun j _ h => hpi.2.1 j (by omega)) (by omega) (by omega)
      have h2 := hpi.2.2
      omega⟩
  have hlow0 : ∀ i, i < L.length → 0 ≤ lowS SS Y.nv (L.getD i fun _ => 0) := fun i hi => (le_lowS hv0).2 fun v hv => sureN_pos hf he hv hff
  have hrun : spRun SS Y.nv k = (runL (spStep SS Y.nv) ((fun _ => 0), -1) L).1 := by unfold spRun; rw [hLS]
  have hstep : ∀ i, i < L.length → (runL (spStep SS Y.nv) ((fun _ => 0), -1) (L.take (i + 1))).1 = (spStep SS Y.nv (runL (spStep SS Y.nv) ((fun _ => 0), -1) (L.take i)).1 (L.getD i fun _ => 0)).1 := fun i hi => by
    have hgo : ∀ (l : List (Nat → Int)) s, (runL (spStep SS Y.nv) s l).2 = true := by
      intro l
      induction l with
      | nil => intro s; rfl
      | cons x l ih => intro s; simp only [runL, spStep_go, if_true]; exact ih _
    rw [List.take_add_one, List.getElem?_eq_getElem hi, runL_append, hgo, if_pos rfl, List.getD_eq_getElem?_getD, List.getElem?_eq_getElem hi]
    simp [runL, spStep_go]
  simp only [rn0, rn1, rn2, rn3, rn4, rn5, rn6, rn7, rn8, if_true, if_false, Nat.le_refl, true_and, and_true, decide_true, decide_false, Bool.not_true, Bool.not_false, reduceIte, Nat.reduceEqDiff, Nat.reduceAdd, Nat.reduceMul, Nat.reduceSub, Nat.reduceLeDiff, Nat.reduceLT, hx1.row.ld, Nat.zero_add, List.getElem?_cons_zero, List.getElem?_cons_succ, Cells.len hrw, ec]
  refine W_loop L.length (fun i f' g ms => g = g2 ∧ ms = [] ∧ f' 1 = l ∧ f' 2 = .int .i64 (f : Int) ∧ f' 4 = .pointer (some ⟨h.next, 0, none⟩) ∧ f' 12 = v1 ∧ f' 13 = .int .i64 (i : Int) ∧ f' 11 = .int .i64 (runL (spStep SS Y.nv) ((fun _ => 0), -1) (L.take i)).1.2 ∧ ∃ bl, f' 10 = bl ∧ (0 < i → Ints g2 bl Y.nv (runL (spStep SS Y.nv) ((fun _ => 0), -1) (L.take i)).1.1 ∧ 0 ≤ (runL (spStep SS Y.nv) ((fun _ => 0), -1) (L.take i)).1.2)) (by simp; omega) ?_ ?_ ?_
  · simp only [rn0, rn1, rn2, rn3, rn4, rn5, rn6, rn7, rn8, if_true, if_false, Nat.le_refl, true_and, and_true, decide_true, decide_false, Bool.not_true, Bool.not_false, reduceIte, Nat.reduceEqDiff, Nat.reduceAdd, Nat.reduceMul, Nat.reduceSub, Nat.reduceLeDiff, Nat.reduceLT]
    exact ⟨rfl, rfl, _, rfl, fun hh => hh.elim⟩
  · rintro i f' g ms hi ⟨rfl, rfl, p1, p2, p4, p12, p13, p11, bl, p10, hbl⟩
    have hi' : (i : Int) < (L.length : Int) := by omega
    have hwi : wrapF .i64 ((i : Int) + 1) = ((i + 1 : Nat) : Int) := by rw [wrap_in (by omega) (by omega)]; rfl
    have hst := hstep i hi
    have h0 := hlow0 i hi
    have hri := (hr1 i hi).1
    rw [← hd] at hri
    obtain ⟨lo, hlo⟩ : ∃ x, x = lowS SS Y.nv (L.getD i fun _ => 0) := ⟨_, rfl⟩
    have els := hls i hi
    generalize hs : (runL (spStep SS Y.nv) ((fun _ => 0), -1) (L.take i)).1 = s at p11 hbl hst
    simp only [rn0, rn1, rn2, rn3, rn4, rn5, rn6, rn7, rn8, if_true, if_false, Nat.le_refl, true_and, and_true, decide_true, decide_false, Bool.not_true, Bool.not_false, reduceIte, Nat.reduceEqDiff, Nat.reduceAdd, Nat.reduceMul, Nat.reduceSub, Nat.reduceLeDiff, Nat.reduceLT, p1, p2, p4, p10, p11, p12, p13, Cells.len hc1, hi']
    refine W_draw All ?_
    simp only [rn0, rn1, rn2, rn3, rn4, rn5, rn6, rn7, rn8, if_true, if_false, Nat.le_refl, true_and, and_true, decide_true, decide_false, Bool.not_true, Bool.not_false, reduceIte, Nat.reduceEqDiff, Nat.reduceAdd, Nat.reduceMul, Nat.reduceSub, Nat.reduceLeDiff, Nat.reduceLT, p1, p2, p4, p10, p11, p12, p13, w2, Cells.idx hc1 hi, Cells.ld hc1 hi Nat.zero_lt_one, els]
    by_cases hlt : s.2 < lowS SS Y.nv (L.getD i fun _ => 0)
    · have hst2 : (spStep SS Y.nv s (L.getD i fun _ => 0)).1 = (L.getD i fun _ => 0, lowS SS Y.nv (L.getD i fun _ => 0)) := by unfold spStep; rw [if_pos hlt]
      rw [hst2] at hst
      simp only [rn0, rn1, rn2, rn3, rn4, rn5, rn6, rn7, rn8, if_true, if_false, Nat.le_refl, true_and, and_true, decide_true, decide_false, Bool.not_true, Bool.not_false, reduceIte, Nat.reduceEqDiff, Nat.reduceAdd, Nat.reduceMul, Nat.reduceSub, Nat.reduceLeDiff, Nat.reduceLT, p1, p2, p4, p10, p11, p12, p13, hlt, Cells.idx hc1 hi, Cells.ld hc1 hi Nat.zero_lt_one, hwi]
      rw [hst]
      exact ⟨rfl, _, rfl, fun _ => ⟨hri, h0⟩⟩
    · have hst2 : (spStep SS Y.nv s (L.getD i fun _ => 0)).1 = s := by unfold spStep; rw [if_neg hlt]
      rw [hst2] at hst
      simp only [rn0, rn1, rn2, rn3, rn4, rn5, rn6, rn7, rn8, if_true, if_false, Nat.le_refl, true_and, and_true, decide_true, decide_false, Bool.not_true, Bool.not_false, reduceIte, Nat.reduceEqDiff, Nat.reduceAdd, Nat.reduceMul, Nat.reduceSub, Nat.reduceLeDiff, Nat.reduceLT, p1, p2, p4, p10, p11, p12, p13, hlt, hwi]
      rw [hst]
      refine ⟨rfl, _, rfl, fun _ => ?_⟩
      by_cases hz : i = 0
      · subst hz
        rw [List.take_zero] at hs
        have : s.2 = -1 := by rw [← hs]; rfl
        omega
      · exact hbl (by omega)
  · rintro f' g ms ⟨rfl, rfl, p1, p2, p4, p12, p13, p11, bl, p10, hbl⟩
    rw [List.take_length] at p11 hbl
    rw [← hrun] at p11 hbl
    simp only [rn0, rn1, rn2, rn3, rn4, rn5, rn6, rn7, rn8, if_true, if_false, Nat.le_refl, true_and, and_true, decide_true, decide_false, Bool.not_true, Bool.not_false, reduceIte, Nat.reduceEqDiff, Nat.reduceAdd, Nat.reduceMul, Nat.reduceSub, Nat.reduceLeDiff, Nat.reduceLT, p1, p2, p4, p10, p11, p12, p13, Cells.len hc1, Int.lt_irrefl, ret_tt]
    exact ⟨⟨hx1.sub.trans m2.sub, by omega, by omega, by omega⟩, _, rfl, (hbl hpos).1⟩
end Go.Vm.Vat

namespace Go.Vm.Vat
open Go.Proofs
set_option linter.unusedSimpArgs false
set_option linter.unusedVariables false
set_option maxRecDepth 10000
variable {n : Nat} {h : AHeap}
theorem neq_self' (b : Bool) : (!(b == b)) = false := by cases b <;> rfl
def s7 : SCode := (.seq (.ops [⟨(some 5), none, .box (T 0)⟩, ⟨(some 10), none, .mov (.const (.bool false))⟩]) (.seq (.seq (.ops [⟨(some 22), none, .loadN 3 (T 5)⟩, ⟨(some 23), none, .call (.func 23) [(T 22)]⟩, ⟨(some 24), none, .not (T 23)⟩, ⟨(some 25), none, .mov (T 24)⟩, ⟨(some 26), (some (25, false)), .mov (T 3)⟩, ⟨(some 27), (some (25, false)), .len (T 26)⟩, ⟨(some 28), (some (25, false)), .int2 .gtr (T 27) (.const (.int .i64 (30)))⟩, ⟨(some 29), none, .pick (T 25) (.const (.bool true)) (T 28)⟩]) (.cond (T 29) (.seq (.ops [⟨(some 30), none, .call (.func 24) []⟩, ⟨(some 10), none, .mov (T 30)⟩]) .ret) .skip)) (.seq (.ops [⟨(some 32), none, .loadN 3 (T 5)⟩, ⟨(some 33), none, .call (.func 26) [(T 32)]⟩, ⟨(some 34), none, .mov (T 1)⟩, ⟨(some 35), none, .mov (T 2)⟩, ⟨(some 36), none, .call (.func 48) [(T 33), (T 34), (T 35)]⟩, ⟨(some 31), none, .mov (T 36)⟩, ⟨(some 37), none, .extract 0 (T 31)⟩, ⟨(some 38), none, .extract 1 (T 31)⟩, ⟨(some 39), none, .extract 2 (T 31)⟩, ⟨(some 11), none, .mov (T 37)⟩, ⟨(some 12), none, .mov (T 38)⟩, ⟨(some 13), none, .mov (T 39)⟩]) (.seq (.ops [⟨(some 40), none, .loadN 3 (T 5)⟩, ⟨(some 41), none, .call (.func 26) [(T 40)]⟩, ⟨(some 42), none, .mov (T 1)⟩, ⟨(some 43), none, .mov (T 3)⟩, ⟨(some 44), none, .call (.func 27) [(T 43)]⟩, ⟨(some 45), none, .mov (T 4)⟩, ⟨(some 46), none, .call (.func 49) [(T 41), (T 42), (T 44), (T 45)]⟩, ⟨(some 14), none, .mov (T 46)⟩]) (.seq (.ops [⟨(some 47), none, .mov (T 1)⟩, ⟨(some 48), none, .fieldAddr 0 (T 5)⟩, ⟨(some 49), none, .load1 (T 48)⟩, ⟨(some 50), none, .len (T 49)⟩, ⟨(some 51), none, .int2 .sub (T 50) (.const (.int .i64 (1)))⟩, ⟨(some 52), none, .call (.func 42) [(T 47), (.const (.int .i64 (0))), (T 51)]⟩, ⟨(some 15), none, .mov (T 52)⟩]) (.seq (.ops [⟨(some 54), none, .loadN 3 (T 5)⟩, ⟨(some 55), none, .call (.func 36) [(T 54)]⟩, ⟨(some 53), none, .mov (T 55)⟩, ⟨(some 56), none, .extract 0 (T 53)⟩, ⟨(some 57), none, .extract 1 (T 53)⟩, ⟨(some 16), none, .mov (T 56)⟩, ⟨(some 17), none, .mov (T 57)⟩]) (.seq (.ops [⟨(some 58), none, .mov (T 17)⟩, ⟨(some 59), none, .int2 .eql (T 58) (.const (.int .i64 (0)))⟩, ⟨(some 60), none, .mov (T 59)⟩, ⟨(some 61), (some (60, true)), .mov (T 15)⟩, ⟨(some 62), none, .pick (T 60) (T 61) (.const (.bool false))⟩, ⟨(some 63), none, .mov (T 62)⟩, ⟨(some 64), (some (63, true)), .fieldAddr 1 (T 5)⟩, ⟨(some 65), (some (63, true)), .load1 (T 64)⟩, ⟨(some 66), (some (63, true)), .len (T 65)⟩, ⟨(some 67), (some (63, true)), .int2 .gtr (T 66) (.const (.int .i64 (0)))⟩, ⟨(some 68), none, .pick (T 63) (T 67) (.const (.bool false))⟩, ⟨(some 69), none, .mov (T 68)⟩, ⟨(some 70), (some (69, true)), .mov (T 3)⟩, ⟨(some 71), (some (69, true)), .len (T 70)⟩, ⟨(some 72), (some (69, true)), .fieldAddr 1 (T 5)⟩, ⟨(some 73), (some (69, true)), .load1 (T 72)⟩, ⟨(some 74), (some (69, true)), .len (T 73)⟩, ⟨(some 75), (some (69, true)), .int2 .eql (T 71) (T 74)⟩, ⟨(some 76), none, .pick (T 69) (T 75) (.const (.bool false))⟩, ⟨(some 18), none, .mov (T 76)⟩]) (.seq (.seq (.ops [⟨(some 19), none, .mov (.const (.int .i64 (0)))⟩]) (.block 0 (.loop (.seq (.seq (.ops [⟨(some 77), none, .mov (T 19)⟩, ⟨(some 78), none, .mov (T 3)⟩, ⟨(some 79), none, .len (T 78)⟩, ⟨(some 80), none, .int2 .lss (T 77) (T 79)⟩]) (.cond (T 80) .skip (.exit 0))) (.seq (.block 1 (.ops [⟨(some 83), none, .mov (T 18)⟩, ⟨(some 84), none, .mov (T 83)⟩, ⟨(some 85), (some (84, true)), .mov (T 3)⟩, ⟨(some 86), (some (84, true)), .mov (T 19)⟩, ⟨(some 87), (some (84, true)), .idxSl 1 (T 85) (T 86)⟩, ⟨(some 88), (some (84, true)), .load1 (T 87)⟩, ⟨(some 89), (some (84, true)), .call (.func 42) [(T 88), (.const (.int .i64 (0))), (.const (.int .i64 (9)))]⟩, ⟨(some 90), none, .pick (T 84) (T 89) (.const (.bool false))⟩, ⟨(some 18), none, .mov (T 90)⟩])) (.ops [⟨(some 81), none, .mov (T 19)⟩, ⟨(some 82), none, .int2 .add (T 81) (.const (.int .i64 (1)))⟩, ⟨(some 19), none, .mov (T 82)⟩])))))) (.seq (.seq (.ops [⟨(some 91), none, .mov (T 14)⟩, ⟨(some 92), none, .mov (T 18)⟩, ⟨(some 93), none, .mov (T 92)⟩, ⟨(some 94), (some (93, true)), .loadN 3 (T 5)⟩, ⟨(some 95), (some (93, true)), .mov (T 16)⟩, ⟨(some 96), (some (93, true)), .mov (T 1)⟩, ⟨(some 97), (some (93, true)), .mov (T 3)⟩, ⟨(some 98), (some (93, true)), .call (.func 50) [(T 94), (T 95), (T 96), (T 97)]⟩, ⟨(some 99), (some (93, true)), .mov (T 4)⟩, ⟨(some 100), (some (93, true)), .int2 .geq (T 98) (T 99)⟩, ⟨(some 101), none, .pick (T 93) (T 100) (.const (.bool false))⟩, ⟨(some 102), none, .bin .neq (.binOp .neq 4 (T 91) (T 101) 4) 4 (T 91) (T 101)⟩]) (.cond (T 102) (.seq (.ops [⟨(some 10), none, .mov (.const (.bool false))⟩]) .ret) .skip)) (.seq (.seq (.ops [⟨(some 103), none, .loadN 3 (T 5)⟩, ⟨(some 104), none, .call (.func 29) [(T 103)]⟩, ⟨(some 105), none, .int2 .eql (T 104) (.const (.int .i64 (0)))⟩, ⟨(some 106), none, .mov (T 105)⟩, ⟨(some 107), (some (106, true)), .mov (T 15)⟩, ⟨(some 108), (some (106, true)), .not (T 107)⟩, ⟨(some 109), (some (106, true)), .mov (T 108)⟩, ⟨(some 110), (some (109, false)), .mov (T 2)⟩, ⟨(some 111), (some (109, false)), .call (.func 42) [(T 110), (.const (.int .i64 (0))), (.const (.int .i64 (9)))]⟩, ⟨(some 112), (some (109, false)), .not (T 111)⟩, ⟨(some 113), (some (106, true)), .pick (T 109) (.const (.bool true)) (T 112)⟩, ⟨(some 114), none, .pick (T 106) (T 113) (.const (.bool false))⟩]) (.cond (T 114) (.ops [⟨(some 17), none, .mov (.const (.int .i64 (2)))⟩]) .skip)) (.seq (.seq (.ops [⟨(some 115), none, .mov (T 17)⟩, ⟨(some 116), none, .int2 .eql (T 115) (.const (.int .i64 (0)))⟩, ⟨(some 117), none, .mov (T 116)⟩, ⟨(some 118), (some (117, true)), .fieldAddr 1 (T 5)⟩, ⟨(some 119), (some (117, true)), .load1 (T 118)⟩, ⟨(some 120), (some (117, true)), .len (T 119)⟩, ⟨(some 121), (some (117, true)), .int2 .eql (T 120) (.const (.int .i64 (0)))⟩, ⟨(some 122), none, .pick (T 117) (T 121) (.const (.bool false))⟩]) (.cond (T 122) (.ops [⟨(some 17), none, .mov (.const (.int .i64 (7)))⟩]) .skip)) (.seq (.seq (.ops [⟨(some 123), none, .mov (T 17)⟩, ⟨(some 124), none, .int2 .neq (T 123) (.const (.int .i64 (0)))⟩]) (.cond (T 124) (.seq (.ops [⟨(some 125), none, .mov (T 13)⟩, ⟨(some 126), none, .mov (T 17)⟩, ⟨(some 127), none, .int2 .eql (T 125) (T 126)⟩, ⟨(some 128), none, .mov (T 127)⟩, ⟨(some 129), (some (128, true)), .mov (T 11)⟩, ⟨(some 130), (some (128, true)), .len (T 129)⟩, ⟨(some 131), (some (128, true)), .int2 .eql (T 130) (.const (.int .i64 (0)))⟩, ⟨(some 132), none, .pick (T 128) (T 131) (.const (.bool false))⟩, ⟨(some 133), none, .mov (T 132)⟩, ⟨(some 134), (some (133, true)), .mov (T 12)⟩, ⟨(some 135), (some (133, true)), .int2 .eql (T 134) (.const (.int .i64 (0)))⟩, ⟨(some 136), none, .pick (T 133) (T 135) (.const (.bool false))⟩, ⟨(some 137), none, .mov (T 136)⟩, ⟨(some 138), (some (137, true)), .call (.func 24) []⟩, ⟨(some 139), none, .pick (T 137) (T 138) (.const (.bool false))⟩, ⟨(some 10), none, .mov (T 139)⟩]) .ret) .skip)) (.seq (.ops [⟨(some 141), none, .loadN 3 (T 5)⟩, ⟨(some 142), none, .mov (T 16)⟩, ⟨(some 143), none, .mov (T 1)⟩, ⟨(some 144), none, .mov (T 2)⟩, ⟨(some 145), none, .call (.func 51) [(T 141), (T 142), (T 143), (T 144)]⟩, ⟨(some 140), none, .mov (T 145)⟩, ⟨(some 146), none, .extract 0 (T 140)⟩, ⟨(some 147), none, .extract 1 (T 140)⟩, ⟨(some 20), none, .mov (T 146)⟩, ⟨(some 21), none, .mov (T 147)⟩]) (.seq (.ops [⟨(some 148), none, .mov (T 13)⟩, ⟨(some 149), none, .int2 .eql (T 148) (.const (.int .i64 (0)))⟩, ⟨(some 150), none, .mov (T 149)⟩, ⟨(some 151), (some (150, true)), .mov (T 11)⟩, ⟨(some 152), (some (150, true)), .mov (T 20)⟩, ⟨(some 153), (some (150, true)), .call (.func 52) [(T 151), (T 152)]⟩, ⟨(some 154), none, .pick (T 150) (T 153) (.const (.bool false))⟩, ⟨(some 155), none, .mov (T 154)⟩, ⟨(some 156), (some (155, true)), .mov (T 12)⟩, ⟨(some 157), (some (155, true)), .mov (T 21)⟩, ⟨(some 158), (some (155, true)), .int2 .eql (T 156) (T 157)⟩, ⟨(some 159), none, .pick (T 155) (T 158) (.const (.bool false))⟩, ⟨(some 160), none, .mov (T 159)⟩, ⟨(some 161), (some (160, true)), .call (.func 24) []⟩, ⟨(some 162), none, .pick (T 160) (T 161) (.const (.bool false))⟩, ⟨(some 10), none, .mov (T 162)⟩]) .ret))))))))))))))
theorem fok7 : FnOk Try.prog 7 163 s7 [.tmp 10] := ⟨Try.f7, _, Try.func7, rfl, Try.ntmps7, by kernel_rfl, by kernel_rfl⟩
theorem spreads_A (hn : 10110 ≤ n) (hr : h.next + 6000000 < far) (hfl : h.floor ≤ h.next) {fv vv sv vp : Value} {Y : MY} (hy : YardR h fv vv sv Y) (hT : Thin Y) {np : Nat} {p : Nat → Int} (hp : Ints h vp np p) (hnp : np ≤ 30) (field many least : Int) (hf : faultN Y ≠ 0) :
    ∃ v h', call n (.func (.func 7) #[] #[]) [.agg ⟨[fv, vv, sv]⟩, .int .i64 field, .int .i64 many, vp, .int .i64 least] h = some (v, h') ∧ v = .bool true := by
  obtain ⟨n, rfl⟩ : ∃ p, n = p + 1 := ⟨n - 1, by omega⟩
  refine call_any0 fok7 rfl rfl (by simp) ?_
  simp only [s7, W_seq, W_ops]
  refine ops_box (cs := [fv, vv, sv]) (by omega) rfl hy.one fun g1 hx1 => ?_
  have n1 := hx1.next
  have f1 := hx1.floor
  have hy1 := hy.mono hx1.sub
  have hp1 : Ints g1 vp np p := Cells.mono hp hx1.sub
  have x1 := hx1.row.whole (n := 3) rfl
  have ht := thin_c (n := n) (h := g1) (by omega) (by omega) hy1
  rw [@decide_eq_true _ (_) hT] at ht
  have hl30 : ¬ (30 : Int) < (np : Int) := by omega
  have t1 := hT.1
  have t2 := hT.2.1
  obtain ⟨F1, V1, S1, g2, ey1, hy1y, mg2⟩ := yard_c (n := n) (h := g1) (by omega) (by omega) (by omega) hy1 hT
  have ng2 := mg2.next
  have ug2 := mg2.up
  have fg2 := mg2.floor
  obtain ⟨s1v, g3, es1, mg3, hsp1⟩ := spread_c (n := n) (h := g2) (by omega) (by omega) (by omega) hy1y hT field many
  have ng3 := mg3.next
  have ug3 := mg3.up
  have fg3 := mg3.floor
  have sub3 : Sub All g1 g3 := mg2.sub.trans mg3.sub
  have x3 := (hx1.row.mono sub3).whole (n := 3) rfl
  obtain ⟨F2, V2, S2, g4, ey2, hy2y, mg4⟩ := yard_c (n := n) (h := g3) (by omega) (by omega) (by omega) (hy1.mono sub3) hT
  have ng4 := mg4.next
  have ug4 := mg4.up
  have fg4 := mg4.floor
  obtain ⟨lv, g5, el, li, mg5, lo, lb⟩ := list_c (n := n) (h := g4) (by omega) (by omega) (Cells.mono hp1 (sub3.trans mg4.sub)) (by omega)
  have ng5 := mg5.next
  have ug5 := mg5.up
  have fg5 := mg5.floor
  have epr := proveSpread_c (n := n) (h := g5) (by omega) (by omega) (hy2y.mono mg5.sub) hT li (by omega) field least
  have sub5 : Sub All g1 g5 := sub3.trans (mg4.sub.trans mg5.sub)
  have hy5 := hy1.mono sub5
  have r5 := hx1.row.mono sub5
  have x5 := r5.whole (n := 3) rfl
  have hwn : wrapF .i64 ((Y.nf : Int) - 1) = (Y.nf : Int) - 1 := wrap_in (by omega) (by omega)
  have ein := in_c (n := n) (h := g5) (by omega) field 0 ((Y.nf : Int) - 1)
  obtain ⟨sv6, g6, esu, ⟨mg6, hsu⟩⟩ := sure_c (n := n) (h := g5) (by omega) (by omega) (by omega) hy5
  have ng6 := mg6.next
  have ug6 := mg6.up
  have fg6 := mg6.floor
  have sub6 : Sub All g1 g6 := sub5.trans mg6.sub
  have hy6 := hy1.mono sub6
  have hp6 : Ints g6 vp np p := Cells.mono hp1 sub6
  have r6 := hx1.row.mono sub6
  have x6 := r6.whole (n := 3) rfl
  obtain ⟨rr, hrw, hq⟩ := hy6.v
  have ef := faultL_c (n := n) (h := g6) (by omega) (by omega) hy6
  have ein2 := in_c (n := n) (h := g6) (by omega) many 0 9
  have haw : ∀ g, call n (.func (.func 24) #[] #[]) [] g = some (.bool true, g) := fun g => awake_c (n := n) (h := g) (by omega)
  have u4 : Try.prog.underlying 4 = some .bool := Try.underlying4
  rcases hsu with ⟨_, rfl⟩ | ⟨h0, _⟩ | ⟨h0, _⟩
  case inr.inl => exact absurd h0 hf
  case inr.inr => exact absurd h0 hf
  have hE : spreadE Y field many = faultN Y := by unfold spreadE; rw [if_pos hf]
  rcases hsp1 with ⟨_, rfl⟩ | ⟨h0, _⟩
  case inr => rw [hE] at h0; exact absurd h0 hf
  rw [hE] at es1
  rw [@decide_eq_false _ (_) (fun hx : IsSpread Y field np p least => hf hx.1)] at epr
  simp only [rn0, rn1, rn2, rn3, rn4, rn5, rn6, rn7, rn8, if_true, if_false, Nat.le_refl, true_and, and_true, decide_true, decide_false, Bool.not_true, Bool.not_false, reduceIte, Nat.reduceEqDiff, Nat.reduceAdd, Nat.reduceMul, Nat.reduceSub, Nat.reduceLeDiff, Nat.reduceLT, x1, ht, Cells.len hp1, hl30, ey1, es1, ex30, ex31, ex32, x3, ey2, el, epr, r5.ld, Nat.zero_add, List.getElem?_cons_zero, List.getElem?_cons_succ, Cells.len hy5.f, hwn, ein, x5, esu, ex0, ex1, hf]
  refine W_loop np (fun i f g ms => g = g6 ∧ ms = [] ∧ f 2 = .int .i64 many ∧ f 3 = vp ∧ f 4 = .int .i64 least ∧ f 1 = .int .i64 field ∧ f 5 = .pointer (some ⟨h.next, 0, none⟩) ∧ f 11 = nilS ∧ f 12 = .int .i64 0 ∧ f 13 = .int .i64 (faultN Y) ∧ f 14 = .bool false ∧ f 15 = .bool (decide (0 ≤ field ∧ field ≤ (Y.nf : Int) - 1)) ∧ f 16 = nilS ∧ f 17 = .int .i64 (faultN Y) ∧ f 18 = .bool false ∧ f 19 = .int .i64 (i : Int)) (by simp; omega) ?_ ?_ ?_
  · simp only [rn0, rn1, rn2, rn3, rn4, rn5, rn6, rn7, rn8, if_true, if_false, Nat.le_refl, true_and, and_true, decide_true, decide_false, Bool.not_true, Bool.not_false, reduceIte, Nat.reduceEqDiff, Nat.reduceAdd, Nat.reduceMul, Nat.reduceSub, Nat.reduceLeDiff, Nat.reduceLT]
    first | done | rfl | exact ⟨rfl, rfl⟩
  · rintro i f g ms hi ⟨rfl, rfl, q2, q3, q4, q1, q5, q11, q12, q13, q14, q15, q16, q17, q18, q19⟩
    have hi' : (i : Int) < (np : Int) := by omega
    have hwi : wrapF .i64 ((i : Int) + 1) = ((i + 1 : Nat) : Int) := by rw [wrap_in (by omega) (by omega)]; rfl
    simp only [rn0, rn1, rn2, rn3, rn4, rn5, rn6, rn7, rn8, if_true, if_false, Nat.le_refl, true_and, and_true, decide_true, decide_false, Bool.not_true, Bool.not_false, reduceIte, Nat.reduceEqDiff, Nat.reduceAdd, Nat.reduceMul, Nat.reduceSub, Nat.reduceLeDiff, Nat.reduceLT, q1, q2, q3, q4, q5, q11, q12, q13, q14, q15, q16, q17, q18, q19, Cells.len hp6, hi', hwi]
  · rintro f g ms ⟨rfl, rfl, q2, q3, q4, q1, q5, q11, q12, q13, q14, q15, q16, q17, q18, q19⟩
    simp only [rn0, rn1, rn2, rn3, rn4, rn5, rn6, rn7, rn8, if_true, if_false, Nat.le_refl, true_and, and_true, decide_true, decide_false, Bool.not_true, Bool.not_false, reduceIte, Nat.reduceEqDiff, Nat.reduceAdd, Nat.reduceMul, Nat.reduceSub, Nat.reduceLeDiff, Nat.reduceLT, q1, q2, q3, q4, q5, q11, q12, q13, q14, q15, q16, q17, q18, q19, Cells.len hp6, Int.lt_irrefl, x_binA, binA_neqB, p_neqB u4, valN_tmp, rBB, Nat.reduceLT, neq_self', x6, ef, hf, len_slice, Int.natCast_zero, haw, g_un]
open Classical in
theorem spreads_B (hn : 10110 ≤ n) (hr : h.next + 6000000 < far) (hfl : h.floor ≤ h.next) {fv vv sv vp : Value} {Y : MY} (hy : YardR h fv vv sv Y) (hT : Thin Y) {np : Nat} {p : Nat → Int} (hp : Ints h vp np p) (hnp : np ≤ 30) (field many least : Int) (hf : faultN Y = 0) (he : truths Y = []) :
    ∃ v h', call n (.func (.func 7) #[] #[]) [.agg ⟨[fv, vv, sv]⟩, .int .i64 field, .int .i64 many, vp, .int .i64 least] h = some (v, h') ∧ v = .bool true := by
  obtain ⟨n, rfl⟩ : ∃ p, n = p + 1 := ⟨n - 1, by omega⟩
  refine call_any0 fok7 rfl rfl (by simp) ?_
  simp only [s7, W_seq, W_ops]
  refine ops_box (cs := [fv, vv, sv]) (by omega) rfl hy.one fun g1 hx1 => ?_
  have n1 := hx1.next
  have f1 := hx1.floor
  have hy1 := hy.mono hx1.sub
  have hp1 : Ints g1 vp np p := Cells.mono hp hx1.sub
  have x1 := hx1.row.whole (n := 3) rfl
  have ht := thin_c (n := n) (h := g1) (by omega) (by omega) hy1
  rw [@decide_eq_true _ (_) hT] at ht
  have hl30 : ¬ (30 : Int) < (np : Int) := by omega
  have t1 := hT.1
  have t2 := hT.2.1
  obtain ⟨F1, V1, S1, g2, ey1, hy1y, mg2⟩ := yard_c (n := n) (h := g1) (by omega) (by omega) (by omega) hy1 hT
  have ng2 := mg2.next
  have ug2 := mg2.up
  have fg2 := mg2.floor
  obtain ⟨s1v, g3, es1, mg3, hsp1⟩ := spread_c (n := n) (h := g2) (by omega) (by omega) (by omega) hy1y hT field many
  have ng3 := mg3.next
  have ug3 := mg3.up
  have fg3 := mg3.floor
  have sub3 : Sub All g1 g3 := mg2.sub.trans mg3.sub
  have x3 := (hx1.row.mono sub3).whole (n := 3) rfl
  obtain ⟨F2, V2, S2, g4, ey2, hy2y, mg4⟩ := yard_c (n := n) (h := g3) (by omega) (by omega) (by omega) (hy1.mono sub3) hT
  have ng4 := mg4.next
  have ug4 := mg4.up
  have fg4 := mg4.floor
  obtain ⟨lv, g5, el, li, mg5, lo, lb⟩ := list_c (n := n) (h := g4) (by omega) (by omega) (Cells.mono hp1 (sub3.trans mg4.sub)) (by omega)
  have ng5 := mg5.next
  have ug5 := mg5.up
  have fg5 := mg5.floor
  have epr := proveSpread_c (n := n) (h := g5) (by omega) (by omega) (hy2y.mono mg5.sub) hT li (by omega) field least
  have sub5 : Sub All g1 g5 := sub3.trans (mg4.sub.trans mg5.sub)
  have hy5 := hy1.mono sub5
  have r5 := hx1.row.mono sub5
  have x5 := r5.whole (n := 3) rfl
  have hwn : wrapF .i64 ((Y.nf : Int) - 1) = (Y.nf : Int) - 1 := wrap_in (by omega) (by omega)
  have ein := in_c (n := n) (h := g5) (by omega) field 0 ((Y.nf : Int) - 1)
  obtain ⟨sv6, g6, esu, ⟨mg6, hsu⟩⟩ := sure_c (n := n) (h := g5) (by omega) (by omega) (by omega) hy5
  have ng6 := mg6.next
  have ug6 := mg6.up
  have fg6 := mg6.floor
  have sub6 : Sub All g1 g6 := sub5.trans mg6.sub
  have hy6 := hy1.mono sub6
  have hp6 : Ints g6 vp np p := Cells.mono hp1 sub6
  have r6 := hx1.row.mono sub6
  have x6 := r6.whole (n := 3) rfl
  obtain ⟨rr, hrw, hq⟩ := hy6.v
  have ef := faultL_c (n := n) (h := g6) (by omega) (by omega) hy6
  have ein2 := in_c (n := n) (h := g6) (by omega) many 0 9
  have haw : ∀ g, call n (.func (.func 24) #[] #[]) [] g = some (.bool true, g) := fun g => awake_c (n := n) (h := g) (by omega)
  have u4 : Try.prog.underlying 4 = some .bool := Try.underlying4
  rcases hsu with ⟨h0, _⟩ | ⟨_, _, rfl⟩ | ⟨_, h0, _⟩
  · exact absurd hf h0
  case inr.inr => exact absurd ((refTruths_nil hf).2 he) h0
  have hE : spreadE Y field many = if ¬ SpreadArgs Y field many then 2 else 11 := by unfold spreadE; rw [if_neg (by simpa using hf), if_pos he]
  have hE0 : spreadE Y field many ≠ 0 := by
    rw [hE]
    by_cases c : SpreadArgs Y field many
    · rw [if_neg (fun e => e c)]; omega
    · rw [if_pos c]; omega
  rcases hsp1 with ⟨_, rfl⟩ | ⟨h0, _⟩
  case inr => exact absurd h0 hE0
  rw [@decide_eq_false _ (_) (fun hx : IsSpread Y field np p least => hx.2.1 he)] at epr
  obtain ⟨E, hEE⟩ : ∃ E, E = spreadE Y field many := ⟨_, rfl⟩
  rw [← hEE] at es1 hE
  simp only [rn0, rn1, rn2, rn3, rn4, rn5, rn6, rn7, rn8, if_true, if_false, Nat.le_refl, true_and, and_true, decide_true, decide_false, Bool.not_true, Bool.not_false, reduceIte, Nat.reduceEqDiff, Nat.reduceAdd, Nat.reduceMul, Nat.reduceSub, Nat.reduceLeDiff, Nat.reduceLT, x1, ht, Cells.len hp1, hl30, ey1, es1, ex30, ex31, ex32, x3, ey2, el, epr, r5.ld, Nat.zero_add, List.getElem?_cons_zero, List.getElem?_cons_succ, Cells.len hy5.f, hwn, ein, x5, esu, ex0, ex1, Int.reduceEq]
  refine W_loop np (fun i f g ms => g = g6 ∧ ms = [] ∧ f 2 = .int .i64 many ∧ f 3 = vp ∧ f 4 = .int .i64 least ∧ f 1 = .int .i64 field ∧ f 5 = .pointer (some ⟨h.next, 0, none⟩) ∧ f 11 = nilS ∧ f 12 = .int .i64 0 ∧ f 13 = .int .i64 E ∧ f 14 = .bool false ∧ f 15 = .bool (decide (0 ≤ field ∧ field ≤ (Y.nf : Int) - 1)) ∧ f 16 = nilS ∧ f 17 = .int .i64 11 ∧ f 18 = .bool false ∧ f 19 = .int .i64 (i : Int)) (by simp; omega) ?_ ?_ ?_
  · simp only [rn0, rn1, rn2, rn3, rn4, rn5, rn6, rn7, rn8, if_true, if_false, Nat.le_refl, true_and, and_true, decide_true, decide_false, Bool.not_true, Bool.not_false, reduceIte, Nat.reduceEqDiff, Nat.reduceAdd, Nat.reduceMul, Nat.reduceSub, Nat.reduceLeDiff, Nat.reduceLT]
    first | done | rfl | exact ⟨rfl, rfl⟩
  · rintro i f g ms hi ⟨rfl, rfl, q2, q3, q4, q1, q5, q11, q12, q13, q14, q15, q16, q17, q18, q19⟩
    have hi' : (i : Int) < (np : Int) := by omega
    have hwi : wrapF .i64 ((i : Int) + 1) = ((i + 1 : Nat) : Int) := by rw [wrap_in (by omega) (by omega)]; rfl
    simp only [rn0, rn1, rn2, rn3, rn4, rn5, rn6, rn7, rn8, if_true, if_false, Nat.le_refl, true_and, and_true, decide_true, decide_false, Bool.not_true, Bool.not_false, reduceIte, Nat.reduceEqDiff, Nat.reduceAdd, Nat.reduceMul, Nat.reduceSub, Nat.reduceLeDiff, Nat.reduceLT, q1, q2, q3, q4, q5, q11, q12, q13, q14, q15, q16, q17, q18, q19, Cells.len hp6, hi', hwi]
  · rintro f g ms ⟨rfl, rfl, q2, q3, q4, q1, q5, q11, q12, q13, q14, q15, q16, q17, q18, q19⟩
    by_cases a1 : 0 ≤ field ∧ field ≤ (Y.nf : Int) - 1
    · rw [@decide_eq_true _ (_) a1] at q15
      by_cases a2 : 0 ≤ many ∧ many ≤ 9
      · rw [@decide_eq_true _ (_) a2] at ein2
        rw [if_neg (fun e => e ⟨a1, a2⟩)] at hE
        simp only [rn0, rn1, rn2, rn3, rn4, rn5, rn6, rn7, rn8, if_true, if_false, Nat.le_refl, true_and, and_true, decide_true, decide_false, Bool.not_true, Bool.not_false, reduceIte, Nat.reduceEqDiff, Nat.reduceAdd, Nat.reduceMul, Nat.reduceSub, Nat.reduceLeDiff, Nat.reduceLT, q1, q2, q3, q4, q5, q11, q12, q13, q14, q15, q16, q17, q18, q19, Cells.len hp6, Int.lt_irrefl, x_binA, binA_neqB, p_neqB u4, valN_tmp, rBB, Nat.reduceLT, neq_self', x6, ef, hf, ein2, Int.reduceEq, hE, len_slice, Int.natCast_zero, haw, g_un]
      · rw [@decide_eq_false _ (_) a2] at ein2
        rw [if_pos (fun e => a2 e.2)] at hE
        simp only [rn0, rn1, rn2, rn3, rn4, rn5, rn6, rn7, rn8, if_true, if_false, Nat.le_refl, true_and, and_true, decide_true, decide_false, Bool.not_true, Bool.not_false, reduceIte, Nat.reduceEqDiff, Nat.reduceAdd, Nat.reduceMul, Nat.reduceSub, Nat.reduceLeDiff, Nat.reduceLT, q1, q2, q3, q4, q5, q11, q12, q13, q14, q15, q16, q17, q18, q19, Cells.len hp6, Int.lt_irrefl, x_binA, binA_neqB, p_neqB u4, valN_tmp, rBB, Nat.reduceLT, neq_self', x6, ef, hf, ein2, Int.reduceEq, hE, len_slice, Int.natCast_zero, haw, g_un]
    · rw [@decide_eq_false _ (_) a1] at q15
      rw [if_pos (fun e => a1 e.1)] at hE
      simp only [rn0, rn1, rn2, rn3, rn4, rn5, rn6, rn7, rn8, if_true, if_false, Nat.le_refl, true_and, and_true, decide_true, decide_false, Bool.not_true, Bool.not_false, reduceIte, Nat.reduceEqDiff, Nat.reduceAdd, Nat.reduceMul, Nat.reduceSub, Nat.reduceLeDiff, Nat.reduceLT, q1, q2, q3, q4, q5, q11, q12, q13, q14, q15, q16, q17, q18, q19, Cells.len hp6, Int.lt_irrefl, x_binA, binA_neqB, p_neqB u4, valN_tmp, rBB, Nat.reduceLT, neq_self', x6, ef, hf, ein2, Int.reduceEq, hE, len_slice, Int.natCast_zero, haw, g_un]
open Classical in
set_option maxHeartbeats 4000000 in
theorem spreads_C (hn : 10110 ≤ n) (hr : h.next + 6000000 < far) (hfl : h.floor ≤ h.next) {fv vv sv vp : Value} {Y : MY} (hy : YardR h fv vv sv Y) (hT : Thin Y) {np : Nat} {p : Nat → Int} (hp : Ints h vp np p) (hnp : np ≤ 30) (field many least : Int) (hf : faultN Y = 0) (he : truths Y ≠ []) :
    ∃ v h', call n (.func (.func 7) #[] #[]) [.agg ⟨[fv, vv, sv]⟩, .int .i64 field, .int .i64 many, vp, .int .i64 least] h = some (v, h') ∧ v = .bool true := by
  obtain ⟨n, rfl⟩ : ∃ p, n = p + 1 := ⟨n - 1, by omega⟩
  refine call_any0 fok7 rfl rfl (by simp) ?_
  simp only [s7, W_seq, W_ops]
  refine ops_box (cs := [fv, vv, sv]) (by omega) rfl hy.one fun g1 hx1 => ?_
  have n1 := hx1.next
  have f1 := hx1.floor
  have hy1 := hy.mono hx1.sub
  have hp1 : Ints g1 vp np p := Cells.mono hp hx1.sub
  have x1 := hx1.row.whole (n := 3) rfl
  have ht := thin_c (n := n) (h := g1) (by omega) (by omega) hy1
  rw [@decide_eq_true _ (_) hT] at ht
  have hl30 : ¬ (30 : Int) < (np : Int) := by omega
  have t1 := hT.1
  have t2 := hT.2.1
  obtain ⟨F1, V1, S1, g2, ey1, hy1y, mg2⟩ := yard_c (n := n) (h := g1) (by omega) (by omega) (by omega) hy1 hT
  have ng2 := mg2.next
  have ug2 := mg2.up
  have fg2 := mg2.floor
  obtain ⟨s1v, g3, es1, mg3, hsp1⟩ := spread_c (n := n) (h := g2) (by omega) (by omega) (by omega) hy1y hT field many
  have ng3 := mg3.next
  have ug3 := mg3.up
  have fg3 := mg3.floor
  have sub3 : Sub All g1 g3 := mg2.sub.trans mg3.sub
  have x3 := (hx1.row.mono sub3).whole (n := 3) rfl
  obtain ⟨F2, V2, S2, g4, ey2, hy2y, mg4⟩ := yard_c (n := n) (h := g3) (by omega) (by omega) (by omega) (hy1.mono sub3) hT
  have ng4 := mg4.next
  have ug4 := mg4.up
  have fg4 := mg4.floor
  obtain ⟨lv, g5, el, li, mg5, lo, lb⟩ := list_c (n := n) (h := g4) (by omega) (by omega) (Cells.mono hp1 (sub3.trans mg4.sub)) (by omega)
  have ng5 := mg5.next
  have ug5 := mg5.up
  have fg5 := mg5.floor
  have epr := proveSpread_c (n := n) (h := g5) (by omega) (by omega) (hy2y.mono mg5.sub) hT li (by omega) field least
  have sub5 : Sub All g1 g5 := sub3.trans (mg4.sub.trans mg5.sub)
  have hy5 := hy1.mono sub5
  have r5 := hx1.row.mono sub5
  have x5 := r5.whole (n := 3) rfl
  have hwn : wrapF .i64 ((Y.nf : Int) - 1) = (Y.nf : Int) - 1 := wrap_in (by omega) (by omega)
  have ein := in_c (n := n) (h := g5) (by omega) field 0 ((Y.nf : Int) - 1)
  obtain ⟨sv6, g6, esu, ⟨mg6, hsu⟩⟩ := sure_c (n := n) (h := g5) (by omega) (by omega) (by omega) hy5
  have ng6 := mg6.next
  have ug6 := mg6.up
  have fg6 := mg6.floor
  have sub6 : Sub All g1 g6 := sub5.trans mg6.sub
  have hy6 := hy1.mono sub6
  have hp6 : Ints g6 vp np p := Cells.mono hp1 sub6
  have r6 := hx1.row.mono sub6
  have x6 := r6.whole (n := 3) rfl
  obtain ⟨rr, hrw, hq⟩ := hy6.v
  have ef := faultL_c (n := n) (h := g6) (by omega) (by omega) hy6
  have ein2 := in_c (n := n) (h := g6) (by omega) many 0 9
  have haw : ∀ g, call n (.func (.func 24) #[] #[]) [] g = some (.bool true, g) := fun g => awake_c (n := n) (h := g) (by omega)
  have u4 : Try.prog.underlying 4 = some .bool := Try.underlying4
  rcases hsu with ⟨h0, _⟩ | ⟨_, h0, _⟩ | ⟨_, _, l, rfl, hl⟩
  · exact absurd hf h0
  · exact absurd ((refTruths_nil hf).1 h0) he
  have hG := good_of hf
  obtain ⟨z1, z2, z3⟩ := hG.sz
  have hE : spreadE Y field many = if ¬ SpreadArgs Y field many then 2 else if Y.nv = 0 then 7 else 0 := by unfold spreadE; rw [if_neg (by simpa using hf), if_neg he]
  obtain ⟨pl, ev, hs1v, hpv⟩ : ∃ (pl : Value) (pn : Int), s1v = .tuple ⟨[pl, .int .i64 pn, .int .i64 (spreadE Y field many)]⟩ ∧ ((spreadE Y field many ≠ 0 ∧ pl = nilS ∧ pn = 0) ∨ (spreadE Y field many = 0 ∧ pn = (bestS Y field.toNat many.toNat).2 ∧ Ints g3 pl Y.nv (bestS Y field.toNat many.toNat).1)) := by
    rcases hsp1 with ⟨h0, rfl⟩ | ⟨h0, pl, rfl, hpl, _⟩
    · exact ⟨_, _, rfl, .inl ⟨h0, rfl, rfl⟩⟩
    · exact ⟨pl, _, by rw [h0], .inr ⟨h0, rfl, hpl⟩⟩
  subst hs1v
  clear hsp1
  obtain ⟨E, hEE⟩ : ∃ E, E = spreadE Y field many := ⟨_, rfl⟩
  rw [← hEE] at es1 hE hpv
  clear hEE
  by_cases a1 : 0 ≤ field ∧ field ≤ (Y.nf : Int) - 1
  case neg =>
    obtain ⟨TH, hTH⟩ : ∃ b, b = false := ⟨_, rfl⟩
    rw [@decide_eq_false _ (_) a1] at ein
    rw [← hTH] at ein
    rw [@decide_eq_false _ (_) (fun hx : IsSpread Y field np p least => a1 hx.2.2.2.1)] at epr
    rw [if_pos (fun e => a1 e.1)] at hE
    rcases hpv with ⟨_, rfl, rfl⟩ | ⟨h0, _⟩
    case inr => omega
    obtain ⟨pl, hpl⟩ : ∃ x, x = nilS := ⟨_, rfl⟩
    obtain ⟨ev, hev⟩ : ∃ x : Int, x = 0 := ⟨_, rfl⟩
    rw [← hpl, ← hev] at es1
    simp only [rn0, rn1, rn2, rn3, rn4, rn5, rn6, rn7, rn8, if_true, if_false, Nat.le_refl, true_and, and_true, decide_true, decide_false, Bool.not_true, Bool.not_false, reduceIte, Nat.reduceEqDiff, Nat.reduceAdd, Nat.reduceMul, Nat.reduceSub, Nat.reduceLeDiff, Nat.reduceLT, x1, ht, Cells.len hp1, hl30, ey1, es1, ex30, ex31, ex32, x3, ey2, el, epr, r5.ld, Nat.zero_add, List.getElem?_cons_zero, List.getElem?_cons_succ, Cells.len hy5.f, hwn, ein, x5, esu, ex0, ex1, Int.reduceEq, hTH]
    refine W_loop np (fun i f g ms => g = g6 ∧ ms = [] ∧ f 2 = .int .i64 many ∧ f 3 = vp ∧ f 4 = .int .i64 least ∧ f 1 = .int .i64 field ∧ f 5 = .pointer (some ⟨h.next, 0, none⟩) ∧ f 11 = pl ∧ f 12 = .int .i64 ev ∧ f 13 = .int .i64 E ∧ f 14 = .bool false ∧ f 15 = .bool false ∧ f 16 = l ∧ f 17 = .int .i64 0 ∧ f 18 = .bool false ∧ f 19 = .int .i64 (i : Int)) (by simp; omega) ?_ ?_ ?_
    · simp only [rn0, rn1, rn2, rn3, rn4, rn5, rn6, rn7, rn8, if_true, if_false, Nat.le_refl, true_and, and_true, decide_true, decide_false, Bool.not_true, Bool.not_false, reduceIte, Nat.reduceEqDiff, Nat.reduceAdd, Nat.reduceMul, Nat.reduceSub, Nat.reduceLeDiff, Nat.reduceLT]
      first | done | rfl | exact ⟨rfl, rfl⟩
    · rintro i f g ms hi ⟨rfl, rfl, q2, q3, q4, q1, q5, q11, q12, q13, q14, q15, q16, q17, q18, q19⟩
      have hi' : (i : Int) < (np : Int) := by omega
      have hwi : wrapF .i64 ((i : Int) + 1) = ((i + 1 : Nat) : Int) := by rw [wrap_in (by omega) (by omega)]; rfl
      simp only [rn0, rn1, rn2, rn3, rn4, rn5, rn6, rn7, rn8, if_true, if_false, Nat.le_refl, true_and, and_true, decide_true, decide_false, Bool.not_true, Bool.not_false, reduceIte, Nat.reduceEqDiff, Nat.reduceAdd, Nat.reduceMul, Nat.reduceSub, Nat.reduceLeDiff, Nat.reduceLT, q1, q2, q3, q4, q5, q11, q12, q13, q14, q15, q16, q17, q18, q19, Cells.len hp6, hi', hwi]
    rintro f g ms ⟨rfl, rfl, q2, q3, q4, q1, q5, q11, q12, q13, q14, q15, q16, q17, q18, q19⟩
    subst hpl hev
    simp only [rn0, rn1, rn2, rn3, rn4, rn5, rn6, rn7, rn8, if_true, if_false, Nat.le_refl, true_and, and_true, decide_true, decide_false, Bool.not_true, Bool.not_false, reduceIte, Nat.reduceEqDiff, Nat.reduceAdd, Nat.reduceMul, Nat.reduceSub, Nat.reduceLeDiff, Nat.reduceLT, q1, q2, q3, q4, q5, q11, q12, q13, q14, q15, q16, q17, q18, q19, Cells.len hp6, Int.lt_irrefl, x_binA, binA_neqB, p_neqB u4, valN_tmp, rBB, Nat.reduceLT, neq_self', x6, ef, hf, ein2, Int.reduceEq, r6.ld, Nat.zero_add, List.getElem?_cons_zero, List.getElem?_cons_succ, Cells.len hrw, len_slice, Int.natCast_zero, haw, g_un, hE]
  rw [@decide_eq_true _ (_) a1] at ein
  obtain ⟨fN, rfl⟩ : ∃ k : Nat, field = k := ⟨field.toNat, by omega⟩
  have hff : fN < Y.nf := by omega
  by_cases hv : Y.nv = 0
  · rw [@decide_eq_false _ (_) (fun hx : IsSpread Y (fN : Int) np p least => by have := hx.2.2.1; omega)] at epr
    have hvI : (Y.nv : Int) = 0 := by omega
    have hv0 : ¬ (0 : Int) < (Y.nv : Int) := by omega
    have hv0' : ¬ (0 : Int) < (0 : Int) := by omega
    have hE0 : E ≠ 0 := by
      rw [hE]
      by_cases c : SpreadArgs Y (fN : Int) many
      · rw [if_neg (fun e => e c), if_pos hv]; omega
      · rw [if_pos c]; omega
    rcases hpv with ⟨_, rfl, rfl⟩ | ⟨h0, _⟩
    case inr => exact absurd h0 hE0
    obtain ⟨rr5, hrw5, _⟩ := hy5.v
    obtain ⟨pl, hpl⟩ : ∃ x, x = nilS := ⟨_, rfl⟩
    obtain ⟨ev, hev⟩ : ∃ x : Int, x = 0 := ⟨_, rfl⟩
    rw [← hpl, ← hev] at es1
    simp only [rn0, rn1, rn2, rn3, rn4, rn5, rn6, rn7, rn8, if_true, if_false, Nat.le_refl, true_and, and_true, decide_true, decide_false, Bool.not_true, Bool.not_false, reduceIte, Nat.reduceEqDiff, Nat.reduceAdd, Nat.reduceMul, Nat.reduceSub, Nat.reduceLeDiff, Nat.reduceLT, x1, ht, Cells.len hp1, hl30, ey1, es1, ex30, ex31, ex32, x3, ey2, el, epr, r5.ld, Nat.zero_add, List.getElem?_cons_zero, List.getElem?_cons_succ, Cells.len hy5.f, hwn, ein, x5, esu, ex0, ex1, Int.reduceEq, r6.ld, Cells.len hrw, hv0]
    refine W_loop np (fun i f g ms => g = g6 ∧ ms = [] ∧ f 2 = .int .i64 many ∧ f 3 = vp ∧ f 4 = .int .i64 least ∧ f 1 = .int .i64 (fN : Int) ∧ f 5 = .pointer (some ⟨h.next, 0, none⟩) ∧ f 11 = pl ∧ f 12 = .int .i64 ev ∧ f 13 = .int .i64 E ∧ f 14 = .bool false ∧ f 15 = .bool true ∧ f 16 = l ∧ f 17 = .int .i64 0 ∧ f 18 = .bool false ∧ f 19 = .int .i64 (i : Int)) (by simp; omega) ?_ ?_ ?_
    · simp only [rn0, rn1, rn2, rn3, rn4, rn5, rn6, rn7, rn8, if_true, if_false, Nat.le_refl, true_and, and_true, decide_true, decide_false, Bool.not_true, Bool.not_false, reduceIte, Nat.reduceEqDiff, Nat.reduceAdd, Nat.reduceMul, Nat.reduceSub, Nat.reduceLeDiff, Nat.reduceLT]
      first | done | rfl | exact ⟨rfl, rfl⟩
    · rintro i f g ms hi ⟨rfl, rfl, q2, q3, q4, q1, q5, q11, q12, q13, q14, q15, q16, q17, q18, q19⟩
      have hi' : (i : Int) < (np : Int) := by omega
      have hwi : wrapF .i64 ((i : Int) + 1) = ((i + 1 : Nat) : Int) := by rw [wrap_in (by omega) (by omega)]; rfl
      simp only [rn0, rn1, rn2, rn3, rn4, rn5, rn6, rn7, rn8, if_true, if_false, Nat.le_refl, true_and, and_true, decide_true, decide_false, Bool.not_true, Bool.not_false, reduceIte, Nat.reduceEqDiff, Nat.reduceAdd, Nat.reduceMul, Nat.reduceSub, Nat.reduceLeDiff, Nat.reduceLT, q1, q2, q3, q4, q5, q11, q12, q13, q14, q15, q16, q17, q18, q19, Cells.len hp6, hi', hwi]
    rintro f g ms ⟨rfl, rfl, q2, q3, q4, q1, q5, q11, q12, q13, q14, q15, q16, q17, q18, q19⟩
    subst hpl hev
    by_cases a2 : 0 ≤ many ∧ many ≤ 9
    · rw [@decide_eq_true _ (_) a2] at ein2
      rw [if_neg (fun e => e ⟨a1, a2⟩), if_pos hv] at hE
      simp only [rn0, rn1, rn2, rn3, rn4, rn5, rn6, rn7, rn8, if_true, if_false, Nat.le_refl, true_and, and_true, decide_true, decide_false, Bool.not_true, Bool.not_false, reduceIte, Nat.reduceEqDiff, Nat.reduceAdd, Nat.reduceMul, Nat.reduceSub, Nat.reduceLeDiff, Nat.reduceLT, q1, q2, q3, q4, q5, q11, q12, q13, q14, q15, q16, q17, q18, q19, Cells.len hp6, Int.lt_irrefl, x_binA, binA_neqB, p_neqB u4, valN_tmp, rBB, Nat.reduceLT, neq_self', x6, ef, hf, ein2, Int.reduceEq, r6.ld, Nat.zero_add, List.getElem?_cons_zero, List.getElem?_cons_succ, Cells.len hrw, len_slice, Int.natCast_zero, haw, g_un, hE, hvI]
    · rw [@decide_eq_false _ (_) a2] at ein2
      rw [if_pos (fun e => a2 e.2)] at hE
      simp only [rn0, rn1, rn2, rn3, rn4, rn5, rn6, rn7, rn8, if_true, if_false, Nat.le_refl, true_and, and_true, decide_true, decide_false, Bool.not_true, Bool.not_false, reduceIte, Nat.reduceEqDiff, Nat.reduceAdd, Nat.reduceMul, Nat.reduceSub, Nat.reduceLeDiff, Nat.reduceLT, q1, q2, q3, q4, q5, q11, q12, q13, q14, q15, q16, q17, q18, q19, Cells.len hp6, Int.lt_irrefl, x_binA, binA_neqB, p_neqB u4, valN_tmp, rBB, Nat.reduceLT, neq_self', x6, ef, hf, ein2, Int.reduceEq, r6.ld, Nat.zero_add, List.getElem?_cons_zero, List.getElem?_cons_succ, Cells.len hrw, len_slice, Int.natCast_zero, haw, g_un, hE]
  have hv0 : (0 : Int) < (Y.nv : Int) := by omega
  have hvI : ¬ (Y.nv : Int) = 0 := by omega
  by_cases hnn : np = Y.nv
  case neg =>
    have hnn' : ¬ (np : Int) = (Y.nv : Int) := by omega
    rw [@decide_eq_false _ (_) (fun hx : IsSpread Y (fN : Int) np p least => hnn hx.2.2.2.2.1)] at epr
    simp only [rn0, rn1, rn2, rn3, rn4, rn5, rn6, rn7, rn8, if_true, if_false, Nat.le_refl, true_and, and_true, decide_true, decide_false, Bool.not_true, Bool.not_false, reduceIte, Nat.reduceEqDiff, Nat.reduceAdd, Nat.reduceMul, Nat.reduceSub, Nat.reduceLeDiff, Nat.reduceLT, x1, ht, Cells.len hp1, hl30, ey1, es1, ex30, ex31, ex32, x3, ey2, el, epr, r5.ld, Nat.zero_add, List.getElem?_cons_zero, List.getElem?_cons_succ, Cells.len hy5.f, hwn, ein, x5, esu, ex0, ex1, Int.reduceEq, r6.ld, Cells.len hrw, hv0, Cells.len hp6, hnn']
    refine W_loop np (fun i f g ms => g = g6 ∧ ms = [] ∧ f 2 = .int .i64 many ∧ f 3 = vp ∧ f 4 = .int .i64 least ∧ f 1 = .int .i64 (fN : Int) ∧ f 5 = .pointer (some ⟨h.next, 0, none⟩) ∧ f 11 = pl ∧ f 12 = .int .i64 ev ∧ f 13 = .int .i64 E ∧ f 14 = .bool false ∧ f 15 = .bool true ∧ f 16 = l ∧ f 17 = .int .i64 0 ∧ f 18 = .bool false ∧ f 19 = .int .i64 (i : Int)) (by simp; omega) ?_ ?_ ?_
    · simp only [rn0, rn1, rn2, rn3, rn4, rn5, rn6, rn7, rn8, if_true, if_false, Nat.le_refl, true_and, and_true, decide_true, decide_false, Bool.not_true, Bool.not_false, reduceIte, Nat.reduceEqDiff, Nat.reduceAdd, Nat.reduceMul, Nat.reduceSub, Nat.reduceLeDiff, Nat.reduceLT]
      first | done | rfl | exact ⟨rfl, rfl⟩
    · rintro i f g ms hi ⟨rfl, rfl, q2, q3, q4, q1, q5, q11, q12, q13, q14, q15, q16, q17, q18, q19⟩
      have hi' : (i : Int) < (np : Int) := by omega
      have hwi : wrapF .i64 ((i : Int) + 1) = ((i + 1 : Nat) : Int) := by rw [wrap_in (by omega) (by omega)]; rfl
      simp only [rn0, rn1, rn2, rn3, rn4, rn5, rn6, rn7, rn8, if_true, if_false, Nat.le_refl, true_and, and_true, decide_true, decide_false, Bool.not_true, Bool.not_false, reduceIte, Nat.reduceEqDiff, Nat.reduceAdd, Nat.reduceMul, Nat.reduceSub, Nat.reduceLeDiff, Nat.reduceLT, q1, q2, q3, q4, q5, q11, q12, q13, q14, q15, q16, q17, q18, q19, Cells.len hp6, hi', hwi]
    rintro f g ms ⟨rfl, rfl, q2, q3, q4, q1, q5, q11, q12, q13, q14, q15, q16, q17, q18, q19⟩
    by_cases a2 : 0 ≤ many ∧ many ≤ 9
    case neg =>
      rw [@decide_eq_false _ (_) a2] at ein2
      rw [if_pos (fun e => a2 e.2)] at hE
      rcases hpv with ⟨_, rfl, rfl⟩ | ⟨h0, _⟩
      · simp only [rn0, rn1, rn2, rn3, rn4, rn5, rn6, rn7, rn8, if_true, if_false, Nat.le_refl, true_and, and_true, decide_true, decide_false, Bool.not_true, Bool.not_false, reduceIte, Nat.reduceEqDiff, Nat.reduceAdd, Nat.reduceMul, Nat.reduceSub, Nat.reduceLeDiff, Nat.reduceLT, q1, q2, q3, q4, q5, q11, q12, q13, q14, q15, q16, q17, q18, q19, Cells.len hp6, Int.lt_irrefl, x_binA, binA_neqB, p_neqB u4, valN_tmp, rBB, Nat.reduceLT, neq_self', x6, ef, hf, ein2, Int.reduceEq, r6.ld, Nat.zero_add, List.getElem?_cons_zero, List.getElem?_cons_succ, Cells.len hrw, len_slice, Int.natCast_zero, haw, g_un, hE, hvI]
      · omega
    rw [@decide_eq_true _ (_) a2] at ein2
    rw [if_neg (fun e => e ⟨a1, a2⟩), if_neg hv] at hE
    rcases hpv with ⟨h0, _⟩ | ⟨_, rfl, hpl⟩
    · omega
    obtain ⟨mN, rfl⟩ : ∃ k : Nat, many = k := ⟨many.toNat, by omega⟩
    obtain ⟨v7, g7, es7, m7, bl, rfl, hbl⟩ := spreadRef_c (n := n) (h := g) (by omega) (by omega) (by omega) hy6 hf he hl hff (by omega) (show mN ≤ 9 by omega)
    simp only [Int.toNat_natCast] at hpl q12
    have esa := same_c (n := n) (h := g7) (by omega) (Cells.mono hpl (mg4.sub.trans (mg5.sub.trans (mg6.sub.trans m7.sub)))) hbl (by omega)
    rw [@decide_eq_true _ (_) ⟨rfl, fun _ _ => rfl⟩] at esa
    simp only [rn0, rn1, rn2, rn3, rn4, rn5, rn6, rn7, rn8, if_true, if_false, Nat.le_refl, true_and, and_true, decide_true, decide_false, Bool.not_true, Bool.not_false, reduceIte, Nat.reduceEqDiff, Nat.reduceAdd, Nat.reduceMul, Nat.reduceSub, Nat.reduceLeDiff, Nat.reduceLT, q1, q2, q3, q4, q5, q11, q12, q13, q14, q15, q16, q17, q18, q19, Cells.len hp6, Int.lt_irrefl, x_binA, binA_neqB, p_neqB u4, valN_tmp, rBB, Nat.reduceLT, neq_self', x6, ef, hf, ein2, Int.reduceEq, r6.ld, Nat.zero_add, List.getElem?_cons_zero, List.getElem?_cons_succ, Cells.len hrw, len_slice, Int.natCast_zero, haw, g_un, hE, hvI, hv0, es7, ex0, ex1, esa]
  subst hnn
  obtain ⟨IS, hIS⟩ : ∃ IS : Bool, IS = decide (IsSpread Y (fN : Int) Y.nv p least) := ⟨_, rfl⟩
  rw [← hIS] at epr
  simp only [rn0, rn1, rn2, rn3, rn4, rn5, rn6, rn7, rn8, if_true, if_false, Nat.le_refl, true_and, and_true, decide_true, decide_false, Bool.not_true, Bool.not_false, reduceIte, Nat.reduceEqDiff, Nat.reduceAdd, Nat.reduceMul, Nat.reduceSub, Nat.reduceLeDiff, Nat.reduceLT, x1, ht, Cells.len hp1, hl30, ey1, es1, ex30, ex31, ex32, x3, ey2, el, epr, r5.ld, Nat.zero_add, List.getElem?_cons_zero, List.getElem?_cons_succ, Cells.len hy5.f, hwn, ein, x5, esu, ex0, ex1, Int.reduceEq, r6.ld, Cells.len hrw, hv0, Cells.len hp6]
  refine W_loop Y.nv (fun i f g ms => g = g6 ∧ ms = [] ∧ f 2 = .int .i64 many ∧ f 3 = vp ∧ f 4 = .int .i64 least ∧ f 1 = .int .i64 (fN : Int) ∧ f 5 = .pointer (some ⟨h.next, 0, none⟩) ∧ f 11 = pl ∧ f 12 = .int .i64 ev ∧ f 13 = .int .i64 E ∧ f 14 = .bool IS ∧ f 15 = .bool true ∧ f 16 = l ∧ f 17 = .int .i64 0 ∧ f 18 = .bool (decide (∀ j, j < i → 0 ≤ p j ∧ p j ≤ 9)) ∧ f 19 = .int .i64 (i : Int)) (by simp; omega) ?_ ?_ ?_
  · simp only [rn0, rn1, rn2, rn3, rn4, rn5, rn6, rn7, rn8, if_true, if_false, Nat.le_refl, true_and, and_true, decide_true, decide_false, Bool.not_true, Bool.not_false, reduceIte, Nat.reduceEqDiff, Nat.reduceAdd, Nat.reduceMul, Nat.reduceSub, Nat.reduceLeDiff, Nat.reduceLT]
    refine ⟨rfl, ?_⟩
    simp
  · rintro i f g ms hi ⟨rfl, rfl, q2, q3, q4, q1, q5, q11, q12, q13, q14, q15, q16, q17, q18, q19⟩
    have hi' : (i : Int) < (Y.nv : Int) := by omega
    have hwi : wrapF .i64 ((i : Int) + 1) = ((i + 1 : Nat) : Int) := by rw [wrap_in (by omega) (by omega)]; rfl
    have ein9 := in_c (n := n) (h := g) (by omega) (p i) 0 9
    by_cases hd : ∀ j, j < i → 0 ≤ p j ∧ p j ≤ 9
    · rw [@decide_eq_true _ (_) hd] at q18
      by_cases hpi : 0 ≤ p i ∧ p i ≤ 9
      · rw [@decide_eq_true _ (_) hpi] at ein9
        simp only [rn0, rn1, rn2, rn3, rn4, rn5, rn6, rn7, rn8, if_true, if_false, Nat.le_refl, true_and, and_true, decide_true, decide_false, Bool.not_true, Bool.not_false, reduceIte, Nat.reduceEqDiff, Nat.reduceAdd, Nat.reduceMul, Nat.reduceSub, Nat.reduceLeDiff, Nat.reduceLT, q1, q2, q3, q4, q5, q11, q12, q13, q14, q15, q16, q17, q18, q19, Cells.len hp6, hi', Cells.idx hp6 hi, Cells.ld hp6 hi Nat.zero_lt_one, ein9, hwi]
        rw [decide_eq_true fun j hj => ?_]
        by_cases e : j = i
        · subst e; exact hpi
        · exact hd j (by omega)
      · rw [@decide_eq_false _ (_) hpi] at ein9
        simp only [rn0, rn1, rn2, rn3, rn4, rn5, rn6, rn7, rn8, if_true, if_false, Nat.le_refl, true_and, and_true, decide_true, decide_false, Bool.not_true, Bool.not_false, reduceIte, Nat.reduceEqDiff, Nat.reduceAdd, Nat.reduceMul, Nat.reduceSub, Nat.reduceLeDiff, Nat.reduceLT, q1, q2, q3, q4, q5, q11, q12, q13, q14, q15, q16, q17, q18, q19, Cells.len hp6, hi', Cells.idx hp6 hi, Cells.ld hp6 hi Nat.zero_lt_one, ein9, hwi]
        rw [decide_eq_false fun hh => hpi (hh i (by omega))]
    · rw [@decide_eq_false _ (_) hd] at q18
      simp only [rn0, rn1, rn2, rn3, rn4, rn5, rn6, rn7, rn8, if_true, if_false, Nat.le_refl, true_and, and_true, decide_true, decide_false, Bool.not_true, Bool.not_false, reduceIte, Nat.reduceEqDiff, Nat.reduceAdd, Nat.reduceMul, Nat.reduceSub, Nat.reduceLeDiff, Nat.reduceLT, q1, q2, q3, q4, q5, q11, q12, q13, q14, q15, q16, q17, q18, q19, Cells.len hp6, hi', hwi]
      rw [decide_eq_false fun hh => hd fun j hj => hh j (by omega)]
  rintro f g ms ⟨rfl, rfl, q2, q3, q4, q1, q5, q11, q12, q13, q14, q15, q16, q17, q18, q19⟩
  by_cases hd : ∀ j, j < Y.nv → 0 ≤ p j ∧ p j ≤ 9
  · rw [@decide_eq_true _ (_) hd] at q18
    have ele := least_c (n := n) (h := g) (by omega) (by omega) hy6 hf he hl hff (by omega) hp6 hd
    have hIS2 : IS = decide (least ≤ lowS (fun v k => sureN Y v fN k (truths Y)) Y.nv p) := by
      rw [hIS]
      refine decide_eq_decide.2 ?_
      rw [le_lowS (by omega)]
      constructor
      · rintro ⟨_, _, _, _, _, _, h⟩ v hvv
        have := h v hvv
        rw [Int.toNat_natCast] at this
        exact this
      · intro h
        exact ⟨hf, he, by omega, a1, rfl, hd, fun v hvv => by rw [Int.toNat_natCast]; exact h v hvv⟩
    rw [hIS2] at q14
    by_cases a2 : 0 ≤ many ∧ many ≤ 9
    case neg =>
      rw [@decide_eq_false _ (_) a2] at ein2
      rw [if_pos (fun e => a2 e.2)] at hE
      rcases hpv with ⟨_, rfl, rfl⟩ | ⟨h0, _⟩
      · simp only [rn0, rn1, rn2, rn3, rn4, rn5, rn6, rn7, rn8, if_true, if_false, Nat.le_refl, true_and, and_true, decide_true, decide_false, Bool.not_true, Bool.not_false, reduceIte, Nat.reduceEqDiff, Nat.reduceAdd, Nat.reduceMul, Nat.reduceSub, Nat.reduceLeDiff, Nat.reduceLT, q1, q2, q3, q4, q5, q11, q12, q13, q14, q15, q16, q17, q18, q19, Cells.len hp6, Int.lt_irrefl, x_binA, binA_neqB, p_neqB u4, valN_tmp, rBB, Nat.reduceLT, neq_self', x6, ef, hf, ein2, Int.reduceEq, r6.ld, Nat.zero_add, List.getElem?_cons_zero, List.getElem?_cons_succ, Cells.len hrw, len_slice, Int.natCast_zero, haw, g_un, hE, hvI, ele]
      · omega
    rw [@decide_eq_true _ (_) a2] at ein2
    rw [if_neg (fun e => e ⟨a1, a2⟩), if_neg hv] at hE
    rcases hpv with ⟨h0, _⟩ | ⟨_, rfl, hpl⟩
    · omega
    obtain ⟨mN, rfl⟩ : ∃ k : Nat, many = k := ⟨many.toNat, by omega⟩
    obtain ⟨v7, g7, es7, m7, bl, rfl, hbl⟩ := spreadRef_c (n := n) (h := g) (by omega) (by omega) (by omega) hy6 hf he hl hff (by omega) (show mN ≤ 9 by omega)
    simp only [Int.toNat_natCast] at hpl q12
    have esa := same_c (n := n) (h := g7) (by omega) (Cells.mono hpl (mg4.sub.trans (mg5.sub.trans (mg6.sub.trans m7.sub)))) hbl (by omega)
    rw [@decide_eq_true _ (_) ⟨rfl, fun _ _ => rfl⟩] at esa
    simp only [rn0, rn1, rn2, rn3, rn4, rn5, rn6, rn7, rn8, if_true, if_false, Nat.le_refl, true_and, and_true, decide_true, decide_false, Bool.not_true, Bool.not_false, reduceIte, Nat.reduceEqDiff, Nat.reduceAdd, Nat.reduceMul, Nat.reduceSub, Nat.reduceLeDiff, Nat.reduceLT, q1, q2, q3, q4, q5, q11, q12, q13, q14, q15, q16, q17, q18, q19, Cells.len hp6, Int.lt_irrefl, x_binA, binA_neqB, p_neqB u4, valN_tmp, rBB, Nat.reduceLT, neq_self', x6, ef, hf, ein2, Int.reduceEq, r6.ld, Nat.zero_add, List.getElem?_cons_zero, List.getElem?_cons_succ, Cells.len hrw, len_slice, Int.natCast_zero, haw, g_un, hE, hvI, ele, hv0, es7, ex0, ex1, esa]
  · rw [@decide_eq_false _ (_) hd] at q18
    have hIS2 : IS = false := by rw [hIS]; exact decide_eq_false fun hx => hd hx.2.2.2.2.2.1
    rw [hIS2] at q14
    by_cases a2 : 0 ≤ many ∧ many ≤ 9
    case neg =>
      rw [@decide_eq_false _ (_) a2] at ein2
      rw [if_pos (fun e => a2 e.2)] at hE
      rcases hpv with ⟨_, rfl, rfl⟩ | ⟨h0, _⟩
      · simp only [rn0, rn1, rn2, rn3, rn4, rn5, rn6, rn7, rn8, if_true, if_false, Nat.le_refl, true_and, and_true, decide_true, decide_false, Bool.not_true, Bool.not_false, reduceIte, Nat.reduceEqDiff, Nat.reduceAdd, Nat.reduceMul, Nat.reduceSub, Nat.reduceLeDiff, Nat.reduceLT, q1, q2, q3, q4, q5, q11, q12, q13, q14, q15, q16, q17, q18, q19, Cells.len hp6, Int.lt_irrefl, x_binA, binA_neqB, p_neqB u4, valN_tmp, rBB, Nat.reduceLT, neq_self', x6, ef, hf, ein2, Int.reduceEq, r6.ld, Nat.zero_add, List.getElem?_cons_zero, List.getElem?_cons_succ, Cells.len hrw, len_slice, Int.natCast_zero, haw, g_un, hE, hvI]
      · omega
    rw [@decide_eq_true _ (_) a2] at ein2
    rw [if_neg (fun e => e ⟨a1, a2⟩), if_neg hv] at hE
    rcases hpv with ⟨h0, _⟩ | ⟨_, rfl, hpl⟩
    · omega
    obtain ⟨mN, rfl⟩ : ∃ k : Nat, many = k := ⟨many.toNat, by omega⟩
    obtain ⟨v7, g7, es7, m7, bl, rfl, hbl⟩ := spreadRef_c (n := n) (h := g) (by omega) (by omega) (by omega) hy6 hf he hl hff (by omega) (show mN ≤ 9 by omega)
    simp only [Int.toNat_natCast] at hpl q12
    have esa := same_c (n := n) (h := g7) (by omega) (Cells.mono hpl (mg4.sub.trans (mg5.sub.trans (mg6.sub.trans m7.sub)))) hbl (by omega)
    rw [@decide_eq_true _ (_) ⟨rfl, fun _ _ => rfl⟩] at esa
    simp only [rn0, rn1, rn2, rn3, rn4, rn5, rn6, rn7, rn8, if_true, if_false, Nat.le_refl, true_and, and_true, decide_true, decide_false, Bool.not_true, Bool.not_false, reduceIte, Nat.reduceEqDiff, Nat.reduceAdd, Nat.reduceMul, Nat.reduceSub, Nat.reduceLeDiff, Nat.reduceLT, q1, q2, q3, q4, q5, q11, q12, q13, q14, q15, q16, q17, q18, q19, Cells.len hp6, Int.lt_irrefl, x_binA, binA_neqB, p_neqB u4, valN_tmp, rBB, Nat.reduceLT, neq_self', x6, ef, hf, ein2, Int.reduceEq, r6.ld, Nat.zero_add, List.getElem?_cons_zero, List.getElem?_cons_succ, Cells.len hrw, len_slice, Int.natCast_zero, haw, g_un, hE, hvI, hv0, es7, ex0, ex1, esa]
theorem spreadsLaw_c (hn : 10200 ≤ n) (hr : h.next + 6000000 < far) (hfl : h.floor ≤ h.next) {fv vv sv vp : Value} {Y : MY} (hy : YardR h fv vv sv Y) (field many : Int) {np : Nat} {p : Nat → Int} (hp : Ints h vp np p) (least : Int) :
    ∃ v h', call n (.func (.func 7) #[] #[]) [.agg ⟨[fv, vv, sv]⟩, .int .i64 field, .int .i64 many, vp, .int .i64 least] h = some (v, h') ∧ v = .bool true := by
  by_cases hT : Thin Y
  · by_cases hnp : np ≤ 30
    · by_cases hf : faultN Y = 0
      · by_cases he : truths Y = []
        · exact spreads_B (by omega) hr hfl hy hT hp hnp field many least hf he
        · exact spreads_C (by omega) hr hfl hy hT hp hnp field many least hf he
      · exact spreads_A (by omega) hr hfl hy hT hp hnp field many least hf
    · obtain ⟨n, rfl⟩ : ∃ p, n = p + 1 := ⟨n - 1, by omega⟩
      refine call_any0 fok7 rfl rfl (by simp) ?_
      simp only [s7, W_seq, W_ops]
      refine ops_box (cs := [fv, vv, sv]) (by omega) rfl hy.one fun g1 hx1 => ?_
      have n1 := hx1.next
      have x1 := hx1.row.whole (n := 3) rfl
      have ht := thin_c (n := n) (h := g1) (by omega) (by omega) (hy.mono hx1.sub)
      rw [@decide_eq_true _ (_) hT] at ht
      have hp1 : Ints g1 vp np p := Cells.mono hp hx1.sub
      have hl30 : (30 : Int) < (np : Int) := by omega
      simp only [rn0, rn1, rn2, rn3, rn4, rn5, rn6, rn7, rn8, if_true, if_false, Nat.le_refl, true_and, and_true, decide_true, decide_false, Bool.not_true, Bool.not_false, reduceIte, Nat.reduceEqDiff, Nat.reduceAdd, Nat.reduceMul, Nat.reduceSub, Nat.reduceLeDiff, Nat.reduceLT, x1, ht, Cells.len hp1, hl30, awake_c (n := n) (h := g1) (by omega)]
  · obtain ⟨n, rfl⟩ : ∃ p, n = p + 1 := ⟨n - 1, by omega⟩
    refine call_any0 fok7 rfl rfl (by simp) ?_
    simp only [s7, W_seq, W_ops]
    refine ops_box (cs := [fv, vv, sv]) (by omega) rfl hy.one fun g1 hx1 => ?_
    have n1 := hx1.next
    have x1 := hx1.row.whole (n := 3) rfl
    have ht := thin_c (n := n) (h := g1) (by omega) (by omega) (hy.mono hx1.sub)
    rw [@decide_eq_false _ (_) hT] at ht
    simp only [rn0, rn1, rn2, rn3, rn4, rn5, rn6, rn7, rn8, if_true, if_false, Nat.le_refl, true_and, and_true, decide_true, decide_false, Bool.not_true, Bool.not_false, reduceIte, Nat.reduceEqDiff, Nat.reduceAdd, Nat.reduceMul, Nat.reduceSub, Nat.reduceLeDiff, Nat.reduceLT, x1, ht, awake_c (n := n) (h := g1) (by omega)]
end Go.Vm.Vat
