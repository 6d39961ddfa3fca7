/- Texts of the proofs of this seat, put together: BtBestL. -/
import Derived.Test.YtjihegbffhhcaaaPk14

namespace Go.Vm.Bt
open Go.Proofs Go.Vm.Vat Go.Vm.L2
set_option linter.unusedSimpArgs false
set_option linter.unusedVariables false
set_option maxRecDepth 10000
variable {n : Nat} {h : AHeap}
def s50 : SCode := (.seq (.ops [⟨(some 4), none, .mov (.const (.bool false))⟩]) (.seq (.seq (.ops [⟨(some 6), none, .mov (T 0)⟩, ⟨(some 7), none, .len (T 6)⟩, ⟨(some 8), none, .mov (T 1)⟩, ⟨(some 9), none, .len (T 8)⟩, ⟨(some 10), none, .int2 .neq (T 7) (T 9)⟩]) (.cond (T 10) (.seq (.ops [⟨(some 4), none, .mov (.const (.bool false))⟩]) .ret) .skip)) (.seq (.seq (.ops [⟨(some 5), none, .mov (.const (.int .i64 (0)))⟩]) (.block 0 (.loop (.seq (.seq (.ops [⟨(some 11), none, .mov (T 5)⟩, ⟨(some 12), none, .mov (T 0)⟩, ⟨(some 13), none, .len (T 12)⟩, ⟨(some 14), none, .int2 .lss (T 11) (T 13)⟩]) (.cond (T 14) .skip (.exit 0))) (.seq (.block 1 (.seq (.draw [⟨.free, ⟨(some 17), none, .mov (T 0)⟩⟩, ⟨.free, ⟨(some 18), none, .mov (T 5)⟩⟩, ⟨.free, ⟨(some 19), none, .idxSl 1 (T 17) (T 18)⟩⟩, ⟨.rd1, ⟨(some 20), none, .load1 (T 19)⟩⟩, ⟨.free, ⟨(some 21), none, .mov (T 1)⟩⟩, ⟨.free, ⟨(some 22), none, .mov (T 5)⟩⟩, ⟨.free, ⟨(some 23), none, .idxSl 1 (T 21) (T 22)⟩⟩, ⟨.rd1, ⟨(some 24), none, .load1 (T 23)⟩⟩, ⟨.free, ⟨(some 25), none, .int2 .neq (T 20) (T 24)⟩⟩]) (.cond (T 25) (.seq (.ops [⟨(some 4), none, .mov (.const (.bool false))⟩]) .ret) .skip))) (.ops [⟨(some 15), none, .mov (T 5)⟩, ⟨(some 16), none, .int2 .add (T 15) (.const (.int .i64 (1)))⟩, ⟨(some 5), none, .mov (T 16)⟩])))))) (.seq (.ops [⟨(some 4), none, .mov (.const (.bool true))⟩]) .ret))))
theorem fok50 : FnOk Try.prog 50 26 s50 [.tmp 4] := ⟨Try.f50, _, Try.func50, rfl, Try.ntmps50, by kernel_rfl, by kernel_rfl⟩
open Classical in
theorem sameB_c (hn : 1010 ≤ n) {m k : Nat} (hm : m ≤ 1000) {va vb : Value} {a b : Nat → Int} (ha : Ints h va m a) (hb : Ints h vb k b) : call n (.func (.func 50) #[] #[]) [va, vb] h = some (.bool (decide (m = k ∧ ∀ i, i < m → a i = b i)), h) := by
  obtain ⟨n, rfl⟩ : ∃ p, n = p + 1 := ⟨n - 1, by omega⟩
  refine call_plain0 fok50 rfl rfl (by simp) rfl ?_
  have ha : Ints h.shutAll va m a := Cells.shut ha
  have hb : Ints h.shutAll vb k b := Cells.shut hb
  generalize h.shutAll = h at ha hb
  obtain ⟨bb, hbb⟩ : ∃ bb, bb = decide (m = k ∧ ∀ i, i < m → a i = b i) := ⟨_, rfl⟩
  rw [← hbb]
  by_cases c : m = k
  case neg =>
    have c' : ¬ (m : Int) = (k : Int) := by omega
    have hd : bb = false := by rw [hbb]; exact decide_eq_false fun e => c e.1
    simp only [rn0, rn1, rn2, reduceIte, Nat.reduceEqDiff, Nat.reduceAdd, Nat.reduceMul, Nat.reduceSub, Nat.reduceLeDiff, Nat.reduceLT, s50, Cells.len ha, Cells.len hb, c', hd]
  subst c
  simp only [rn0, rn1, rn2, reduceIte, Nat.reduceEqDiff, Nat.reduceAdd, Nat.reduceMul, Nat.reduceSub, Nat.reduceLeDiff, Nat.reduceLT, s50, Cells.len ha, Cells.len hb]
  refine W_loop m (fun k f g ms => (∀ i, i < k → a i = b i) ∧ g = h ∧ ms = [] ∧ f 0 = va ∧ f 1 = vb ∧ f 5 = .int .i64 (k : Int)) (by simp; omega) ?_ ?_ ?_
  · simp only [rn0, rn1, rn2, reduceIte, Nat.reduceEqDiff, Nat.reduceAdd, Nat.reduceMul, Nat.reduceSub, Nat.reduceLeDiff, Nat.reduceLT]
    exact ⟨fun i hi => by omega, rfl⟩
  · rintro k f g ms hk ⟨he, rfl, rfl, p0, p1, p5⟩
    have hk' : (k : Int) < (m : Int) := by omega
    have hw : wrapF .i64 ((k : Int) + 1) = ((k + 1 : Nat) : Int) := by rw [wrap_in (by omega) (by omega)]; rfl
    have la := Cells.ld ha hk Nat.zero_lt_one
    have lb := Cells.ld hb hk Nat.zero_lt_one
    simp only [rn0, rn1, rn2, reduceIte, Nat.reduceEqDiff, Nat.reduceAdd, Nat.reduceMul, Nat.reduceSub, Nat.reduceLeDiff, Nat.reduceLT, p0, p1, p5, Cells.len ha, hk']
    refine W_draw All ?_
    by_cases c : a k = b k
    · simp only [rn0, rn1, rn2, reduceIte, Nat.reduceEqDiff, Nat.reduceAdd, Nat.reduceMul, Nat.reduceSub, Nat.reduceLeDiff, Nat.reduceLT, p0, p1, p5, Cells.idx ha hk, Cells.idx hb hk, la, lb, c, hw]
      intro i hi
      by_cases e : i = k
      · subst e; exact c
      · exact he i (by omega)
    · have hd : bb = false := by rw [hbb]; exact decide_eq_false fun e => c (e.2 k hk)
      rw [hd]
      simp only [rn0, rn1, rn2, reduceIte, Nat.reduceEqDiff, Nat.reduceAdd, Nat.reduceMul, Nat.reduceSub, Nat.reduceLeDiff, Nat.reduceLT, p0, p1, p5, Cells.idx ha hk, Cells.idx hb hk, la, lb, c]
  · rintro f g ms ⟨he, rfl, rfl, p0, p1, p5⟩
    have hd : bb = true := by rw [hbb]; exact decide_eq_true ⟨rfl, he⟩
    rw [hd]
    simp only [rn0, rn1, rn2, reduceIte, Nat.reduceEqDiff, Nat.reduceAdd, Nat.reduceMul, Nat.reduceSub, Nat.reduceLeDiff, Nat.reduceLT, p0, p1, p5, Cells.len ha, Int.lt_irrefl]
theorem losses_ref {S : MB} (hG : Good S) (hT : truthsS S ≠ []) {e : Nat → Int} {m : Nat} (hh : Hours S m e) : ∀ t, t ∈ refTruths S → 0 ≤ lossTo S (whenS t) e m ∧ lossTo S (whenS t) e m ≤ 780 := fun t ht => by
  have hmn := hh.1
  have hEn : EndsOk S S.nv (fun v => if v < S.nv then e v else 0) := ⟨fun v hv => by simp only [hv, if_true]; exact hh.2 v (by omega), fun v hv => if_neg (by omega)⟩
  have := loss_ends hG ((refTruths_mem hG).1 ht) (m := m) (by omega) hEn
  rwa [loss_congr (S := S) (d := whenS t) (d' := whenS t) (e := fun v => if v < S.nv then e v else 0) (e' := e) m fun v hv => ⟨rfl, by simp [show v < S.nv by omega]⟩] at this
theorem lossesW_c (hn : 420 ≤ n) (hr : h.next + 100 < far) {vv sv v lv : Value} {S : MB} {m : Nat} {e : Nat → Int} (hy : BeatR h vv sv S) (hG : Good S) (hT : truthsS S ≠ []) (hc : CoursesL h v S (refTruths S)) (hl : Ints h lv m e) (hh : Hours S m e) :
    call n (.func (.func 46) #[] #[]) [.agg ⟨beL S vv sv⟩, v, lv] h = some (.agg ⟨[.int .i64 (wLo S e S.nv), .int .i64 (wHi S e S.nv)]⟩, h) := by
  obtain ⟨z0, z1, z3, _⟩ := hG.sizes
  have hmn := hh.1
  have hL0 : refTruths S ≠ [] := fun q => hT ((ref_nil hG).1 q)
  have hb := losses_ref hG hT hh
  have eL := lossesR_c hn hr hy hG hc (fun t ht => (truths_mem.1 ((refTruths_mem hG).1 ht)).1.1) (Nat.le_trans (ref_len hG) (by omega)) hl (by omega) fun v hv => by have := hh.2 v hv; omega
  rw [loK_all hL0 fun t ht => by have := hb t ht; omega, hiK_all hL0 fun t ht => by have := hb t ht; omega, wLo_ref hG hT, wHi_ref hG hT, hmn] at eL
  exact eL
def s49 : SCode := (.seq (.ops [⟨(some 2), none, .box (T 0)⟩, ⟨(some 4), none, .mov (.const (.slice none 0 0))⟩, ⟨(some 5), none, .mov (.const (.int .i64 (0)))⟩]) (.seq (.ops [⟨(some 6), none, .mov (.const (.slice none 0 0))⟩]) (.seq (.ops [⟨(some 7), none, .mov (.const (.int .i64 (1099511627776)))⟩]) (.seq (.ops [⟨(some 11), none, .loadN 5 (T 2)⟩, ⟨(some 12), none, .fieldAddr 2 (T 2)⟩, ⟨(some 13), none, .load1 (T 12)⟩, ⟨(some 14), none, .len (T 13)⟩, ⟨(some 15), none, .call (.func 97) [(T 11), (T 14)]⟩, ⟨(some 8), none, .mov (T 15)⟩]) (.seq (.seq (.ops [⟨(some 9), none, .mov (.const (.int .i64 (0)))⟩]) (.block 0 (.loop (.seq (.seq (.ops [⟨(some 16), none, .mov (T 9)⟩, ⟨(some 17), none, .mov (T 8)⟩, ⟨(some 18), none, .len (T 17)⟩, ⟨(some 19), none, .int2 .lss (T 16) (T 18)⟩]) (.cond (T 19) .skip (.exit 0))) (.seq (.block 1 (.seq (.draw [⟨.rd1, ⟨(some 22), none, .loadN 5 (T 2)⟩⟩, ⟨.free, ⟨(some 23), none, .mov (T 1)⟩⟩, ⟨.free, ⟨(some 24), none, .mov (T 8)⟩⟩, ⟨.free, ⟨(some 25), none, .mov (T 9)⟩⟩, ⟨.free, ⟨(some 26), none, .idxSl 1 (T 24) (T 25)⟩⟩, ⟨.rd1, ⟨(some 27), none, .load1 (T 26)⟩⟩, ⟨.any, ⟨(some 28), none, .call (.func 46) [(T 22), (T 23), (T 27)]⟩⟩, ⟨.free, ⟨(some 29), none, .field1 1 (T 28)⟩⟩, ⟨.free, ⟨(some 10), none, .mov (T 29)⟩⟩]) (.seq (.ops [⟨(some 30), none, .mov (T 10)⟩, ⟨(some 31), none, .mov (T 7)⟩, ⟨(some 32), none, .int2 .lss (T 30) (T 31)⟩]) (.cond (T 32) (.ops [⟨(some 33), none, .mov (T 8)⟩, ⟨(some 34), none, .mov (T 9)⟩, ⟨(some 35), none, .idxSl 1 (T 33) (T 34)⟩, ⟨(some 36), none, .load1 (T 35)⟩, ⟨(some 37), none, .mov (T 10)⟩, ⟨(some 6), none, .mov (T 36)⟩, ⟨(some 7), none, .mov (T 37)⟩]) .skip)))) (.ops [⟨(some 20), none, .mov (T 9)⟩, ⟨(some 21), none, .int2 .add (T 20) (.const (.int .i64 (1)))⟩, ⟨(some 9), none, .mov (T 21)⟩])))))) (.seq (.ops [⟨(some 38), none, .mov (T 6)⟩, ⟨(some 39), none, .mov (T 7)⟩, ⟨(some 4), none, .mov (T 38)⟩, ⟨(some 5), none, .mov (T 39)⟩]) .ret))))))
theorem fok49 : FnOk Try.prog 49 40 s49 [.tmp 4, .tmp 5] := ⟨Try.f49, _, Try.func49, rfl, Try.ntmps49, by kernel_rfl, by kernel_rfl⟩
set_option maxHeartbeats 2000000 in
theorem bestRef_c (hn : 1200 ≤ n) (hr : h.next + 60000 < far) (hfl : h.floor ≤ h.next) {vv sv v : Value} {S : MB} (hy : BeatR h vv sv S) (hG : Good S) (hT : truthsS S ≠ []) (hc : CoursesL h v S (refTruths S)) :
    ∃ r h', call n (.func (.func 49) #[] #[]) [.agg ⟨beL S vv sv⟩, v] h = some (.tuple ⟨[r, .int .i64 (bestS S).2]⟩, h') ∧ Ints h' r S.nv (bestS S).1 ∧ (∀ i, i < h.next → h'.get i = h.get i) ∧ h.next ≤ h'.next ∧ h'.next ≤ h.next + 40000 ∧ h'.floor = h.floor := by
  obtain ⟨n, rfl⟩ : ∃ p, n = p + 1 := ⟨n - 1, by omega⟩
  obtain ⟨z0, z1, z3, _⟩ := hG.sizes
  suffices hs : ∃ w h', call (n + 1) (.func (.func 49) #[] #[]) [.agg ⟨beL S vv sv⟩, v] h = some (w, h') ∧ ∃ r, w = .tuple ⟨[r, .int .i64 (bestS S).2]⟩ ∧ Ints h' r S.nv (bestS S).1 ∧ (∀ i, i < h.next → h'.get i = h.get i) ∧ h.next ≤ h'.next ∧ h'.next ≤ h.next + 40000 ∧ h'.floor = h.floor by
    obtain ⟨w, h', e, r, rfl, q⟩ := hs
    exact ⟨r, h', e, q⟩
  refine call_any0 fok49 rfl rfl (by simp) ?_
  simp only [s49, W_seq, W_ops]
  refine ops_box (cs := beL S vv sv) (by omega) rfl hy.one fun g1 hx1 => ?_
  have n1 := hx1.next
  have f1 := hx1.floor
  have hy1 := hy.mono hx1.sub
  have r1 := hx1.row
  have hcb := cB_le (m := S.nv) z3
  obtain ⟨al, g2, e2, ⟨R, hR, hR2⟩, o2, old2, u2, m2, f2⟩ := endings_c (vv := vv) (sv := sv) hG S.nv n g1 z3 (by omega) (by omega) (by omega) hy1
  obtain ⟨W, hW⟩ : ∃ W, W = S.last.toNat + 1 := ⟨_, rfl⟩
  have hW0 : 0 < W := by omega
  have hWl : (W : Int) = S.last + 1 := by omega
  rw [← hW] at hR hR2
  obtain ⟨M, hM⟩ : ∃ M, M = W ^ S.nv := ⟨_, rfl⟩
  have hMp : 0 < M := by rw [hM]; exact Nat.pow_pos hW0
  have hMl : M ≤ 1000 := by rw [hM]; exact pow_le (by omega) z3
  rw [← hM] at hR hR2
  have hlen : (endsL W S.nv M).length = M := endsL_len
  rw [hlen] at hR hR2
  have s12 : Sub All g1 g2 := AHeap.subOf old2
  have r2 := r1.mono s12
  have hy2 := hy1.mono s12
  have hc2 := hc.mono (hx1.sub.trans s12)
  have hok : ∀ k, EndsOk S S.nv (endN W S.nv k) := fun k => ⟨fun v hv => by have := endN_in hW0 S.nv k v hv; omega, fun v hv => endN_out S.nv k v hv⟩
  have hat : ∀ k, k < M → Ints g2 (R k) S.nv (endN W S.nv k) := fun k hk => by
    have := hR2 k hk
    rw [endsL_get hk, toL_len] at this
    exact cells_congr this fun i j hi hj => by rw [toL_at hi]
  have hhr : ∀ k, Hours S S.nv (endN W S.nv k) := fun k => ⟨rfl, (hok k).1⟩
  have hwb : ∀ k, 0 ≤ wHi S (endN W S.nv k) S.nv ∧ wHi S (endN W S.nv k) S.nv ≤ 780 := fun k => wHi_bound hG hT (hok k) (Nat.le_refl _)
  simp only [rn0, rn1, rn2, reduceIte, Nat.reduceEqDiff, Nat.reduceAdd, Nat.reduceMul, Nat.reduceSub, Nat.reduceLeDiff, Nat.reduceLT, r1.whole (n := 5) rfl, r1.ld, beg, Nat.zero_add, Cells.len hy1.v, e2]
  refine W_loop M (fun k f g ms => (g = g2 ∧ ((k = 0 ∧ f 7 = .int .i64 1099511627776) ∨ ∃ c, c < k ∧ f 6 = R c ∧ f 7 = .int .i64 (wHi S (endN W S.nv c) S.nv) ∧ ∀ j, j < k → wHi S (endN W S.nv c) S.nv ≤ wHi S (endN W S.nv j) S.nv ∧ (j < c → wHi S (endN W S.nv c) S.nv < wHi S (endN W S.nv j) S.nv))) ∧ ms = [] ∧ f 1 = v ∧ f 2 = .pointer (some ⟨h.next, 0, none⟩) ∧ f 8 = al ∧ f 9 = .int .i64 (k : Int)) (by simp; omega) ?_ ?_ ?_
  · simp only [rn0, rn1, rn2, reduceIte, Nat.reduceEqDiff, Nat.reduceAdd, Nat.reduceMul, Nat.reduceSub, Nat.reduceLeDiff, Nat.reduceLT, Int.natCast_zero, true_or]
  · rintro k f g ms hk ⟨⟨rfl, hb⟩, rfl, p1, p2, p8, p9⟩
    have hk' : (k : Int) < (M : Int) := by omega
    have hwk : wrapF .i64 ((k : Int) + 1) = ((k + 1 : Nat) : Int) := by rw [wrap_in (by omega) (by omega)]; rfl
    have eL := lossesW_c (n := n) (h := g) (by omega) (by omega) hy2 hG hT hc2 (hat k hk) (hhr k)
    have hbk := hwb k
    simp only [rn0, rn1, rn2, reduceIte, Nat.reduceEqDiff, Nat.reduceAdd, Nat.reduceMul, Nat.reduceSub, Nat.reduceLeDiff, Nat.reduceLT, p1, p2, p8, p9, Cells.len hR, hk']
    refine W_draw All ?_
    simp only [rn0, rn1, rn2, reduceIte, Nat.reduceEqDiff, Nat.reduceAdd, Nat.reduceMul, Nat.reduceSub, Nat.reduceLeDiff, Nat.reduceLT, p1, p2, p8, p9, r2.whole (n := 5) rfl, Cells.idx hR hk, Cells.ld hR hk Nat.zero_lt_one, eL, part1]
    rcases hb with ⟨h0, p7⟩ | ⟨c, hc1, p6, p7, hbest⟩
    · have hlt : wHi S (endN W S.nv k) S.nv < 1099511627776 := by omega
      simp only [rn0, rn1, rn2, reduceIte, Nat.reduceEqDiff, Nat.reduceAdd, Nat.reduceMul, Nat.reduceSub, Nat.reduceLeDiff, Nat.reduceLT, p1, p2, p7, p8, p9, hlt, Cells.idx hR hk, Cells.ld hR hk Nat.zero_lt_one, hwk]
      have fin : ∃ c, c < k + 1 ∧ R k = R c ∧ Value.int .i64 (wHi S (endN W S.nv k) S.nv) = .int .i64 (wHi S (endN W S.nv c) S.nv) ∧ ∀ j, j < k + 1 → wHi S (endN W S.nv c) S.nv ≤ wHi S (endN W S.nv j) S.nv ∧ (j < c → wHi S (endN W S.nv c) S.nv < wHi S (endN W S.nv j) S.nv) := ⟨k, by omega, rfl, rfl, fun j hj => by
        obtain rfl : j = k := by omega
        exact ⟨Int.le_refl _, fun h => absurd h (Nat.lt_irrefl _)⟩⟩
      first | exact .inr fin | exact ⟨.inr fin, rfl⟩
    · by_cases hlt : wHi S (endN W S.nv k) S.nv < wHi S (endN W S.nv c) S.nv
      · simp only [rn0, rn1, rn2, reduceIte, Nat.reduceEqDiff, Nat.reduceAdd, Nat.reduceMul, Nat.reduceSub, Nat.reduceLeDiff, Nat.reduceLT, p1, p2, p7, p8, p9, hlt, Cells.idx hR hk, Cells.ld hR hk Nat.zero_lt_one, hwk]
        have fin : ∃ c, c < k + 1 ∧ R k = R c ∧ Value.int .i64 (wHi S (endN W S.nv k) S.nv) = .int .i64 (wHi S (endN W S.nv c) S.nv) ∧ ∀ j, j < k + 1 → wHi S (endN W S.nv c) S.nv ≤ wHi S (endN W S.nv j) S.nv ∧ (j < c → wHi S (endN W S.nv c) S.nv < wHi S (endN W S.nv j) S.nv) := ⟨k, by omega, rfl, rfl, fun j hj => by
          by_cases e : j = k
          · subst e; exact ⟨Int.le_refl _, fun h => absurd h (Nat.lt_irrefl _)⟩
          · have := (hbest j (by omega)).1
            exact ⟨by omega, fun _ => by omega⟩⟩
        first | exact .inr fin | exact ⟨.inr fin, rfl⟩
      · simp only [rn0, rn1, rn2, reduceIte, Nat.reduceEqDiff, Nat.reduceAdd, Nat.reduceMul, Nat.reduceSub, Nat.reduceLeDiff, Nat.reduceLT, p1, p2, p6, p7, p8, p9, hlt, hwk]
        have fin : ∃ c', c' < k + 1 ∧ R c = R c' ∧ Value.int .i64 (wHi S (endN W S.nv c) S.nv) = .int .i64 (wHi S (endN W S.nv c') S.nv) ∧ ∀ j, j < k + 1 → wHi S (endN W S.nv c') S.nv ≤ wHi S (endN W S.nv j) S.nv ∧ (j < c' → wHi S (endN W S.nv c') S.nv < wHi S (endN W S.nv j) S.nv) := ⟨c, by omega, rfl, rfl, fun j hj => by
          by_cases e : j = k
          · subst e; exact ⟨by omega, fun h => by omega⟩
          · exact hbest j (by omega)⟩
        first | exact .inr fin | exact ⟨.inr fin, rfl⟩
  · rintro f g ms ⟨⟨rfl, hb⟩, rfl, p1, p2, p8, p9⟩
    rcases hb with ⟨h0, p7⟩ | ⟨c, hc1, p6, p7, hbest⟩
    · omega
    · have hu := best_uniq hG hT (x := endN W S.nv c) (hok c) fun e he => by
        obtain ⟨k, k1, k2⟩ := endN_all hW0 S.nv e (fun v hv => by have := he.1 v hv; omega) he.2
        have k1' : k < M := by rw [hM]; exact k1
        have hj := hbest k k1'
        rw [k2] at hj
        by_cases q : wHi S (endN W S.nv c) S.nv < wHi S e S.nv
        · exact .inl q
        · refine .inr ⟨by omega, ?_⟩
          by_cases e2 : k = c
          · right; rw [← k2, e2]
          · left
            have : c < k := by
              rcases Nat.lt_or_ge k c with h | h
              · have := hj.2 h; omega
              · omega
            rw [← k2]
            exact endN_lt hW0 S.nv c k this (by rw [← hM]; exact k1')
      rw [hu]
      simp only [rn0, rn1, rn2, reduceIte, Nat.reduceEqDiff, Nat.reduceAdd, Nat.reduceMul, Nat.reduceSub, Nat.reduceLeDiff, Nat.reduceLT, p1, p2, p6, p7, p8, p9, Cells.len hR, Int.lt_irrefl]
      exact ⟨_, rfl, _, rfl, hat c hc1, fun i hi => by rw [old2 i (by omega), hx1.old i hi], by omega, by omega, by omega⟩
def s6 : SCode := (.seq (.ops [⟨(some 3), none, .box (T 0)⟩, ⟨(some 6), none, .mov (.const (.bool false))⟩]) (.seq (.seq (.ops [⟨(some 15), none, .loadN 5 (T 3)⟩, ⟨(some 16), none, .call (.func 23) [(T 15)]⟩, ⟨(some 17), none, .not (T 16)⟩, ⟨(some 18), none, .mov (T 17)⟩, ⟨(some 19), (some (18, false)), .mov (T 1)⟩, ⟨(some 20), (some (18, false)), .len (T 19)⟩, ⟨(some 21), (some (18, false)), .int2 .gtr (T 20) (.const (.int .i64 (30)))⟩, ⟨(some 22), none, .pick (T 18) (.const (.bool true)) (T 21)⟩]) (.cond (T 22) (.seq (.ops [⟨(some 23), none, .call (.func 24) []⟩, ⟨(some 6), none, .mov (T 23)⟩]) .ret) .skip)) (.seq (.ops [⟨(some 25), none, .loadN 5 (T 3)⟩, ⟨(some 26), none, .call (.func 26) [(T 25)]⟩, ⟨(some 27), none, .call (.func 47) [(T 26)]⟩, ⟨(some 24), none, .mov (T 27)⟩, ⟨(some 28), none, .extract 0 (T 24)⟩, ⟨(some 29), none, .extract 1 (T 24)⟩, ⟨(some 30), none, .extract 2 (T 24)⟩, ⟨(some 7), none, .mov (T 28)⟩, ⟨(some 8), none, .mov (T 29)⟩, ⟨(some 9), none, .mov (T 30)⟩]) (.seq (.ops [⟨(some 31), none, .loadN 5 (T 3)⟩, ⟨(some 32), none, .call (.func 26) [(T 31)]⟩, ⟨(some 33), none, .mov (T 1)⟩, ⟨(some 34), none, .call (.func 28) [(T 33)]⟩, ⟨(some 35), none, .mov (T 2)⟩, ⟨(some 36), none, .call (.func 48) [(T 32), (T 34), (T 35)]⟩, ⟨(some 10), none, .mov (T 36)⟩]) (.seq (.ops [⟨(some 38), none, .loadN 5 (T 3)⟩, ⟨(some 39), none, .call (.func 41) [(T 38)]⟩, ⟨(some 37), none, .mov (T 39)⟩, ⟨(some 40), none, .extract 0 (T 37)⟩, ⟨(some 41), none, .extract 1 (T 37)⟩, ⟨(some 11), none, .mov (T 40)⟩, ⟨(some 12), none, .mov (T 41)⟩]) (.seq (.seq (.ops [⟨(some 42), none, .mov (T 12)⟩, ⟨(some 43), none, .int2 .neq (T 42) (.const (.int .i64 (0)))⟩]) (.cond (T 43) (.seq (.ops [⟨(some 44), none, .mov (T 9)⟩, ⟨(some 45), none, .mov (T 12)⟩, ⟨(some 46), none, .int2 .eql (T 44) (T 45)⟩, ⟨(some 47), none, .mov (T 46)⟩, ⟨(some 48), (some (47, true)), .mov (T 7)⟩, ⟨(some 49), (some (47, true)), .len (T 48)⟩, ⟨(some 50), (some (47, true)), .int2 .eql (T 49) (.const (.int .i64 (0)))⟩, ⟨(some 51), none, .pick (T 47) (T 50) (.const (.bool false))⟩, ⟨(some 52), none, .mov (T 51)⟩, ⟨(some 53), (some (52, true)), .mov (T 8)⟩, ⟨(some 54), (some (52, true)), .int2 .eql (T 53) (.const (.int .i64 (0)))⟩, ⟨(some 55), none, .pick (T 52) (T 54) (.const (.bool false))⟩, ⟨(some 56), none, .mov (T 55)⟩, ⟨(some 57), (some (56, true)), .mov (T 10)⟩, ⟨(some 58), (some (56, true)), .not (T 57)⟩, ⟨(some 59), none, .pick (T 56) (T 58) (.const (.bool false))⟩, ⟨(some 60), none, .mov (T 59)⟩, ⟨(some 61), (some (60, true)), .call (.func 24) []⟩, ⟨(some 62), none, .pick (T 60) (T 61) (.const (.bool false))⟩, ⟨(some 6), none, .mov (T 62)⟩]) .ret) .skip)) (.seq (.seq (.ops [⟨(some 63), none, .mov (T 10)⟩, ⟨(some 64), none, .loadN 5 (T 3)⟩, ⟨(some 65), none, .mov (T 1)⟩, ⟨(some 66), none, .call (.func 34) [(T 64), (T 65)]⟩, ⟨(some 67), none, .mov (T 66)⟩, ⟨(some 68), (some (67, true)), .loadN 5 (T 3)⟩, ⟨(some 69), (some (67, true)), .mov (T 11)⟩, ⟨(some 70), (some (67, true)), .mov (T 1)⟩, ⟨(some 71), (some (67, true)), .call (.func 46) [(T 68), (T 69), (T 70)]⟩, ⟨(some 72), (some (67, true)), .field1 1 (T 71)⟩, ⟨(some 73), (some (67, true)), .mov (T 2)⟩, ⟨(some 74), (some (67, true)), .int2 .leq (T 72) (T 73)⟩, ⟨(some 75), none, .pick (T 67) (T 74) (.const (.bool false))⟩, ⟨(some 76), none, .bin .neq (.binOp .neq 4 (T 63) (T 75) 4) 4 (T 63) (T 75)⟩]) (.cond (T 76) (.seq (.ops [⟨(some 6), none, .mov (.const (.bool false))⟩]) .ret) .skip)) (.seq (.ops [⟨(some 78), none, .loadN 5 (T 3)⟩, ⟨(some 79), none, .mov (T 11)⟩, ⟨(some 80), none, .call (.func 49) [(T 78), (T 79)]⟩, ⟨(some 77), none, .mov (T 80)⟩, ⟨(some 81), none, .extract 0 (T 77)⟩, ⟨(some 82), none, .extract 1 (T 77)⟩, ⟨(some 13), none, .mov (T 81)⟩, ⟨(some 14), none, .mov (T 82)⟩]) (.seq (.ops [⟨(some 83), none, .mov (T 9)⟩, ⟨(some 84), none, .int2 .eql (T 83) (.const (.int .i64 (0)))⟩, ⟨(some 85), none, .mov (T 84)⟩, ⟨(some 86), (some (85, true)), .mov (T 7)⟩, ⟨(some 87), (some (85, true)), .mov (T 13)⟩, ⟨(some 88), (some (85, true)), .call (.func 50) [(T 86), (T 87)]⟩, ⟨(some 89), none, .pick (T 85) (T 88) (.const (.bool false))⟩, ⟨(some 90), none, .mov (T 89)⟩, ⟨(some 91), (some (90, true)), .mov (T 8)⟩, ⟨(some 92), (some (90, true)), .mov (T 14)⟩, ⟨(some 93), (some (90, true)), .int2 .eql (T 91) (T 92)⟩, ⟨(some 94), none, .pick (T 90) (T 93) (.const (.bool false))⟩, ⟨(some 95), none, .mov (T 94)⟩, ⟨(some 96), (some (95, true)), .call (.func 24) []⟩, ⟨(some 97), none, .pick (T 95) (T 96) (.const (.bool false))⟩, ⟨(some 6), none, .mov (T 97)⟩]) .ret)))))))))
theorem fok6 : FnOk Try.prog 6 98 s6 [.tmp 6] := ⟨Try.f6, _, Try.func6, rfl, Try.ntmps6, by kernel_rfl, by kernel_rfl⟩
set_option maxHeartbeats 2000000 in
theorem bestL_c (hn : 1500 ≤ n) (hr : h.next + 400000 < far) (hfl : h.floor ≤ h.next) {vv sv : Value} {S : MB} (hy : BeatR h vv sv S) {lv : Value} {m : Nat} {e : Nat → Int} (hl : Ints h lv m e) (w : Int) :
    ∃ v h', call n (.func (.func 6) #[] #[]) [.agg ⟨beL S vv sv⟩, lv, .int .i64 w] h = some (v, h') ∧ v = .bool true := by
  obtain ⟨n, rfl⟩ : ∃ p, n = p + 1 := ⟨n - 1, by omega⟩
  refine call_any0 fok6 rfl rfl (by simp) ?_
  simp only [s6, W_seq, W_ops]
  refine ops_box (cs := beL S vv sv) (by omega) rfl hy.one fun g1 hx1 => ?_
  have n1 := hx1.next
  have f1 := hx1.floor
  have hy1 := hy.mono hx1.sub
  have hl1 := hl.mono hx1.sub
  have r1 := hx1.row
  have et := thin_c (n := n) (h := g1) (by omega) (by omega) hy1
  have haw := awake_c (n := n) (h := g1) (by omega)
  by_cases hT : ThinS S
  case neg => simp only [rn0, rn1, rn2, reduceIte, Nat.reduceEqDiff, Nat.reduceAdd, Nat.reduceMul, Nat.reduceSub, Nat.reduceLeDiff, Nat.reduceLT, r1.whole (n := 5) rfl, et, hT, g_un, haw]
  by_cases c1 : 30 < m
  · have c1' : (30 : Int) < (m : Int) := by omega
    simp only [rn0, rn1, rn2, reduceIte, Nat.reduceEqDiff, Nat.reduceAdd, Nat.reduceMul, Nat.reduceSub, Nat.reduceLeDiff, Nat.reduceLT, r1.whole (n := 5) rfl, et, hT, Cells.len hl1, c1', g_un, gt_iff_lt, haw]
  have c1' : ¬ (30 : Int) < (m : Int) := by omega
  obtain ⟨va, sa, g2, e2, hy2, old2, u2, m2, f2⟩ := beatL_c (n := n) (h := g1) (by omega) (by omega) (by omega) hy1 hT
  obtain ⟨x3, g3, e3, b3, o3, old3, u3, m3, f3⟩ := bestV_c (n := n) (h := g2) (by omega) (by omega) (by omega) hy2 hT
  have s13 : Sub All g1 g3 := (AHeap.subOf old2).trans (AHeap.subOf old3)
  obtain ⟨vb, sb, g4, e4, hy4, old4, u4, m4, f4⟩ := beatL_c (n := n) (h := g3) (by omega) (by omega) (by omega) (hy1.mono s13) hT
  have s14 : Sub All g1 g4 := s13.trans (AHeap.subOf old4)
  obtain ⟨l5, g5, e5, b5, o5, old5, u5, m5, f5, _⟩ := list_c (n := n) (h := g4) (by omega) (by omega) (hl1.mono s14) (by omega)
  have s15 : Sub All g1 g5 := s14.trans (AHeap.subOf old5)
  have s35 : Sub All g3 g5 := (AHeap.subOf old4).trans (AHeap.subOf old5)
  have e6 := proveBest_c (n := n) (h := g5) (by omega) (by omega) (hy4.mono (AHeap.subOf old5)) hT b5 (by omega) w
  obtain ⟨l7, g7, e7, hc7, old7, u7, m7, f7⟩ := sure_c (n := n) (h := g5) (by omega) (by omega) (by omega) (hy1.mono s15) hT
  have s17 : Sub All g1 g7 := s15.trans (AHeap.subOf old7)
  have s37 : Sub All g3 g7 := s35.trans (AHeap.subOf old7)
  have hy7 := hy1.mono s17
  have hl7 := hl1.mono s17
  have r7 := r1.mono s17
  have b37 : Ints g7 x3 (cntS S) (bestS S).1 := Cells.mono b3 s37
  have haw7 := awake_c (n := n) (h := g7) (by omega)
  have u4' : Try.prog.underlying 4 = some .bool := Try.underlying4
  simp only [rn0, rn1, rn2, reduceIte, Nat.reduceEqDiff, Nat.reduceAdd, Nat.reduceMul, Nat.reduceSub, Nat.reduceLeDiff, Nat.reduceLT, r1.whole (n := 5) rfl, et, hT, Cells.len hl1, c1', g_un, gt_iff_lt, e2, e3, ex0', ex1', ex2, (r1.mono s13).whole (n := 5) rfl, e4, e5, e6, (r1.mono s15).whole (n := 5) rfl, e7, ex0, ex1]
  by_cases he : errS S = 0
  case neg =>
    have hcn : cntS S = 0 := by unfold cntS; rw [if_neg he]
    rw [hcn] at b37
    have hne : ¬ errE S m e = 0 := fun q => he (errS_zero.2 ⟨(errE_zero.1 q).1, (errE_zero.1 q).2.2⟩)
    simp only [if_neg he]
    simp only [rn0, rn1, rn2, reduceIte, Nat.reduceEqDiff, Nat.reduceAdd, Nat.reduceMul, Nat.reduceSub, Nat.reduceLeDiff, Nat.reduceLT, he, Cells.len b37, Int.natCast_zero, g_un, hne, false_and, haw7]
  obtain ⟨hG, hTT⟩ := errS_zero.1 he
  obtain ⟨z0, z1, z3, _⟩ := hG.sizes
  have hcn : cntS S = S.nv := by unfold cntS; rw [if_pos he]
  rw [hcn] at b37
  rw [he] at hc7
  have hc7' : CoursesL g7 l7 S (refTruths S) := by unfold someS at hc7; rw [if_pos rfl] at hc7; exact hc7
  have ee := areEnds_c (n := n) (h := g7) (by omega) (by omega) hy7 hl7 (by omega)
  obtain ⟨xb, g8, e8, b8, old8, u8, m8, f8⟩ := bestRef_c (n := n) (h := g7) (by omega) (by omega) (by omega) hy7 hG hTT hc7'
  have s78 : Sub All g7 g8 := AHeap.subOf old8
  have es := sameB_c (n := n) (h := g8) (by omega) (by omega) (Cells.mono b37 s78) b8
  have hs : (S.nv = S.nv ∧ ∀ k, k < S.nv → (bestS S).1 k = (bestS S).1 k) := ⟨rfl, fun _ _ => rfl⟩
  rw [decide_eq_true hs] at es
  have haw8 := awake_c (n := n) (h := g8) (by omega)
  simp only [if_pos he]
  by_cases hh : Hours S m e
  · have eL := lossesW_c (n := n) (h := g7) (by omega) (by omega) hy7 hG hTT hc7' hl7 hh
    have hz : errE S m e = 0 := errE_zero.2 ⟨hG, hh, hTT⟩
    have hd : decide (errE S m e = 0 ∧ wHi S e S.nv ≤ w) = decide (wHi S e S.nv ≤ w) := decide_eq_decide.2 ⟨fun q => q.2, fun q => ⟨hz, q⟩⟩
    rw [hd]
    simp only [rn0, rn1, rn2, reduceIte, Nat.reduceEqDiff, Nat.reduceAdd, Nat.reduceMul, Nat.reduceSub, Nat.reduceLeDiff, Nat.reduceLT, he, r7.whole (n := 5) rfl, ee, hh, eL, part1, x_binA, binA_neqB, p_neqB u4', valN_tmp, rBB, neq_self, e8, ex0, ex1, es, haw8]
  · have hz : ¬ errE S m e = 0 := fun q => hh (errE_zero.1 q).2.1
    have hd : decide (errE S m e = 0 ∧ wHi S e S.nv ≤ w) = false := decide_eq_false fun q => hz q.1
    rw [hd]
    simp only [rn0, rn1, rn2, reduceIte, Nat.reduceEqDiff, Nat.reduceAdd, Nat.reduceMul, Nat.reduceSub, Nat.reduceLeDiff, Nat.reduceLT, he, r7.whole (n := 5) rfl, ee, hh, g_un, x_binA, binA_neqB, p_neqB u4', valN_tmp, rBB, neq_self, e8, ex0, ex1, es, haw8]
end Go.Vm.Bt
