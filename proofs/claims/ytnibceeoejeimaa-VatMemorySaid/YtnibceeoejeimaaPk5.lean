/- Texts of the proofs of this seat, put together: VatV6, VatV7, VatIter, VatOpen, VatProve, VatPlays, VatLoad, VmATab, VmAMain, VmA0, VmA1, VmA2, VatBase, VatNth, VatTruths, VatMin. -/
import Derived.Test.YtnibceeoejeimaaPk4
import Derived.Test.YtnibceeoejeimaaProg
import Derived.Test.YtnibceeoejeimaaRows
import Derived.WalkKit
import Derived.ProofKit
import Derived.OpenShut

namespace Go.Vm.Vat
open Go.Proofs
set_option linter.unusedSimpArgs false
set_option linter.unusedVariables false
set_option maxRecDepth 10000
variable {n : Nat} {h : AHeap}
/-- the first of the blues, 0 behind them -/
def upto (k : Nat) (b : Nat → Int) (i : Nat) : Int := if i < k then b i else 0
theorem splice_arr {k : Nat} {b : Nat → Int} (hk : k < 5) : splice (arr (upto k b)) k [.int .i64 (b k)] = arr (upto (k + 1) b) := by
  obtain rfl | rfl | rfl | rfl | rfl : k = 0 ∨ k = 1 ∨ k = 2 ∨ k = 3 ∨ k = 4 := by omega
  all_goals simp [splice, arr, upto, List.range_succ]
theorem x_buildArr {P : Program} {cf : CallF} {N : Nat} {f : Fr} {s : Nat} {zc : List Value} {is : List Nat} {vs : List Operand} : sem P cf N f h (.buildArr s zc is vs) = buildA (fun i => some (i * s, s)) ⟨zc⟩ is h (vals f vs) := id rfl
theorem build_zero {zc : List Value} {pl : Nat → Option (Nat × Nat)} : buildA pl ⟨zc⟩ [] h [] = some (.agg ⟨zc⟩, h) := id rfl
theorem res_two {a n t : Nat} {f : Fr} : resV f h [.cellN a n, .tmp t] = match loadAgg n h (f a) with
  | some v => some (.tuple ⟨[v, f t]⟩)
  | none => none := by
  simp only [resV, resL, res1]
  cases loadAgg n h (f a) <;> rfl
theorem splice_all {cs vs : List Value} (hl : cs.length = vs.length) : splice cs 0 vs = vs := by simp [splice, hl]
def s76 : SCode := (.seq (.ops [⟨(some 2), none, .box (T 0)⟩, ⟨(some 4), none, .alloc [(.int .i64 (0)), (.int .i64 (0)), (.int .i64 (0)), (.int .i64 (0)), (.int .i64 (0))]⟩, ⟨(some 5), none, .mov (.const (.bool false))⟩]) (.seq (.seq (.ops [⟨(some 8), none, .mov (T 1)⟩, ⟨(some 9), none, .len (T 8)⟩, ⟨(some 10), none, .fieldAddr 0 (T 2)⟩, ⟨(some 11), none, .fieldAddr 0 (T 10)⟩, ⟨(some 12), none, .load1 (T 11)⟩, ⟨(some 13), none, .len (T 12)⟩, ⟨(some 14), none, .int2 .neq (T 9) (T 13)⟩]) (.cond (T 14) (.seq (.ops [⟨(some 15), none, .buildArr 1 [(.int .i64 (0)), (.int .i64 (0)), (.int .i64 (0)), (.int .i64 (0)), (.int .i64 (0))] [] []⟩, ⟨none, none, .store 5 (T 4) (T 15)⟩, ⟨(some 5), none, .mov (.const (.bool false))⟩]) .ret) .skip)) (.seq (.seq (.ops [⟨(some 16), none, .fieldAddr 0 (T 2)⟩, ⟨(some 17), none, .fieldAddr 0 (T 16)⟩, ⟨(some 18), none, .load1 (T 17)⟩, ⟨(some 19), none, .len (T 18)⟩, ⟨(some 20), none, .mov (.const (.int .i64 (0)))⟩]) (.block 0 (.loop (.seq (.ops [⟨(some 21), none, .int2 .lss (T 20) (T 19)⟩]) (.seq (.cond (T 21) .skip (.exit 0)) (.seq (.block 1 (.seq (.ops [⟨(some 22), none, .mov (T 20)⟩, ⟨(some 23), none, .idxSl 2 (T 18) (T 20)⟩, ⟨(some 24), none, .loadN 2 (T 23)⟩, ⟨(some 7), none, .alloc [(.int .i64 (0)), (.int .i64 (0))]⟩, ⟨(some 6), none, .mov (T 22)⟩, ⟨none, none, .store 2 (T 7) (T 24)⟩]) (.seq (.seq (.draw [⟨.rd1, ⟨(some 25), none, .loadN 2 (T 7)⟩⟩, ⟨.free, ⟨(some 26), none, .mov (T 1)⟩⟩, ⟨.free, ⟨(some 27), none, .mov (T 6)⟩⟩, ⟨.free, ⟨(some 28), none, .idxSl 1 (T 26) (T 27)⟩⟩, ⟨.rd1, ⟨(some 29), none, .load1 (T 28)⟩⟩, ⟨.any, ⟨(some 30), none, .call (.func 113) [(T 25), (T 29)]⟩⟩, ⟨.free, ⟨(some 31), none, .not (T 30)⟩⟩]) (.cond (T 31) (.seq (.ops [⟨(some 32), none, .buildArr 1 [(.int .i64 (0)), (.int .i64 (0)), (.int .i64 (0)), (.int .i64 (0)), (.int .i64 (0))] [] []⟩, ⟨none, none, .store 5 (T 4) (T 32)⟩, ⟨(some 5), none, .mov (.const (.bool false))⟩]) .ret) .skip)) (.ops [⟨(some 33), none, .mov (T 6)⟩, ⟨(some 34), none, .mov (T 1)⟩, ⟨(some 35), none, .mov (T 6)⟩, ⟨(some 36), none, .idxSl 1 (T 34) (T 35)⟩, ⟨(some 37), none, .load1 (T 36)⟩, ⟨(some 38), none, .idxArr 5 1 (T 4) (T 33)⟩, ⟨none, none, .store 1 (T 38) (T 37)⟩])))) (.ops [⟨(some 39), none, .int2 .add (T 20) (.const (.int .i64 (1)))⟩, ⟨(some 20), none, .mov (T 39)⟩]))))))) (.seq (.ops [⟨(some 40), none, .loadN 5 (T 4)⟩, ⟨none, none, .store 5 (T 4) (T 40)⟩, ⟨(some 5), none, .mov (.const (.bool true))⟩]) .ret))))
theorem fok76 : FnOk Try.prog 76 41 s76 [.cellN 4 5, .tmp 5] := ⟨Try.f76, _, Try.func76, rfl, Try.ntmps76, by kernel_rfl, by kernel_rfl⟩
theorem toBlues_c (hn : 10002 ≤ n) (hr : h.next + 20 < far) {F V S T vb : Value} {nf nb : Nat} {lo hi b : Nat → Int} (hF : Ranges h F nf lo hi) (h1 : allB oneCell [F, V, S, T] = true) (hb : Ints h vb nb b) (hl : nb ≤ 30) (hm : nf ≤ 5) :
    (¬ (nb = nf ∧ ∀ k, k < nf → lo k ≤ b k ∧ b k ≤ hi k) → call n (.func (.func 76) #[] #[]) [.agg ⟨[F, V, S, T]⟩, vb] h = some (.tuple ⟨[.agg ⟨arr (upto 0 b)⟩, .bool false]⟩, h)) ∧
    (nb = nf ∧ (∀ k, k < nf → lo k ≤ b k ∧ b k ≤ hi k) → call n (.func (.func 76) #[] #[]) [.agg ⟨[F, V, S, T]⟩, vb] h = some (.tuple ⟨[.agg ⟨arr (upto nf b)⟩, .bool true]⟩, h)) := by
  suffices hs : ∀ (R : Value), (¬ (nb = nf ∧ ∀ k, k < nf → lo k ≤ b k ∧ b k ≤ hi k) → R = .tuple ⟨[.agg ⟨arr (upto 0 b)⟩, .bool false]⟩) → (nb = nf ∧ (∀ k, k < nf → lo k ≤ b k ∧ b k ≤ hi k) → R = .tuple ⟨[.agg ⟨arr (upto nf b)⟩, .bool true]⟩) → plainV R = true → call n (.func (.func 76) #[] #[]) [.agg ⟨[F, V, S, T]⟩, vb] h = some (R, h) by
    constructor
    · intro hb
      exact hs _ (fun _ => rfl) (fun h => absurd h hb) rfl
    · intro hb
      exact hs _ (fun h => absurd hb h) (fun _ => rfl) rfl
  intro R hR0 hR1 hpl
  obtain ⟨n, rfl⟩ : ∃ p, n = p + 1 := ⟨n - 1, by omega⟩
  refine call_plain0 fok76 rfl rfl (by simp) hpl ?_
  have hF := Cells.shut hF
  have hb := Cells.shut hb
  have hr : h.shutAll.next + 20 < far := hr
  have hfl : h.shutAll.floor ≤ h.shutAll.next := Nat.le_refl _
  generalize h.shutAll = h at hF hb hr hfl
  simp only [s76, W_seq, W_ops]
  refine ops_box (cs := [F, V, S, T]) (by omega) rfl h1 fun g1 hx1 => ?_
  have n1 := hx1.next
  have f1 := hx1.floor
  refine ops_alloc (by omega) rfl fun g2 hx2 => ?_
  have n2 := hx2.next
  have f2 := hx2.floor
  have hbx := hx1.row.mono hx2.sub
  have hall : ∀ {g : AHeap}, Keep g1.next g2 g → Sub All h g := fun st i cs w gr _ hg => st.sub i cs w gr (by have := AHeap.lt_of_get hg; omega) (hx2.sub _ _ _ _ trivial (hx1.sub _ _ _ _ trivial hg))
  have hF2 := Cells.mono hF (hall Keep.refl)
  have hb2 := Cells.mono hb (hall Keep.refl)
  have hg2 := hx2.get
  by_cases hab : nb = nf
  · subst hab
    simp only [rn0, rn1, rn2, rn3, rn4, rn5, rn6, rn7, rn8, if_true, if_false, Nat.le_refl, true_and, and_true, decide_true, decide_false, Bool.not_true, Bool.not_false, reduceIte, Nat.reduceEqDiff, Nat.reduceAdd, Nat.reduceMul, Nat.reduceSub, Nat.reduceLeDiff, Nat.reduceLT, hbx.ld, Nat.zero_add, List.getElem?_cons_zero, List.getElem?_cons_succ, Cells.len hF2, Cells.len hb2]
    refine W_loop nb (fun k f g m => (Keep g1.next g2 g ∧ g.get g1.next = some (.row (arr (upto k b)) true 0) ∧ g.next = g2.next + k) ∧ m = [] ∧ f 1 = vb ∧ f 4 = .pointer (some ⟨g1.next, 0, none⟩) ∧ f 18 = F ∧ f 19 = .int .i64 (nb : Int) ∧ f 20 = .int .i64 (k : Int) ∧ ∀ j, j < k → lo j ≤ b j ∧ b j ≤ hi j) (by simp; omega) ?_ ?_ ?_
    · simp only [rn0, rn1, rn2, rn3, rn4, rn5, rn6, rn7, rn8, if_true, if_false, Nat.le_refl, true_and, and_true, decide_true, decide_false, Bool.not_true, Bool.not_false, reduceIte, Nat.reduceEqDiff, Nat.reduceAdd, Nat.reduceMul, Nat.reduceSub, Nat.reduceLeDiff, Nat.reduceLT, Nat.not_lt_zero, false_implies, implies_true, Nat.add_zero]
      exact ⟨⟨Keep.refl, hg2⟩, rfl⟩
    · rintro k f g m hk ⟨⟨st, go, gn⟩, rfl, f1', f4, f18, f19, f20, hlt⟩
      have hk' : (k : Int) < (nb : Int) := by omega
      have hw : wrapF .i64 ((k : Int) + 1) = ((k + 1 : Nat) : Int) := by rw [wrap_in (by omega) (by omega)]; rfl
      have hfg := st.floor
      have hFg := Cells.mono hF (hall st)
      have hbg := Cells.mono hb (hall st)
      simp only [rn0, rn1, rn2, rn3, rn4, rn5, rn6, rn7, rn8, if_true, if_false, Nat.le_refl, true_and, and_true, decide_true, decide_false, Bool.not_true, Bool.not_false, reduceIte, Nat.reduceEqDiff, Nat.reduceAdd, Nat.reduceMul, Nat.reduceSub, Nat.reduceLeDiff, Nat.reduceLT, f1', f4, f18, f19, f20, hk', Cells.idx hFg hk, ranges_ld hFg hk]
      refine step_row (by omega) rfl rfl fun g' hg' => ?_
      simp only [rn0, rn1, rn2, rn3, rn4, rn5, rn6, rn7, rn8, if_true, if_false, Nat.le_refl, true_and, and_true, decide_true, decide_false, Bool.not_true, Bool.not_false, reduceIte, Nat.reduceEqDiff, Nat.reduceAdd, Nat.reduceMul, Nat.reduceSub, Nat.reduceLeDiff, Nat.reduceLT]
      refine step_store (vs := [.int .i64 (lo k), .int .i64 (hi k)]) rfl hg'.get (by have := hg'.floor; omega) (by have := hg'.next; omega) rfl rfl rfl (by simp) fun g3 hs => ?_
      have n3 : g3.next = g.next + 1 := by rw [hs.next, hg'.next]
      have k3 : Sub All g g3 := fun i cs w gr t hg => by rw [hs.old i (by have := AHeap.lt_of_get hg; omega)]; exact hg'.sub _ _ _ _ t hg
      have st3 : Keep g1.next g2 g3 := ⟨fun i cs w gr hi hg => k3 _ _ _ _ trivial (st.sub _ _ _ _ hi hg), by have := st.up; omega, by rw [hs.floor, hg'.floor, hfg]⟩
      have go3 := k3 _ _ _ _ trivial go
      have hbg := Cells.mono hbg k3
      have w3 := hs.row.ldN 0 2 (by simp [splice]) (by simp [splice])
      have w3' : loadAgg 2 g3 (.pointer (some ⟨g.next, 0, none⟩)) = some (.agg ⟨[.int .i64 (lo k), .int .i64 (hi k)]⟩) := by rw [w3]; simp [splice]
      simp only [rn0, rn1, rn2, rn3, rn4, rn5, rn6, rn7, rn8, if_true, if_false, Nat.le_refl, true_and, and_true, decide_true, decide_false, Bool.not_true, Bool.not_false, reduceIte, Nat.reduceEqDiff, Nat.reduceAdd, Nat.reduceMul, Nat.reduceSub, Nat.reduceLeDiff, Nat.reduceLT, f1', f4, f18, f19, f20]
      refine W_draw All ?_
      by_cases hkk : lo k ≤ b k ∧ b k ≤ hi k
      · simp only [rn0, rn1, rn2, rn3, rn4, rn5, rn6, rn7, rn8, if_true, if_false, Nat.le_refl, true_and, and_true, decide_true, decide_false, Bool.not_true, Bool.not_false, reduceIte, Nat.reduceEqDiff, Nat.reduceAdd, Nat.reduceMul, Nat.reduceSub, Nat.reduceLeDiff, Nat.reduceLT, f1', f4, f18, f19, f20, w3', Cells.idx hbg hk, Cells.ld hbg hk Nat.zero_lt_one, has_c (n := n) (h := g3) (by omega) (by omega), hkk, idxArr_p (l := 5) (k := k) (by omega), Nat.zero_add]
        refine step_store (vs := [.int .i64 (b k)]) rfl go3 (by have := st3.floor; omega) (by omega) rfl rfl rfl (by rw [arr_len]; omega) fun g4 hs4 => ?_
        simp only [rn0, rn1, rn2, rn3, rn4, rn5, rn6, rn7, rn8, if_true, if_false, Nat.le_refl, true_and, and_true, decide_true, decide_false, Bool.not_true, Bool.not_false, reduceIte, Nat.reduceEqDiff, Nat.reduceAdd, Nat.reduceMul, Nat.reduceSub, Nat.reduceLeDiff, Nat.reduceLT, f1', f4, f18, f19, f20, hw]
        refine ⟨⟨set_keep st3 hs4, ?_, by have := hs4.next; omega⟩, ?_⟩
        · have := hs4.get
          rw [splice_arr (by omega)] at this
          exact this
        · intro j hj
          by_cases e : j = k
          · subst e; exact hkk
          · exact hlt j (by omega)
      · have hR := hR0 fun h => hkk (h.2 k hk)
        simp only [rn0, rn1, rn2, rn3, rn4, rn5, rn6, rn7, rn8, if_true, if_false, Nat.le_refl, true_and, and_true, decide_true, decide_false, Bool.not_true, Bool.not_false, reduceIte, Nat.reduceEqDiff, Nat.reduceAdd, Nat.reduceMul, Nat.reduceSub, Nat.reduceLeDiff, Nat.reduceLT, f1', f4, f18, f19, f20, w3', Cells.idx hbg hk, Cells.ld hbg hk Nat.zero_lt_one, has_c (n := n) (h := g3) (by omega) (by omega), hkk, x_buildArr, build_zero]
        refine step_store (vs := arr (upto 0 b)) rfl go3 (by have := st3.floor; omega) (by omega) rfl arr_one arr_len (by rw [arr_len]; omega) fun g4 hs4 => ?_
        rw [splice_all (by rw [arr_len, arr_len])] at hs4
        simp only [rn0, rn1, rn2, rn3, rn4, rn5, rn6, rn7, rn8, if_true, if_false, Nat.le_refl, true_and, and_true, decide_true, decide_false, Bool.not_true, Bool.not_false, reduceIte, Nat.reduceEqDiff, Nat.reduceAdd, Nat.reduceMul, Nat.reduceSub, Nat.reduceLeDiff, Nat.reduceLT, f1', f4, f18, f19, f20, res_two, hs4.row.whole arr_len, hR]
    · rintro f g m ⟨⟨st, go, gn⟩, rfl, f1', f4, f18, f19, f20, hlt⟩
      have hR := hR1 ⟨rfl, hlt⟩
      have hgr : Row g g1.next (arr (upto nb b)) := ⟨_, _, go⟩
      have hw := hgr.whole arr_len
      simp only [rn0, rn1, rn2, rn3, rn4, rn5, rn6, rn7, rn8, if_true, if_false, Nat.le_refl, true_and, and_true, decide_true, decide_false, Bool.not_true, Bool.not_false, reduceIte, Nat.reduceEqDiff, Nat.reduceAdd, Nat.reduceMul, Nat.reduceSub, Nat.reduceLeDiff, Nat.reduceLT, f1', f4, f18, f19, f20, Int.lt_irrefl, hw]
      refine step_store (vs := arr (upto nb b)) rfl go (by have := st.floor; omega) (by omega) rfl arr_one arr_len (by rw [arr_len]; omega) fun g4 hs4 => ?_
      rw [splice_all rfl] at hs4
      simp only [rn0, rn1, rn2, rn3, rn4, rn5, rn6, rn7, rn8, if_true, if_false, Nat.le_refl, true_and, and_true, decide_true, decide_false, Bool.not_true, Bool.not_false, reduceIte, Nat.reduceEqDiff, Nat.reduceAdd, Nat.reduceMul, Nat.reduceSub, Nat.reduceLeDiff, Nat.reduceLT, f1', f4, f18, f19, f20, res_two, hs4.row.whole arr_len, hR]
  · have h1 : ¬ (nb : Int) = nf := by omega
    have hR := hR0 fun h => hab h.1
    simp only [rn0, rn1, rn2, rn3, rn4, rn5, rn6, rn7, rn8, if_true, if_false, Nat.le_refl, true_and, and_true, decide_true, decide_false, Bool.not_true, Bool.not_false, reduceIte, Nat.reduceEqDiff, Nat.reduceAdd, Nat.reduceMul, Nat.reduceSub, Nat.reduceLeDiff, Nat.reduceLT, hbx.ld, Nat.zero_add, List.getElem?_cons_zero, List.getElem?_cons_succ, Cells.len hF2, Cells.len hb2, h1, x_buildArr, build_zero]
    refine step_store (vs := arr (upto 0 b)) rfl hg2 (by omega) (by omega) rfl arr_one arr_len (by simp) fun g4 hs4 => ?_
    rw [splice_all (by rw [arr_len]; rfl)] at hs4
    simp only [rn0, rn1, rn2, rn3, rn4, rn5, rn6, rn7, rn8, if_true, if_false, Nat.le_refl, true_and, and_true, decide_true, decide_false, Bool.not_true, Bool.not_false, reduceIte, Nat.reduceEqDiff, Nat.reduceAdd, Nat.reduceMul, Nat.reduceSub, Nat.reduceLeDiff, Nat.reduceLT, res_two, hs4.row.whole arr_len, hR]
end Go.Vm.Vat

namespace Go.Vm.Vat
open Go.Proofs
set_option linter.unusedSimpArgs false
set_option linter.unusedVariables false
set_option maxRecDepth 10000
variable {n : Nat} {h : AHeap}
theorem blueN_congr {b c q : Nat → Int} : ∀ i, (∀ k, k < i → b k = c k) → blueN b q i = blueN c q i
  | 0, _ => rfl
  | i + 1, hc => by simp only [blueN]; rw [blueN_congr i fun k hk => hc k (by omega), hc i (by omega)]
theorem blueN_upto {b q : Nat → Int} {nf : Nat} : blueN (upto nf b) q nf = blueN b q nf := blueN_congr nf fun k hk => by simp [upto, hk]
/-- a list of n numbers of which the first k are there -/
def mix (n k : Nat) (a : Nat → Int) : List Value := (List.range n).map fun i => .int .i64 (if i < k then a i else 0)
theorem mix_len {n k : Nat} {a : Nat → Int} : (mix n k a).length = n := by simp [mix]
theorem mix_get {n k i : Nat} {a : Nat → Int} (hi : i < n) : (mix n k a)[i]? = some (.int .i64 (if i < k then a i else 0)) := by
  rw [mix, List.getElem?_map, List.getElem?_range hi]; rfl
theorem mix_one {n k : Nat} {a : Nat → Int} : allB oneCell (mix n k a) = true := by rw [allB_iff]; intro v hv; obtain ⟨i, _, rfl⟩ := List.mem_map.1 hv; rfl
theorem mix_splice {n k : Nat} {a : Nat → Int} (hk : k < n) : splice (mix n k a) k [.int .i64 (a k)] = mix n (k + 1) a := by
  apply List.ext_getElem?
  intro i
  by_cases hi : i < n
  · rw [mix_get hi]
    simp only [splice]
    by_cases h1 : i < k
    · rw [List.getElem?_append_left (by simp [mix_len]; omega), List.getElem?_take, if_pos h1, mix_get hi, if_pos h1, if_pos (by omega)]
    · rw [List.getElem?_append_right (by simp [mix_len]; omega)]
      have e : (List.take k (mix n k a)).length = k := by simp [mix_len]; omega
      rw [e]
      by_cases h2 : i = k
      · subst h2
        simp
      · rw [List.getElem?_append_right (by simp; omega), List.getElem?_drop]
        simp only [List.length_cons, List.length_nil]
        rw [show k + (0 + 1) + (i - k - (0 + 1)) = i by omega, mix_get hi, if_neg h1, if_neg (by omega)]
  · rw [List.getElem?_eq_none (by simp [splice, mix_len]; omega), List.getElem?_eq_none (by rw [mix_len]; omega)]
theorem repl_mix {n : Nat} {a : Nat → Int} : repl [.int .i64 0] n = mix n 0 a := by
  have : ∀ n, repl [(.int .i64 0 : Value)] n = List.replicate n (.int .i64 0) := by
    intro n
    induction n with
    | zero => rfl
    | succ n ih => simp [repl, ih, List.replicate_succ]
  rw [this, mix]
  apply List.ext_getElem?
  intro i
  by_cases hi : i < n
  · rw [List.getElem?_replicate, if_pos hi, List.getElem?_map, List.getElem?_range hi]; simp
  · rw [List.getElem?_eq_none (by simp; omega), List.getElem?_eq_none (by simp; omega)]
theorem make_ints {s : Nat} {z : List Value} {m : Nat} (hm : m ≤ 1000) : makeSl s 8 z h (.int .i64 (m : Int)) (.int .i64 (m : Int)) = newSlice h (repl z m) m m 0 := by
  show (bif Nat.ble m m && Nat.ble (m * 8) maxBytes && Nat.ble m maxBytes then newSlice h (repl z m) m m 0 else none) = _
  have e1 : Nat.ble m m = true := ble_iff.2 (Nat.le_refl _)
  have e2 : Nat.ble (m * 8) maxBytes = true := ble_iff.2 (by simp [maxBytes]; omega)
  have e3 : Nat.ble m maxBytes = true := ble_iff.2 (by simp [maxBytes]; omega)
  rw [e1, e2, e3]; rfl
theorem idxSl_p {k m c o : Nat} (hk : k < m) : indexSl 1 (.slice (some ⟨o, 0, none⟩) m c) (.int .i64 (k : Int)) = some (.pointer (some ⟨o, k, none⟩)) := by
  show placeAt ⟨o, 0, none⟩ (Int.ofNat k) m 1 = _
  unfold placeAt
  simp only [blt_iff.2 hk, cond_true, Nat.mul_one, Nat.zero_add]
theorem ex0 {x y : Value} : extractA 0 (.tuple ⟨[x, y]⟩) h = some (x, h) := id rfl
theorem ex1 {x y : Value} : extractA 1 (.tuple ⟨[x, y]⟩) h = some (y, h) := id rfl
theorem ret_tt {a b : Nat} {f : Fr} : resV f h [.tmp a, .tmp b] = some (.tuple ⟨[f a, f b]⟩) := id rfl
theorem good_of {Y : MY} (hf : faultN Y = 0) : Good Y := by
  unfold faultN at hf
  by_cases h1 : SizesOk Y
  · rw [if_neg (by simpa using h1)] at hf
    by_cases h2 : FieldsOk Y ∧ VatsOk Y ∧ SampsOk Y
    · exact ⟨h1, h2.1, h2.2.1, h2.2.2⟩
    · rw [if_neg h2] at hf; cases hf
  · rw [if_pos h1] at hf; cases hf
def s25 : SCode := (.seq (.ops [⟨(some 2), none, .box (T 0)⟩, ⟨(some 4), none, .mov (.const (.slice none 0 0))⟩, ⟨(some 5), none, .mov (.const (.int .i64 (0)))⟩]) (.seq (.seq (.ops [⟨(some 12), none, .loadN 3 (T 2)⟩, ⟨(some 13), none, .call (.func 30) [(T 12)]⟩, ⟨(some 6), none, .mov (T 13)⟩]) (.seq (.ops [⟨(some 14), none, .mov (T 6)⟩, ⟨(some 15), none, .int2 .neq (T 14) (.const (.int .i64 (0)))⟩]) (.cond (T 15) (.seq (.ops [⟨(some 16), none, .mov (T 6)⟩, ⟨(some 4), none, .mov (.const (.slice none 0 0))⟩, ⟨(some 5), none, .mov (T 16)⟩]) .ret) .skip))) (.seq (.ops [⟨(some 17), none, .loadN 3 (T 2)⟩, ⟨(some 18), none, .build #[(0, 3), (3, 1)] [(.slice none 0 0), (.slice none 0 0), (.slice none 0 0), (.slice none 0 0)] [0] [(T 17)]⟩, ⟨(some 7), none, .alloc [(.slice none 0 0), (.slice none 0 0), (.slice none 0 0), (.slice none 0 0)]⟩, ⟨none, none, .store 4 (T 7) (T 18)⟩]) (.seq (.ops [⟨(some 20), none, .loadN 4 (T 7)⟩, ⟨(some 21), none, .mov (T 1)⟩, ⟨(some 22), none, .call (.func 76) [(T 20), (T 21)]⟩, ⟨(some 19), none, .mov (T 22)⟩, ⟨(some 23), none, .extract 0 (T 19)⟩, ⟨(some 24), none, .extract 1 (T 19)⟩, ⟨(some 8), none, .alloc [(.int .i64 (0)), (.int .i64 (0)), (.int .i64 (0)), (.int .i64 (0)), (.int .i64 (0))]⟩, ⟨none, none, .store 5 (T 8) (T 23)⟩, ⟨(some 9), none, .mov (T 24)⟩]) (.seq (.seq (.ops [⟨(some 25), none, .mov (T 9)⟩, ⟨(some 26), none, .not (T 25)⟩]) (.cond (T 26) (.seq (.ops [⟨(some 4), none, .mov (.const (.slice none 0 0))⟩, ⟨(some 5), none, .mov (.const (.int .i64 (2)))⟩]) .ret) .skip)) (.seq (.ops [⟨(some 27), none, .fieldAddr 0 (T 7)⟩, ⟨(some 28), none, .fieldAddr 1 (T 27)⟩, ⟨(some 29), none, .load1 (T 28)⟩, ⟨(some 30), none, .len (T 29)⟩, ⟨(some 31), none, .mkslice 1 8 [(.int .i64 (0))] (T 30) (T 30)⟩, ⟨(some 10), none, .mov (T 31)⟩]) (.seq (.seq (.ops [⟨(some 32), none, .fieldAddr 0 (T 7)⟩, ⟨(some 33), none, .fieldAddr 1 (T 32)⟩, ⟨(some 34), none, .load1 (T 33)⟩, ⟨(some 35), none, .len (T 34)⟩, ⟨(some 36), none, .mov (.const (.int .i64 (0)))⟩]) (.block 0 (.loop (.seq (.ops [⟨(some 37), none, .int2 .lss (T 36) (T 35)⟩]) (.seq (.cond (T 37) .skip (.exit 0)) (.seq (.block 1 (.seq (.ops [⟨(some 38), none, .mov (T 36)⟩, ⟨(some 11), none, .mov (T 38)⟩]) (.ops [⟨(some 39), none, .mov (T 10)⟩, ⟨(some 40), none, .mov (T 11)⟩, ⟨(some 41), none, .loadN 4 (T 7)⟩, ⟨(some 42), none, .loadN 5 (T 8)⟩, ⟨(some 43), none, .mov (T 11)⟩, ⟨(some 44), none, .call (.func 77) [(T 41), (T 42), (T 43)]⟩, ⟨(some 45), none, .idxSl 1 (T 39) (T 40)⟩, ⟨none, none, .store 1 (T 45) (T 44)⟩]))) (.ops [⟨(some 46), none, .int2 .add (T 36) (.const (.int .i64 (1)))⟩, ⟨(some 36), none, .mov (T 46)⟩]))))))) (.seq (.ops [⟨(some 47), none, .mov (T 10)⟩, ⟨(some 4), none, .mov (T 47)⟩, ⟨(some 5), none, .mov (.const (.int .i64 (0)))⟩]) .ret))))))))
theorem fok25 : FnOk Try.prog 25 48 s25 [.tmp 4, .tmp 5] := ⟨Try.f25, _, Try.func25, rfl, Try.ntmps25, by kernel_rfl, by kernel_rfl⟩
end Go.Vm.Vat

namespace Go.Vm.Vat
open Go.Proofs
set_option linter.unusedSimpArgs false
set_option linter.unusedVariables false
set_option maxRecDepth 10000
variable {n : Nat} {h : AHeap}
/-! ### The iterator over all blues: each way to fill the fields that are left, in order, is handed to 'yield' -/
/-- all ways to fill d fields from i on, in order -/
def enumB (lo hi : Nat → Int) : Nat → Nat → (Nat → Int) → List (Nat → Int)
  | 0, _, c => [c]
  | d + 1, i, c => (List.range (hi i - lo i + 1).toNat).flatMap fun (k : Nat) => enumB lo hi d (i + 1) fun j => if j = i then lo i + (k : Int) else c j
theorem enumB_congr {lo hi : Nat → Int} : ∀ (d i : Nat) (c c' : Nat → Int), (∀ j, j < i ∨ i + d ≤ j → c j = c' j) → enumB lo hi d i c = enumB lo hi d i c'
  | 0, i, c, c', hc => by
    have : c = c' := funext fun j => hc j (by omega)
    rw [this]
  | d + 1, i, c, c', hc => by
    simp only [enumB]
    congr 1
    funext k
    refine enumB_congr d (i + 1) _ _ fun j hj => ?_
    by_cases e : j = i
    · simp [e]
    · simp only [e, if_false]
      exact hc j (by omega)
/-- the first i are in their ranges; there are no more than nf -/
def OkB (nf : Nat) (lo hi : Nat → Int) (i : Nat) (c : Nat → Int) : Prop := (∀ j, j < i → lo j ≤ c j ∧ c j ≤ hi j) ∧ ∀ j, nf ≤ j → c j = 0
/-- what comes of a list that is handed over one by one, until it is refused -/
def runL {σ α : Type} (step : σ → α → σ × Bool) : σ → List α → σ × Bool
  | s, [] => (s, true)
  | s, x :: l => if (step s x).2 then runL step (step s x).1 l else ((step s x).1, false)
theorem runL_append {σ α : Type} {step : σ → α → σ × Bool} : ∀ (l1 l2 : List α) (s : σ), runL step s (l1 ++ l2) = if (runL step s l1).2 then runL step (runL step s l1).1 l2 else runL step s l1
  | [], l2, s => by simp [runL]
  | x :: l1, l2, s => by
    simp only [List.cons_append, runL]
    by_cases e : (step s x).2 = true
    · simp only [e, if_true]; exact runL_append l1 l2 _
    · simp [e]
theorem arr_splice {k : Nat} {c : Nat → Int} {x : Int} (hk : k < 5) : splice (arr c) k [.int .i64 x] = arr fun j => if j = k then x else c j := by
  obtain rfl | rfl | rfl | rfl | rfl : k = 0 ∨ k = 1 ∨ k = 2 ∨ k = 3 ∨ k = 4 := by omega
  all_goals simp [splice, arr, List.range_succ]
section
variable {σ : Type}
/-- the iterator's own rows -/
structure It (pw py pc : Nat) (W : List Value) (yv cv F : Value) (nf : Nat) (lo hi : Nat → Int) (g : AHeap) : Prop where
  w : Row g pw W
  y : Row g py [yv]
  c : Row g pc [cv]
  f : Ranges g F nf lo hi
theorem It.set {pw py pc pb gr : Nat} {W cs : List Value} {yv cv F : Value} {nf : Nat} {lo hi : Nat → Int} {g g' : AHeap} (hi' : It pw py pc W yv cv F nf lo hi g) (hs : Set1 g g' pb cs gr) (h1 : pw ≠ pb) (h2 : py ≠ pb) (h3 : pc ≠ pb)
    (hF : ∀ a k cap, F = .slice (some a) k cap → a.block ≠ pb ∨ nf = 0) : It pw py pc W yv cv F nf lo hi g' := by
  refine ⟨hi'.w.keep hs.keep h1, hi'.y.keep hs.keep h2, hi'.c.keep hs.keep h3, ?_⟩
  obtain ⟨a, cap, e, hsp, h0 | ⟨b, o, cs, w, gr, rfl, e1, e2⟩⟩ := hi'.f
  · exact ⟨a, cap, e, hsp, .inl h0⟩
  · rcases hF _ _ _ e with h4 | h4
    · exact ⟨_, cap, e, hsp, .inr ⟨b, o, cs, w, gr, rfl, hs.keep.sub _ _ _ _ h4 e1, e2⟩⟩
    · exact ⟨_, cap, e, hsp, .inl h4⟩
def chooseV (pw py pb pc : Nat) : Value := .func (.func 122) ⟨[]⟩ ⟨[.pointer (some ⟨pw, 0, none⟩), .pointer (some ⟨py, 0, none⟩), .pointer (some ⟨pb, 0, none⟩), .pointer (some ⟨pc, 0, none⟩)]⟩
theorem part_flat {α : Type} (f : Nat → List α) {k m : Nat} (hk : k < m) : ∃ l, (List.range m).flatMap f = (List.range k).flatMap f ++ (f k ++ l) := by
  refine ⟨((List.range (m - (k + 1))).map (k + 1 + ·)).flatMap f, ?_⟩
  have : List.range m = List.range k ++ ([k] ++ (List.range (m - (k + 1))).map (k + 1 + ·)) := by
    have h1 := List.range_add (n := k + 1) (m := m - (k + 1))
    rw [show k + 1 + (m - (k + 1)) = m by omega] at h1
    rw [h1, List.range_succ, List.append_assoc]
  rw [this, List.flatMap_append, List.flatMap_append]
  simp
def s122 : SCode := (.seq (.ops [⟨(some 6), none, .mov (.const (.bool false))⟩]) (.seq (.seq (.ops [⟨(some 8), none, .mov (T 0)⟩, ⟨(some 9), none, .fieldAddr 0 (T 1)⟩, ⟨(some 10), none, .fieldAddr 0 (T 9)⟩, ⟨(some 11), none, .load1 (T 10)⟩, ⟨(some 12), none, .len (T 11)⟩, ⟨(some 13), none, .int2 .eql (T 8) (T 12)⟩]) (.cond (T 13) (.seq (.ops [⟨(some 14), none, .load1 (T 2)⟩, ⟨(some 15), none, .loadN 5 (T 3)⟩, ⟨(some 16), none, .call (T 14) [(T 15)]⟩, ⟨(some 6), none, .mov (T 16)⟩]) .ret) .skip)) (.seq (.seq (.ops [⟨(some 17), none, .fieldAddr 0 (T 1)⟩, ⟨(some 18), none, .fieldAddr 0 (T 17)⟩, ⟨(some 19), none, .load1 (T 18)⟩, ⟨(some 20), none, .mov (T 0)⟩, ⟨(some 21), none, .idxSl 2 (T 19) (T 20)⟩, ⟨(some 22), none, .fieldAddr 0 (T 21)⟩, ⟨(some 23), none, .load1 (T 22)⟩, ⟨(some 7), none, .mov (T 23)⟩]) (.block 0 (.loop (.seq (.seq (.ops [⟨(some 24), none, .mov (T 7)⟩, ⟨(some 25), none, .fieldAddr 0 (T 1)⟩, ⟨(some 26), none, .fieldAddr 0 (T 25)⟩, ⟨(some 27), none, .load1 (T 26)⟩, ⟨(some 28), none, .mov (T 0)⟩, ⟨(some 29), none, .idxSl 2 (T 27) (T 28)⟩, ⟨(some 30), none, .fieldAddr 1 (T 29)⟩, ⟨(some 31), none, .load1 (T 30)⟩, ⟨(some 32), none, .int2 .leq (T 24) (T 31)⟩]) (.cond (T 32) .skip (.exit 0))) (.seq (.block 1 (.seq (.ops [⟨(some 35), none, .mov (T 0)⟩, ⟨(some 36), none, .mov (T 7)⟩, ⟨(some 37), none, .idxArr 5 1 (T 3) (T 35)⟩, ⟨none, none, .store 1 (T 37) (T 36)⟩]) (.seq (.ops [⟨(some 38), none, .load1 (T 4)⟩, ⟨(some 39), none, .mov (T 0)⟩, ⟨(some 40), none, .int2 .add (T 39) (.const (.int .i64 (1)))⟩, ⟨(some 41), none, .call (T 38) [(T 40)]⟩, ⟨(some 42), none, .not (T 41)⟩]) (.cond (T 42) (.seq (.ops [⟨(some 6), none, .mov (.const (.bool false))⟩]) .ret) .skip)))) (.ops [⟨(some 33), none, .mov (T 7)⟩, ⟨(some 34), none, .int2 .add (T 33) (.const (.int .i64 (1)))⟩, ⟨(some 7), none, .mov (T 34)⟩])))))) (.seq (.ops [⟨(some 6), none, .mov (.const (.bool true))⟩]) .ret))))
theorem fok122 : FnOk Try.prog 122 43 s122 [.tmp 6] := ⟨Try.f122, _, Try.func122, rfl, Try.ntmps122, by kernel_rfl, by kernel_rfl⟩
theorem choose_c (step : σ → (Nat → Int) → σ × Bool) (J : σ → AHeap → Prop) {pw py pb pc K N0 fl : Nat} {F V S T yv : Value} {nf : Nat} {lo hi : Nat → Int} (hsz : nf ≤ 5) (hv : ∀ k, k < nf → 0 ≤ lo k ∧ lo k ≤ hi k ∧ hi k ≤ 20)
    (d1 : pw ≠ pb) (d2 : py ≠ pb) (d3 : pc ≠ pb) (hF : ∀ a k cap, F = .slice (some a) k cap → a.block ≠ pb ∨ nf = 0) (hfl : fl ≤ pb) (hN : 10002 ≤ N0)
    (hJ : ∀ s g g' cs, J s g → Set1 g g' pb cs 0 → J s g')
    (hY : ∀ n g s c, N0 ≤ n → It pw py pc [F, V, S, T] yv (chooseV pw py pb pc) F nf lo hi g → g.get pb = some (.row (arr c) true 0) → OkB nf lo hi nf c → J s g → g.floor = fl → g.next + K < far →
      ∃ g', call n yv [.agg ⟨arr c⟩] g = some (.bool (step s c).2, g') ∧ J (step s c).1 g' ∧ It pw py pc [F, V, S, T] yv (chooseV pw py pb pc) F nf lo hi g' ∧ g'.get pb = some (.row (arr c) true 0) ∧ g'.floor = fl ∧ g'.next ≤ g.next + K) :
    ∀ (d i n : Nat) (g : AHeap) (s : σ) (c : Nat → Int), i + d = nf → N0 + d + 1 ≤ n → It pw py pc [F, V, S, T] yv (chooseV pw py pb pc) F nf lo hi g → g.get pb = some (.row (arr c) true 0) → OkB nf lo hi i c → J s g → g.floor = fl → g.next + K * (enumB lo hi d i c).length < far →
      ∃ g', call n (chooseV pw py pb pc) [.int .i64 (i : Int)] g = some (.bool (runL step s (enumB lo hi d i c)).2, g') ∧ J (runL step s (enumB lo hi d i c)).1 g' ∧ It pw py pc [F, V, S, T] yv (chooseV pw py pb pc) F nf lo hi g' ∧
        (∃ c', g'.get pb = some (.row (arr c') true 0) ∧ ∀ j, j < i ∨ i + d ≤ j → c' j = c j) ∧ g'.floor = fl ∧ g'.next ≤ g.next + K * (enumB lo hi d i c).length := by
  intro d
  induction d with
  | zero =>
    intro i n g s c hi' hn hit hb hok hj hfg hr
    obtain ⟨n, rfl⟩ : ∃ p, n = p + 1 := ⟨n - 1, by omega⟩
    simp only [enumB, List.length_singleton, Nat.mul_one] at hr ⊢
    obtain ⟨g', e, q1, q2, q3, q4, q5⟩ := hY n g s c (by omega) hit hb (show OkB nf lo hi nf c from (show i = nf by omega) ▸ hok) hj hfg hr
    have hin : (i : Int) = (nf : Int) := by omega
    have hbr : Row g pb (arr c) := ⟨_, _, hb⟩
    suffices hs : ∃ v g1, call (n + 1) (chooseV pw py pb pc) [.int .i64 (i : Int)] g = some (v, g1) ∧ v = .bool (step s c).2 ∧ g1 = g' by
      obtain ⟨v, g1, e1, rfl, rfl⟩ := hs
      have hrun : runL step s [c] = step s c := by
        simp only [runL]
        by_cases e : (step s c).2 = true
        · simp only [e, if_true]; exact (Prod.ext rfl e.symm)
        · simp only [e, Bool.false_eq_true, if_false]; exact (Prod.ext rfl (by simpa using (Bool.eq_false_iff.2 e).symm))
      rw [hrun]
      exact ⟨_, e1, q1, q2, ⟨c, q3, fun _ _ => rfl⟩, q4, q5⟩
    refine call_any (xs := []) (ys := [.pointer (some ⟨pw, 0, none⟩), .pointer (some ⟨py, 0, none⟩), .pointer (some ⟨pb, 0, none⟩), .pointer (some ⟨pc, 0, none⟩)]) fok122 rfl rfl (by simp) ?_
    simp only [rn0, rn1, rn2, rn3, rn4, rn5, rn6, rn7, rn8, if_true, if_false, Nat.le_refl, true_and, and_true, decide_true, decide_false, Bool.not_true, Bool.not_false, reduceIte, Nat.reduceEqDiff, Nat.reduceAdd, Nat.reduceMul, Nat.reduceSub, Nat.reduceLeDiff, Nat.reduceLT, s122, List.cons_append, List.nil_append, hit.w.ld, hit.y.ld, hbr.whole arr_len, Nat.zero_add, List.getElem?_cons_zero, List.getElem?_cons_succ, Cells.len hit.f, hin, e]
  | succ d ih =>
    intro i n g s c hi' hn hit hb hok hj hfg hr
    obtain ⟨n, rfl⟩ : ∃ p, n = p + 1 := ⟨n - 1, by omega⟩
    have hin : ¬ (i : Int) = (nf : Int) := by omega
    have hk : i < nf := by omega
    obtain ⟨v1, v2, v3⟩ := hv i hk
    suffices hs : ∃ v g1, call (n + 1) (chooseV pw py pb pc) [.int .i64 (i : Int)] g = some (v, g1) ∧ v = .bool (runL step s (enumB lo hi (d + 1) i c)).2 ∧ J (runL step s (enumB lo hi (d + 1) i c)).1 g1 ∧ It pw py pc [F, V, S, T] yv (chooseV pw py pb pc) F nf lo hi g1 ∧
        (∃ c', g1.get pb = some (.row (arr c') true 0) ∧ ∀ j, j < i ∨ i + (d + 1) ≤ j → c' j = c j) ∧ g1.floor = fl ∧ g1.next ≤ g.next + K * (enumB lo hi (d + 1) i c).length by
      obtain ⟨v, g1, e1, rfl, h2⟩ := hs
      exact ⟨g1, e1, h2⟩
    refine call_any (xs := []) (ys := [.pointer (some ⟨pw, 0, none⟩), .pointer (some ⟨py, 0, none⟩), .pointer (some ⟨pb, 0, none⟩), .pointer (some ⟨pc, 0, none⟩)]) fok122 rfl rfl (by simp) ?_
    have hl1 : loadCell g (ptrO F 2 i 0) = some (.int .i64 (lo i)) := Cells.ld hit.f hk (by omega)
    simp only [rn0, rn1, rn2, rn3, rn4, rn5, rn6, rn7, rn8, if_true, if_false, Nat.le_refl, true_and, and_true, decide_true, decide_false, Bool.not_true, Bool.not_false, reduceIte, Nat.reduceEqDiff, Nat.reduceAdd, Nat.reduceMul, Nat.reduceSub, Nat.reduceLeDiff, Nat.reduceLT, s122, List.cons_append, List.nil_append, hit.w.ld, Nat.zero_add, List.getElem?_cons_zero, List.getElem?_cons_succ, Cells.len hit.f, hin, Cells.idx hit.f hk, Cells.fld hit.f hk, hl1]
    let part : Nat → List (Nat → Int) := fun k => enumB lo hi d (i + 1) fun j => if j = i then lo i + (k : Int) else c j
    have hen : enumB lo hi (d + 1) i c = (List.range (hi i - lo i + 1).toNat).flatMap part := rfl
    have hm : ((hi i - lo i + 1).toNat : Int) = hi i - lo i + 1 := Int.toNat_of_nonneg (by omega)
    rw [hen] at hr ⊢
    generalize hmm : (hi i - lo i + 1).toNat = m at hm hr
    refine W_loop m (fun k f g1 ms => (It pw py pc [F, V, S, T] yv (chooseV pw py pb pc) F nf lo hi g1 ∧ (∃ c', g1.get pb = some (.row (arr c') true 0) ∧ ∀ j, j < i ∨ i + (d + 1) ≤ j → c' j = c j) ∧ J (runL step s ((List.range k).flatMap part)).1 g1 ∧ (runL step s ((List.range k).flatMap part)).2 = true ∧
      g1.floor = fl ∧ g1.next ≤ g.next + K * ((List.range k).flatMap part).length) ∧ ms = [] ∧ f 0 = .int .i64 (i : Int) ∧ f 1 = .pointer (some ⟨pw, 0, none⟩) ∧ f 3 = .pointer (some ⟨pb, 0, none⟩) ∧ f 4 = .pointer (some ⟨pc, 0, none⟩) ∧ f 7 = .int .i64 (lo i + (k : Int))) (by simp; omega) ?_ ?_ ?_
    · simp only [rn0, rn1, rn2, rn3, rn4, rn5, rn6, rn7, rn8, if_true, if_false, Nat.le_refl, true_and, and_true, decide_true, decide_false, Bool.not_true, Bool.not_false, reduceIte, Nat.reduceEqDiff, Nat.reduceAdd, Nat.reduceMul, Nat.reduceSub, Nat.reduceLeDiff, Nat.reduceLT, Int.natCast_zero, Int.add_zero]
      simp only [List.range_zero, List.flatMap_nil, runL, List.length_nil, Nat.mul_zero, Nat.add_zero, Nat.le_refl, and_true]
      exact ⟨hit, ⟨c, hb, fun _ _ => rfl⟩, hj, trivial, hfg⟩
    · rintro k f g1 ms hkm ⟨⟨it1, ⟨c', hb1, hc'⟩, hj1, hr1, hf1, hn1⟩, rfl, f0, f1, f3, f4, f7⟩
      have hle : lo i + (k : Int) ≤ hi i := by omega
      have hl2 : loadCell g1 (ptrO F 2 i 1) = some (.int .i64 (hi i)) := Cells.ld it1.f hk (by omega)
      have hlt := AHeap.lt_of_get hb1
      obtain ⟨rest, hpart⟩ := part_flat part hkm
      have hlen : ((List.range m).flatMap part).length = ((List.range k).flatMap part).length + ((part k).length + rest.length) := by rw [hpart]; simp
      have hK : K * ((List.range m).flatMap part).length = K * ((List.range k).flatMap part).length + (K * (part k).length + K * rest.length) := by rw [hlen, Nat.mul_add, Nat.mul_add]
      simp only [rn0, rn1, rn2, rn3, rn4, rn5, rn6, rn7, rn8, if_true, if_false, Nat.le_refl, true_and, and_true, decide_true, decide_false, Bool.not_true, Bool.not_false, reduceIte, Nat.reduceEqDiff, Nat.reduceAdd, Nat.reduceMul, Nat.reduceSub, Nat.reduceLeDiff, Nat.reduceLT, f0, f1, f3, f4, f7, it1.w.ld, Nat.zero_add, List.getElem?_cons_zero, List.getElem?_cons_succ, Cells.idx it1.f hk, Cells.fld it1.f hk, hl2, hle, idxArr_p (l := 5) (k := i) (by omega)]
      refine step_store (vs := [.int .i64 (lo i + (k : Int))]) rfl hb1 (by omega) (by omega) rfl rfl rfl (by rw [arr_len]; simp; omega) fun g2 hs => ?_
      have hb2 := hs.get
      rw [arr_splice (by omega)] at hb2
      have it2 := it1.set hs d1 d2 d3 hF
      have hw : wrapF .i64 ((i : Int) + 1) = ((i + 1 : Nat) : Int) := by rw [wrap_in (by omega) (by omega)]; rfl
      have hcg : enumB lo hi d (i + 1) (fun j => if j = i then lo i + (k : Int) else c' j) = part k := enumB_congr d (i + 1) _ _ fun j hj => by
        by_cases e : j = i
        · simp [e]
        · simp only [e, if_false]; exact hc' j (by omega)
      have hnx := hs.next
      have hok2 : OkB nf lo hi (i + 1) (fun j => if j = i then lo i + (k : Int) else c' j) := by
        refine ⟨fun j hj => ?_, fun j hj => ?_⟩
        · by_cases e : j = i
          · subst e; simp only [if_true]; omega
          · simp only [e, if_false]; rw [hc' j (by omega)]; exact hok.1 j (by omega)
        · have e : ¬ j = i := by omega
          simp only [e, if_false]; rw [hc' j (by omega)]; exact hok.2 j hj
      obtain ⟨g3, e, j3, it3, ⟨c3, hb3, hc3⟩, fl3, n3⟩ := ih (i + 1) n g2 _ _ (by omega) (by omega) it2 hb2 hok2 (hJ _ _ _ _ hj1 hs) (by rw [hs.floor, hf1]) (by rw [hcg]; omega)
      rw [hcg] at e j3 n3
      have hw2 : wrapF .i64 (lo i + (k : Int) + 1) = lo i + ((k + 1 : Nat) : Int) := by rw [wrap_in (by omega) (by omega)]; omega
      have hc3' : ∀ j, j < i ∨ i + (d + 1) ≤ j → c3 j = c j := fun j hj => by
        rw [hc3 j (by omega), if_neg (by omega)]; exact hc' j hj
      by_cases hq : (runL step (runL step s ((List.range k).flatMap part)).1 (part k)).2 = true
      · have hrun : runL step s ((List.range (k + 1)).flatMap part) = runL step (runL step s ((List.range k).flatMap part)).1 (part k) := by
          rw [List.range_succ, List.flatMap_append, runL_append, hr1, if_pos rfl]; simp
        have hl3 : ((List.range (k + 1)).flatMap part).length = ((List.range k).flatMap part).length + (part k).length := by rw [List.range_succ, List.flatMap_append, List.length_append]; simp
        rw [hq] at e
        simp only [rn0, rn1, rn2, rn3, rn4, rn5, rn6, rn7, rn8, if_true, if_false, Nat.le_refl, true_and, and_true, decide_true, decide_false, Bool.not_true, Bool.not_false, reduceIte, Nat.reduceEqDiff, Nat.reduceAdd, Nat.reduceMul, Nat.reduceSub, Nat.reduceLeDiff, Nat.reduceLT, f0, f1, f3, f4, f7, it2.c.ld, Nat.zero_add, List.getElem?_cons_zero, List.getElem?_cons_succ, hw, e, hw2]
        rw [hrun, hl3, Nat.mul_add]
        exact ⟨it3, ⟨c3, hb3, hc3'⟩, j3, hq, fl3, by omega⟩
      · have hq' : (runL step (runL step s ((List.range k).flatMap part)).1 (part k)).2 = false := by simpa using hq
        have hrun : runL step s ((List.range m).flatMap part) = runL step (runL step s ((List.range k).flatMap part)).1 (part k) := by
          rw [hpart, runL_append, hr1, if_pos rfl, runL_append, hq', if_neg (by simp)]
        rw [hq'] at e
        simp only [rn0, rn1, rn2, rn3, rn4, rn5, rn6, rn7, rn8, if_true, if_false, Nat.le_refl, true_and, and_true, decide_true, decide_false, Bool.not_true, Bool.not_false, reduceIte, Nat.reduceEqDiff, Nat.reduceAdd, Nat.reduceMul, Nat.reduceSub, Nat.reduceLeDiff, Nat.reduceLT, f0, f1, f3, f4, f7, it2.c.ld, Nat.zero_add, List.getElem?_cons_zero, List.getElem?_cons_succ, hw, e]
        rw [hrun, hq']
        exact ⟨rfl, j3, it3, ⟨c3, hb3, hc3'⟩, fl3, by omega⟩
    · rintro f g1 ms ⟨⟨it1, ⟨c', hb1, hc'⟩, hj1, hr1, hf1, hn1⟩, rfl, f0, f1, f3, f4, f7⟩
      have hle : ¬ lo i + (m : Int) ≤ hi i := by omega
      have hl2 : loadCell g1 (ptrO F 2 i 1) = some (.int .i64 (hi i)) := Cells.ld it1.f hk (by omega)
      simp only [rn0, rn1, rn2, rn3, rn4, rn5, rn6, rn7, rn8, if_true, if_false, Nat.le_refl, true_and, and_true, decide_true, decide_false, Bool.not_true, Bool.not_false, reduceIte, Nat.reduceEqDiff, Nat.reduceAdd, Nat.reduceMul, Nat.reduceSub, Nat.reduceLeDiff, Nat.reduceLT, f0, f1, f3, f4, f7, it1.w.ld, Nat.zero_add, List.getElem?_cons_zero, List.getElem?_cons_succ, Cells.idx it1.f hk, Cells.fld it1.f hk, hl2, hle]
      exact ⟨by rw [hr1], hj1, it1, ⟨c', hb1, hc'⟩, hf1, hn1⟩
/-- what lay before lies as it did -/
structure Old (g g1 : AHeap) (k : Nat) : Prop where
  old : ∀ i, i < g.next → g1.get i = g.get i
  next : g1.next = g.next + k
  floor : g1.floor = g.floor
theorem Old.sub {g g1 : AHeap} {k : Nat} (ho : Old g g1 k) : Sub All g g1 := fun i cs w gr _ hg => by rw [ho.old i (AHeap.lt_of_get hg)]; exact hg
def s121 : SCode := (.seq (.ops [⟨(some 2), none, .box (T 0)⟩]) (.seq (.ops [⟨(some 3), none, .alloc [(.int .i64 (0)), (.int .i64 (0)), (.int .i64 (0)), (.int .i64 (0)), (.int .i64 (0))]⟩]) (.seq (.ops [⟨(some 4), none, .alloc [.nilFunc]⟩]) (.seq (.ops [⟨(some 5), none, .mkfunc 122 [] [(T 1), (T 2), (T 3), (T 4)]⟩, ⟨none, none, .store 1 (T 4) (T 5)⟩]) (.ops [⟨(some 6), none, .load1 (T 4)⟩, ⟨(some 7), none, .call (T 6) [(.const (.int .i64 (0)))]⟩])))))
theorem fok121 : FnOk Try.prog 121 8 s121 [] := ⟨Try.f121, _, Try.func121, rfl, Try.ntmps121, by kernel_rfl, by kernel_rfl⟩
theorem iter_c (step : σ → (Nat → Int) → σ × Bool) (J : σ → AHeap → Prop) {g : AHeap} {pw K N0 n : Nat} {F V S T yv : Value} {nf : Nat} {lo hi : Nat → Int} (s : σ) (hsz : nf ≤ 5) (hv : ∀ k, k < nf → 0 ≤ lo k ∧ lo k ≤ hi k ∧ hi k ≤ 20)
    (hw : Row g pw [F, V, S, T]) (hf : Ranges g F nf lo hi) (hyv : oneCell yv = true) (hfl : g.floor ≤ g.next) (hN : 10002 ≤ N0) (hn : N0 + 7 ≤ n)
    (hJ : ∀ s g1 g' cs, J s g1 → Set1 g1 g' (g.next + 1) cs 0 → J s g')
    (hJ0 : ∀ g3, Old g g3 3 → J s g3)
    (hY : ∀ n g1 s c, N0 ≤ n → It pw g.next (g.next + 2) [F, V, S, T] yv (chooseV pw g.next (g.next + 1) (g.next + 2)) F nf lo hi g1 → g1.get (g.next + 1) = some (.row (arr c) true 0) → OkB nf lo hi nf c → J s g1 → g1.floor = g.floor → g1.next + K < far →
      ∃ g', call n yv [.agg ⟨arr c⟩] g1 = some (.bool (step s c).2, g') ∧ J (step s c).1 g' ∧ It pw g.next (g.next + 2) [F, V, S, T] yv (chooseV pw g.next (g.next + 1) (g.next + 2)) F nf lo hi g' ∧ g'.get (g.next + 1) = some (.row (arr c) true 0) ∧ g'.floor = g.floor ∧ g'.next ≤ g1.next + K)
    (hr : g.next + 3 + K * (enumB lo hi nf 0 fun _ => 0).length < far) :
    ∃ v g', call n (.func (.func 121) ⟨[]⟩ ⟨[.pointer (some ⟨pw, 0, none⟩)]⟩) [yv] g = some (v, g') ∧ J (runL step s (enumB lo hi nf 0 fun _ => 0)).1 g' ∧ g'.floor = g.floor ∧ g'.next ≤ g.next + 3 + K * (enumB lo hi nf 0 fun _ => 0).length := by
  obtain ⟨n, rfl⟩ : ∃ p, n = p + 1 := ⟨n - 1, by omega⟩
  refine call_any (xs := []) (ys := [.pointer (some ⟨pw, 0, none⟩)]) fok121 rfl rfl (by simp) ?_
  simp only [s121, List.cons_append, List.nil_append, W_seq, W_ops]
  refine ops_box (cs := [yv]) (by omega) (by simp only [rn0, rn1, rn2, rn3, rn4, rn5, rn6, rn7, rn8, if_true, if_false, Nat.le_refl, true_and, and_true, decide_true, decide_false, Bool.not_true, Bool.not_false, reduceIte, Nat.reduceEqDiff, Nat.reduceAdd, Nat.reduceMul, Nat.reduceSub, Nat.reduceLeDiff, Nat.reduceLT]; cases yv <;> first | rfl | cases hyv) (by simp [allB, hyv]) fun g1 hx1 => ?_
  have n1 := hx1.next
  have f1 := hx1.floor
  simp only [rn0, rn1, rn2, rn3, rn4, rn5, rn6, rn7, rn8, if_true, if_false, Nat.le_refl, true_and, and_true, decide_true, decide_false, Bool.not_true, Bool.not_false, reduceIte, Nat.reduceEqDiff, Nat.reduceAdd, Nat.reduceMul, Nat.reduceSub, Nat.reduceLeDiff, Nat.reduceLT]
  refine step_row (cs := arr fun _ => 0) (by omega) rfl arr_one fun g2 hx2 => ?_
  have n2 := hx2.next
  have f2 := hx2.floor
  simp only [rn0, rn1, rn2, rn3, rn4, rn5, rn6, rn7, rn8, if_true, if_false, Nat.le_refl, true_and, and_true, decide_true, decide_false, Bool.not_true, Bool.not_false, reduceIte, Nat.reduceEqDiff, Nat.reduceAdd, Nat.reduceMul, Nat.reduceSub, Nat.reduceLeDiff, Nat.reduceLT]
  refine step_row (cs := [.nilFunc]) (by omega) rfl rfl fun g3 hx3 => ?_
  have n3 := hx3.next
  have f3 := hx3.floor
  have hpw : pw < g.next := by obtain ⟨w, gr, e⟩ := hw; exact AHeap.lt_of_get e
  simp only [rn0, rn1, rn2, rn3, rn4, rn5, rn6, rn7, rn8, if_true, if_false, Nat.le_refl, true_and, and_true, decide_true, decide_false, Bool.not_true, Bool.not_false, reduceIte, Nat.reduceEqDiff, Nat.reduceAdd, Nat.reduceMul, Nat.reduceSub, Nat.reduceLeDiff, Nat.reduceLT]
  have e1 : g1.next = g.next + 1 := n1
  have e2 : g2.next = g.next + 2 := by omega
  rw [e1, e2]
  refine step_store (b := g.next + 2) (gr := 0) (vs := [chooseV pw g.next (g.next + 1) (g.next + 2)]) rfl (by have := hx3.get; rw [e2] at this; exact this) (by omega) (by omega) rfl rfl rfl (by simp) fun g4 hs => ?_
  have hc4 := hs.row
  have hs4 : ∀ i, i < g.next + 2 → g4.get i = g2.get i := fun i hi => by rw [hs.old i (by omega), hx3.old i (by omega)]
  have hb4 : g4.get (g.next + 1) = some (.row (arr fun _ => 0) true 0) := by
    rw [hs4 _ (by omega)]; have := hx2.get; rw [e1] at this; exact this
  have hy4 : g4.get g.next = some (.row [yv] true 0) := by
    rw [hs4 _ (by omega), hx2.old _ (by omega)]; exact hx1.get
  have ho4 : Old g g4 3 := ⟨fun i hi => by rw [hs4 i (by omega), hx2.old i (by omega), hx1.old i hi], by have := hs.next; omega, by have := hs.floor; omega⟩
  have hF : ∀ a k cap, F = .slice (some a) k cap → a.block ≠ g.next + 1 ∨ nf = 0 := by
    intro a k cap e
    obtain ⟨a', cap', e', _, h0 | ⟨b, o, cs, w, gr, e2, e3, _⟩⟩ := hf
    · exact .inr h0
    · left
      rw [e] at e'
      cases e'
      cases e2
      have := AHeap.lt_of_get e3
      show b ≠ _
      omega
  have hit : It pw g.next (g.next + 2) [F, V, S, T] yv (chooseV pw g.next (g.next + 1) (g.next + 2)) F nf lo hi g4 := ⟨hw.mono ho4.sub, ⟨_, _, hy4⟩, by simpa [splice] using hc4, Cells.mono hf ho4.sub⟩
  have hch := choose_c step J (pw := pw) (py := g.next) (pb := g.next + 1) (pc := g.next + 2) (K := K) (N0 := N0) (fl := g.floor) (F := F) (V := V) (S := S) (T := T) (yv := yv) (nf := nf) (lo := lo) (hi := hi) hsz hv (by omega) (by omega) (by omega) hF (by omega) hN hJ hY nf 0 n g4 s (fun _ => 0) (by omega) (by omega) hit hb4 ⟨fun j hj => by omega, fun _ _ => rfl⟩ (hJ0 _ ho4) ho4.floor (by have := ho4.next; omega)
  obtain ⟨g5, q1, q2, q3, q4, q5, q6⟩ := hch
  have hl : loadCell g4 (.pointer (some ⟨g.next + 2, 0, none⟩)) = some (chooseV pw g.next (g.next + 1) (g.next + 2)) := by rw [hc4.ld]; simp [splice]
  have q1' : call n (chooseV pw g.next (g.next + 1) (g.next + 2)) [.int .i64 0] g4 = some (.bool (runL step s (enumB lo hi nf 0 fun _ => 0)).2, g5) := q1
  simp only [rn0, rn1, rn2, rn3, rn4, rn5, rn6, rn7, rn8, if_true, if_false, Nat.le_refl, true_and, and_true, decide_true, decide_false, Bool.not_true, Bool.not_false, reduceIte, Nat.reduceEqDiff, Nat.reduceAdd, Nat.reduceMul, Nat.reduceSub, Nat.reduceLeDiff, Nat.reduceLT, hl, q1']
  exact ⟨_, rfl, q2, by rw [q5], by have := ho4.next; omega⟩
end
end Go.Vm.Vat

namespace Go.Vm.Vat
open Go.Proofs
set_option linter.unusedSimpArgs false
set_option linter.unusedVariables false
set_option maxRecDepth 10000
variable {n : Nat} {h : AHeap}
/-! ### The truths of a yard -/
/-- how many ways there are to fill d fields from i on -/
def prodFrom (lo hi : Nat → Int) : Nat → Nat → Int
  | 0, _ => 1
  | d + 1, i => (hi i - lo i + 1) * prodFrom lo hi d (i + 1)
theorem sizeN_prod {lo hi : Nat → Int} : ∀ (d i : Nat), sizeN lo hi (i + d) = sizeN lo hi i * prodFrom lo hi d i
  | 0, i => by simp [prodFrom]
  | d + 1, i => by
    have := sizeN_prod (lo := lo) (hi := hi) d (i + 1)
    rw [show i + (d + 1) = i + 1 + d by omega, this]
    simp only [sizeN, prodFrom, Int.mul_assoc]
theorem enumB_len {lo hi : Nat → Int} : ∀ (d i : Nat) (c : Nat → Int), (∀ k, i ≤ k → k < i + d → lo k ≤ hi k) → ((enumB lo hi d i c).length : Int) = prodFrom lo hi d i
  | 0, i, c, _ => by simp [enumB, prodFrom]
  | d + 1, i, c, hv => by
    have h0 := hv i (by omega) (by omega)
    have hm : ((hi i - lo i + 1).toNat : Int) = hi i - lo i + 1 := Int.toNat_of_nonneg (by omega)
    have : ∀ m : Nat, ((((List.range m).flatMap fun (k : Nat) => enumB lo hi d (i + 1) fun j => if j = i then lo i + (k : Int) else c j).length : Nat) : Int) = m * prodFrom lo hi d (i + 1) := by
      intro m
      induction m with
      | zero => simp
      | succ m ih =>
        rw [List.range_succ, List.flatMap_append, List.length_append]
        have e := enumB_len d (i + 1) (fun j => if j = i then lo i + (m : Int) else c j) fun k h1 h2 => hv k (by omega) (by omega)
        simp only [List.flatMap_cons, List.flatMap_nil, List.append_nil]
        rw [Int.natCast_add, ih, e, Int.natCast_add, Int.add_mul]
        simp
    simp only [enumB, prodFrom]
    rw [this, hm]
theorem enumB_ok {lo hi : Nat → Int} : ∀ (d i : Nat) (c x : Nat → Int), x ∈ enumB lo hi d i c ↔ ((∀ j, i ≤ j → j < i + d → lo j ≤ x j ∧ x j ≤ hi j) ∧ ∀ j, j < i ∨ i + d ≤ j → x j = c j)
  | 0, i, c, x => by
    simp only [enumB, List.mem_singleton]
    constructor
    · rintro rfl; exact ⟨fun j h1 h2 => by omega, fun _ _ => rfl⟩
    · rintro ⟨_, h2⟩; exact funext fun j => h2 j (by omega)
  | d + 1, i, c, x => by
    simp only [enumB, List.mem_flatMap, List.mem_range, enumB_ok d (i + 1)]
    constructor
    · rintro ⟨k, hk, h1, h2⟩
      refine ⟨fun j h3 h4 => ?_, fun j hj => ?_⟩
      · by_cases e : j = i
        · subst e
          have := h2 j (by omega)
          simp only [if_true] at this
          omega
        · exact h1 j (by omega) (by omega)
      · have := h2 j (by omega)
        rw [if_neg (by omega)] at this
        exact this
    · rintro ⟨h1, h2⟩
      obtain ⟨h3, h4⟩ := h1 i (by omega) (by omega)
      refine ⟨(x i - lo i).toNat, by omega, fun j h5 h6 => h1 j (by omega) (by omega), fun j hj => ?_⟩
      by_cases e : j = i
      · subst e; simp only [if_true]; omega
      · simp only [e, if_false]; exact h2 j (by omega)
/-- the blues with which all samples are right, in order -/
noncomputable def truths (Y : MY) : List (Nat → Int) := open Classical in (enumB Y.lo Y.hi Y.nf 0 fun _ => 0).filter fun c => decide (∀ k, k < Y.ns → RightB Y c k)
noncomputable def truthStep (Y : MY) (s : List (Nat → Int)) (c : Nat → Int) : List (Nat → Int) × Bool := open Classical in (if (∀ k, k < Y.ns → RightB Y c k) then s ++ [c] else s, true)
theorem runL_truth {Y : MY} : ∀ (l s : List (Nat → Int)), runL (truthStep Y) s l = (s ++ (open Classical in l.filter fun c => decide (∀ k, k < Y.ns → RightB Y c k)), true)
  | [], s => by simp [runL]
  | x :: l, s => by
    simp only [runL, truthStep, if_true]
    have := runL_truth (Y := Y) l
    by_cases e : ∀ k, k < Y.ns → RightB Y x k
    · rw [if_pos e, this, List.filter_cons, if_pos (by simpa using e)]; simp
    · rw [if_neg e, this, List.filter_cons, if_neg (by simpa using e)]
/-- a list of truths lies in memory -/
def TruthsR (h : AHeap) (v : Value) (l : List (Nat → Int)) : Prop := Cells h v 5 l.length fun k j => .int .i64 ((l.getD k fun _ => 0) j)
theorem _root_.Go.Vm.Cells.old {g : AHeap} {v : Value} {s n : Nat} {c : Nat → Nat → Value} (hc : Cells h v s n c) (ho : ∀ i, i < h.next → g.get i = h.get i) : Cells g v s n c :=
  hc.mono fun i cs w gr _ hg => by rw [ho i (AHeap.lt_of_get hg)]; exact hg
theorem _root_.Go.Vm.AHeap.subOf {g : AHeap} (ho : ∀ i, i < h.next → g.get i = h.get i) : Sub All h g := fun i cs w gr _ hg => by rw [ho i (AHeap.lt_of_get hg)]; exact hg
theorem fault_size {Y : MY} (hf : faultN Y = 0) : Good Y ∧ sizeN Y.lo Y.hi Y.nf ≤ 2000 := by
  have hG := good_of hf
  refine ⟨hG, ?_⟩
  have hF : ∀ k, k < Y.nf → 0 ≤ Y.lo k ∧ Y.lo k ≤ Y.hi k ∧ Y.hi k ≤ 20 := hG.f
  have hsm := sizeN_many (by have := hG.sz.1; omega) hF Y.nf (Nat.le_refl _)
  unfold faultN at hf
  rw [if_neg (by simpa using hG.sz), if_pos ⟨hG.f, hG.v, hG.s⟩] at hf
  by_cases hm : 2000 < manyN Y.lo Y.hi Y.nf
  · rw [if_pos hm] at hf; cases hf
  · omega
theorem call_yield {l : Nat} {args : List Value} : call (n + 1) (.func (.yield l) #[] #[]) args h = roundA Try.prog (call n) n l args h := rfl
def s105 : SCode := (.seq (.ops [⟨(some 1), none, .box (T 0)⟩, ⟨(some 2), none, .mov (.const .nilFunc)⟩]) (.seq (.ops [⟨(some 3), none, .mkfunc 121 [] [(T 1)]⟩, ⟨(some 2), none, .mov (T 3)⟩]) .ret))
theorem fok105 : FnOk Try.prog 105 4 s105 [.tmp 2] := ⟨Try.f105, _, Try.func105, rfl, Try.ntmps105, by kernel_rfl, by kernel_rfl⟩
theorem allBlues_c (hn : 1 ≤ n) (hr : h.next < far) {F V S T : Value} (h1 : allB oneCell [F, V, S, T] = true) :
    ∃ h', call n (.func (.func 105) #[] #[]) [.agg ⟨[F, V, S, T]⟩] h = some (.func (.func 121) ⟨[]⟩ ⟨[.pointer (some ⟨h.next, 0, none⟩)]⟩, h') ∧ New h h' [F, V, S, T] 0 := by
  obtain ⟨n, rfl⟩ : ∃ p, n = p + 1 := ⟨n - 1, by omega⟩
  suffices hs : ∃ v h', call (n + 1) (.func (.func 105) #[] #[]) [.agg ⟨[F, V, S, T]⟩] h = some (v, h') ∧ v = .func (.func 121) ⟨[]⟩ ⟨[.pointer (some ⟨h.next, 0, none⟩)]⟩ ∧ New h h' [F, V, S, T] 0 by
    obtain ⟨v, h', e, rfl, hx⟩ := hs
    exact ⟨h', e, hx⟩
  refine call_any0 fok105 rfl rfl (by simp) ?_
  simp only [s105, W_seq, W_ops]
  refine ops_box (cs := [F, V, S, T]) (by omega) rfl h1 fun g1 hx1 => ?_
  simp only [rn0, rn1, rn2, rn3, rn4, rn5, rn6, rn7, rn8, if_true, if_false, Nat.le_refl, true_and, and_true, decide_true, decide_false, Bool.not_true, Bool.not_false, reduceIte, Nat.reduceEqDiff, Nat.reduceAdd, Nat.reduceMul, Nat.reduceSub, Nat.reduceLeDiff, Nat.reduceLT]
  exact hx1
/-- what 'open' keeps while it goes through the blues -/
structure JO (h2 : AHeap) (p : Nat) (F V S : Value) (s : List (Nat → Int)) (g : AHeap) : Prop where
  old : ∀ i, i < h2.next → i ≠ p → g.get i = h2.get i
  tv : ∃ tv, g.get p = some (.row [F, V, S, tv] true 0) ∧ GrowC (h2.next + 3) g tv 5 s.length fun k j => .int .i64 ((s.getD k fun _ => 0) j)
  up : h2.next + 3 ≤ g.next
  len : s.length ≤ g.next
theorem arr_eq {c : Nat → Int} : arr c = [.int .i64 (c 0), .int .i64 (c 1), .int .i64 (c 2), .int .i64 (c 3), .int .i64 (c 4)] := rfl
theorem sl_arr {c : Nat → Int} : buildSl 5 1 [.int .i64 0, .int .i64 0, .int .i64 0, .int .i64 0, .int .i64 0] [0] h [.agg ⟨arr c⟩] = newSlice h (arr c) 1 1 0 := by rw [arr_eq]; exact id rfl
/-- a slice that is no longer than its capacity, if that is 1 -/
def Long (v : Value) : Prop := ∀ a n c, v = .slice a n c → c = 1 → n ≤ 1
theorem _root_.Go.Vm.GrowC.long {B s n : Nat} {v : Value} {c : Nat → Nat → Value} (hg : GrowC B h v s n c) : Long v := by
  obtain ⟨cs, ⟨rfl, _, _⟩ | ⟨b, rfl, _⟩, _⟩ := hg
  · intro a n c e; cases e; intro _; omega
  · intro a n c e; cases e; intro h; simp [unk] at h
/-- what 'open' answers -/
def OpenR (h : AHeap) (Y : MY) (F V S v : Value) (h' : AHeap) : Prop := Made h h' 230000 ∧
  ((faultN Y ≠ 0 ∧ v = .tuple ⟨[.agg ⟨[nilS, nilS, nilS, nilS]⟩, .int .i64 (faultN Y)]⟩) ∨ (faultN Y = 0 ∧ ∃ tv, v = .tuple ⟨[.agg ⟨[F, V, S, tv]⟩, .int .i64 0]⟩ ∧ TruthsR h' tv (truths Y) ∧ Long tv))
theorem build_work0 : buildA (fun x => (#[(0, 3), (3, 1)] : Array (Nat × Nat))[x]?) ⟨[.slice none 0 0, .slice none 0 0, .slice none 0 0, .slice none 0 0]⟩ [] h [] = some (.agg ⟨[nilS, nilS, nilS, nilS]⟩, h) := id rfl
noncomputable def s78 : SCode := (.seq (.ops [⟨(some 1), none, .box (T 0)⟩, ⟨(some 2), none, .alloc [(.slice none 0 0), (.slice none 0 0), (.slice none 0 0), (.slice none 0 0)]⟩, ⟨(some 3), none, .mov (.const (.int .i64 (0)))⟩]) (.seq (.seq (.ops [⟨(some 7), none, .loadN 3 (T 1)⟩, ⟨(some 8), none, .call (.func 30) [(T 7)]⟩, ⟨(some 4), none, .mov (T 8)⟩]) (.seq (.ops [⟨(some 9), none, .mov (T 4)⟩, ⟨(some 10), none, .int2 .neq (T 9) (.const (.int .i64 (0)))⟩]) (.cond (T 10) (.seq (.ops [⟨(some 11), none, .build #[(0, 3), (3, 1)] [(.slice none 0 0), (.slice none 0 0), (.slice none 0 0), (.slice none 0 0)] [] []⟩, ⟨(some 12), none, .mov (T 4)⟩, ⟨none, none, .store 4 (T 2) (T 11)⟩, ⟨(some 3), none, .mov (T 12)⟩]) .ret) .skip))) (.seq (.ops [⟨(some 13), none, .loadN 3 (T 1)⟩, ⟨(some 14), none, .build #[(0, 3), (3, 1)] [(.slice none 0 0), (.slice none 0 0), (.slice none 0 0), (.slice none 0 0)] [0] [(T 13)]⟩, ⟨(some 5), none, .alloc [(.slice none 0 0), (.slice none 0 0), (.slice none 0 0), (.slice none 0 0)]⟩, ⟨none, none, .store 4 (T 5) (T 14)⟩]) (.seq (.seq (.ops [⟨(some 15), none, .loadN 4 (T 5)⟩, ⟨(some 16), none, .call (.func 105) [(T 15)]⟩]) (.block 0 (.range (T 16) #[17] (rangeOf Try.f78 0).1 (rangeOf Try.f78 0).2))) (.seq (.ops [⟨(some 27), none, .loadN 4 (T 5)⟩, ⟨none, none, .store 4 (T 2) (T 27)⟩, ⟨(some 3), none, .mov (.const (.int .i64 (0)))⟩]) .ret)))))
theorem fok78 : FnOk Try.prog 78 28 s78 [.cellN 2 4, .tmp 3] := ⟨Try.f78, _, Try.func78, rfl, Try.ntmps78, by kernel_rfl, by kernel_rfl⟩
def ra78_0 : SCode := (.ops [⟨(some 6), none, .alloc [(.int .i64 (0)), (.int .i64 (0)), (.int .i64 (0)), (.int .i64 (0)), (.int .i64 (0))]⟩, ⟨none, none, .store 5 (T 6) (T 17)⟩])
theorem raok78_0 : compCode Try.prog 28 (rangeOf Try.f78 0).1 = some ra78_0 := by kernel_rfl
def rb78_0 : SCode := (.block 1 (.seq (.ops [⟨(some 18), none, .loadN 4 (T 5)⟩, ⟨(some 19), none, .loadN 5 (T 6)⟩, ⟨(some 20), none, .call (.func 114) [(T 18), (T 19)]⟩]) (.cond (T 20) (.ops [⟨(some 21), none, .fieldAddr 3 (T 5)⟩, ⟨(some 22), none, .load1 (T 21)⟩, ⟨(some 23), none, .loadN 5 (T 6)⟩, ⟨(some 24), none, .bslice 5 1 [(.int .i64 (0)), (.int .i64 (0)), (.int .i64 (0)), (.int .i64 (0)), (.int .i64 (0))] [0] [(T 23)]⟩, ⟨(some 25), none, .append 5 40 (T 22) (T 24)⟩, ⟨(some 26), none, .fieldAddr 3 (T 5)⟩, ⟨none, none, .store 1 (T 26) (T 25)⟩]) .skip)))
theorem rbok78_0 : compCode Try.prog 28 (rangeOf Try.f78 0).2 = some rb78_0 := by kernel_rfl
theorem open_c (hn : 10040 ≤ n) (hr : h.next + 300000 < far) (hfl : h.floor ≤ h.next) {F V S : Value} {Y : MY} (hy : YardR h F V S Y) (hY : Thin Y) :
    ∃ v h', call n (.func (.func 78) #[] #[]) [.agg ⟨[F, V, S]⟩] h = some (v, h') ∧ OpenR h Y F V S v h' := by
  obtain ⟨n, rfl⟩ : ∃ p, n = p + 1 := ⟨n - 1, by omega⟩
  refine call_any0 fok78 rfl rfl (by simp) ?_
  simp only [s78, W_seq, W_ops]
  refine ops_box (cs := [F, V, S]) (by omega) rfl hy.one fun g1 hx1 => ?_
  have n1 := hx1.next
  have f1 := hx1.floor
  simp only [rn0, rn1, rn2, rn3, rn4, rn5, rn6, rn7, rn8, if_true, if_false, Nat.le_refl, true_and, and_true, decide_true, decide_false, Bool.not_true, Bool.not_false, reduceIte, Nat.reduceEqDiff, Nat.reduceAdd, Nat.reduceMul, Nat.reduceSub, Nat.reduceLeDiff, Nat.reduceLT]
  refine step_row (cs := [nilS, nilS, nilS, nilS]) (by omega) rfl rfl fun g2 hx2 => ?_
  have n2 := hx2.next
  have f2 := hx2.floor
  have e1 : g1.next = h.next + 1 := n1
  have e2 : g2.next = h.next + 2 := by omega
  have hy2 := (hy.mono hx1.sub).mono hx2.sub
  have w1 := (hx1.row.mono hx2.sub).whole (n := 3) rfl
  have ec := checkYard_c (n := n) (h := g2) (by omega) (by omega) hy2 hY
  have hr2 : g2.get (h.next + 1) = some (.row [nilS, nilS, nilS, nilS] true 0) := by have := hx2.get; rw [e1] at this; exact this
  have old2 : ∀ i, i < h.next → g2.get i = h.get i := fun i hi => by rw [hx2.old i (by omega), hx1.old i hi]
  by_cases hf : faultN Y = 0
  case neg =>
    simp only [rn0, rn1, rn2, rn3, rn4, rn5, rn6, rn7, rn8, if_true, if_false, Nat.le_refl, true_and, and_true, decide_true, decide_false, Bool.not_true, Bool.not_false, reduceIte, Nat.reduceEqDiff, Nat.reduceAdd, Nat.reduceMul, Nat.reduceSub, Nat.reduceLeDiff, Nat.reduceLT, w1, ec, hf, build_work0, e1]
    refine step_store (vs := [nilS, nilS, nilS, nilS]) rfl hr2 (by omega) (by omega) rfl rfl rfl (by simp) fun g3 hs => ?_
    have hrow := hs.row.whole (n := 4) rfl
    simp only [rn0, rn1, rn2, rn3, rn4, rn5, rn6, rn7, rn8, if_true, if_false, Nat.le_refl, true_and, and_true, decide_true, decide_false, Bool.not_true, Bool.not_false, reduceIte, Nat.reduceEqDiff, Nat.reduceAdd, Nat.reduceMul, Nat.reduceSub, Nat.reduceLeDiff, Nat.reduceLT, res_two, hrow]
    refine ⟨⟨AHeap.subOf fun i hi => by rw [hs.old i (by omega), old2 i hi], by have := hs.next; omega, by have := hs.next; omega, by rw [hs.floor, f2, f1]⟩, .inl ⟨hf, ?_⟩⟩
    simp [splice]
  obtain ⟨hG, hsz⟩ := fault_size hf
  obtain ⟨z1, z2, z3⟩ := hG.sz
  have hF : ∀ k, k < Y.nf → 0 ≤ Y.lo k ∧ Y.lo k ≤ Y.hi k ∧ Y.hi k ≤ 20 := hG.f
  have ho4 : ∀ T, oneCell T = true → allB oneCell [F, V, S, T] = true := fun T hT => by have := hy.one; simp [allB] at this ⊢; simp [this, hT]
  have hlenE : (enumB Y.lo Y.hi Y.nf 0 fun _ => 0).length ≤ 2000 := by
    have h1 := enumB_len (lo := Y.lo) (hi := Y.hi) Y.nf 0 (fun _ => 0) fun k _ hk => (hF k (by omega)).2.1
    have h2 := sizeN_prod (lo := Y.lo) (hi := Y.hi) Y.nf 0
    simp only [Nat.zero_add, sizeN, Int.one_mul] at h2
    omega
  simp only [rn0, rn1, rn2, rn3, rn4, rn5, rn6, rn7, rn8, if_true, if_false, Nat.le_refl, true_and, and_true, decide_true, decide_false, Bool.not_true, Bool.not_false, reduceIte, Nat.reduceEqDiff, Nat.reduceAdd, Nat.reduceMul, Nat.reduceSub, Nat.reduceLeDiff, Nat.reduceLT, w1, ec, hf, build_work]
  refine step_new (vs := [F, V, S, nilS]) (by omega) (by omega) rfl (by simp only [rn0, rn1, rn2, rn3, rn4, rn5, rn6, rn7, rn8, if_true, if_false, Nat.le_refl, true_and, and_true, decide_true, decide_false, Bool.not_true, Bool.not_false, reduceIte, Nat.reduceEqDiff, Nat.reduceAdd, Nat.reduceMul, Nat.reduceSub, Nat.reduceLeDiff, Nat.reduceLT]; rfl) (ho4 _ rfl) rfl rfl fun g3 hx3 => ?_
  have n3 := hx3.next
  have f3 := hx3.floor
  rw [e2] at n3
  have w3 := hx3.row.whole (n := 4) rfl
  rw [e2] at w3
  obtain ⟨g4, e4, hx4⟩ := allBlues_c (n := n) (h := g3) (F := F) (V := V) (S := S) (T := nilS) (by omega) (by omega) (ho4 _ rfl)
  have n4 := hx4.next
  have f4 := hx4.floor
  rw [e1, e2]
  simp only [rn0, rn1, rn2, rn3, rn4, rn5, rn6, rn7, rn8, if_true, if_false, Nat.le_refl, true_and, and_true, decide_true, decide_false, Bool.not_true, Bool.not_false, reduceIte, Nat.reduceEqDiff, Nat.reduceAdd, Nat.reduceMul, Nat.reduceSub, Nat.reduceLeDiff, Nat.reduceLT, w3, e4]
  refine W_range' rfl (by omega) (by simp only [rn0, rn1, rn2, rn3, rn4, rn5, rn6, rn7, rn8, if_true, if_false, Nat.le_refl, true_and, and_true, decide_true, decide_false, Bool.not_true, Bool.not_false, reduceIte, Nat.reduceEqDiff, Nat.reduceAdd, Nat.reduceMul, Nat.reduceSub, Nat.reduceLeDiff, Nat.reduceLT]; rfl) fun f0 hf0 ts hv h2 hl => ?_
  have f5 : f0 5 = .pointer (some ⟨h.next + 2, 0, none⟩) := by rw [hf0]; simp only [rn0, rn1, rn2, rn3, rn4, rn5, rn6, rn7, rn8, if_true, if_false, Nat.le_refl, true_and, and_true, decide_true, decide_false, Bool.not_true, Bool.not_false, reduceIte, Nat.reduceEqDiff, Nat.reduceAdd, Nat.reduceMul, Nat.reduceSub, Nat.reduceLeDiff, Nat.reduceLT]
  have f2' : f0 2 = .pointer (some ⟨h.next + 1, 0, none⟩) := by rw [hf0]; simp only [rn0, rn1, rn2, rn3, rn4, rn5, rn6, rn7, rn8, if_true, if_false, Nat.le_refl, true_and, and_true, decide_true, decide_false, Bool.not_true, Bool.not_false, reduceIte, Nat.reduceEqDiff, Nat.reduceAdd, Nat.reduceMul, Nat.reduceSub, Nat.reduceLeDiff, Nat.reduceLT]
  clear hf0
  have nl := hl.next
  have fl := hl.floor
  have en : g4.next = h.next + 4 := by omega
  have hbase : ∀ i, i < h.next → h2.get i = h.get i := fun i hi => by rw [hl.old i (by omega), hx4.old i (by omega), hx3.old i (by omega), old2 i hi]
  have hp2 : h2.get (h.next + 2) = some (.row [F, V, S, nilS] true 0) := by
    rw [hl.old _ (by omega), hx4.old _ (by omega)]; have := hx3.get; rw [e2] at this; exact this
  have hr2' : h2.get (h.next + 1) = some (.row [nilS, nilS, nilS, nilS] true 0) := by
    rw [hl.old _ (by omega), hx4.old _ (by omega), hx3.old _ (by omega)]; exact hr2
  have hpw : Row h2 (h.next + 3) [F, V, S, nilS] := by
    have := hx4.row.mono hl.sub
    rw [n3] at this
    exact this
  have hloop := hl.loop
  have hmark := hl.mark
  rw [en] at hloop hmark
  rw [en]
  rw [en] at hl
  generalize hr0 : loopO _ ts _ _ _ _ = r at hloop ⊢
  have r1 : r.state = .ready := by rw [← hr0]; rfl
  have r2 : View 28 r.tmps f0 := by rw [← hr0]; exact hv
  have r3 : r.params = #[17] := by rw [← hr0]; rfl
  have r4 : compCode Try.prog 28 r.assign = some ra78_0 := by rw [← hr0]; exact raok78_0
  have r5 : compCode Try.prog 28 r.body = some rb78_0 := by rw [← hr0]; exact rbok78_0
  have r6 : leftBy r .norm = r := by rw [← hr0]; rfl
  clear hr0 hl hv
  have hit := iter_c (truthStep Y) (JO h2 (h.next + 2) F V S) (g := h2) (pw := h.next + 3) (K := 110) (N0 := 10010) (n := n) (F := F) (V := V) (S := S) (T := nilS) (yv := .func (.yield (h.next + 5)) #[] #[]) (nf := Y.nf) (lo := Y.lo) (hi := Y.hi) [] z1 hF hpw (Cells.old hy.f hbase) rfl (by omega) (by omega) (by omega)
    (fun s g1 g' cs hj hs => by
      obtain ⟨tv, t1, t2⟩ := hj.tv
      exact ⟨fun i hi hne => by rw [hs.old i (by omega)]; exact hj.old i hi hne, ⟨tv, by rw [hs.old _ (by omega)]; exact t1, t2.keep hs.keep (by omega)⟩, by have := hj.up; have := hs.next; omega, by have := hj.len; have := hs.next; omega⟩)
    (fun g3 ho => ⟨fun i hi _ => ho.old i hi, ⟨nilS, by rw [ho.old _ (by omega)]; exact hp2, .nil⟩, by have := ho.next; omega, by simp⟩)
    (fun m g1 s c hm it hb hok hj hfg hr1 => by
      obtain ⟨m, rfl⟩ : ∃ p, m = p + 1 := ⟨m - 1, by omega⟩
      rw [call_yield]
      obtain ⟨tv, hp, gr⟩ := hj.tv
      have hup := hj.up
      have hloop1 : g1.get (h.next + 5) = some (.loop r) := by rw [hj.old _ (by omega) (by omega)]; exact hloop
      suffices key : ∃ e g', roundA Try.prog (call m) m (h.next + 5) [.agg ⟨arr c⟩] g1 = some (.bool (goesOn e), g') ∧ (e = .norm ∧ JO h2 (h.next + 2) F V S (truthStep Y s c).1 g' ∧ (∀ i, i < h2.next + 3 → i ≠ h.next + 2 → g'.get i = g1.get i) ∧ g'.floor = h2.floor ∧ g'.next ≤ g1.next + 110) by
        obtain ⟨e, g', k1, rfl, k2, k3, k4, k5⟩ := key
        have kb : ∀ i, i < h.next → g'.get i = h.get i := fun i hi => by rw [k3 i (by omega) (by omega), hj.old i (by omega) (by omega), hbase i hi]
        have krow : ∀ i cs, i < h2.next + 3 → i ≠ h.next + 2 → Row g1 i cs → Row g' i cs := fun i cs h1 h2 ⟨w, gr, e⟩ => ⟨w, gr, by rw [k3 i h1 h2]; exact e⟩
        refine ⟨g', k1, k2, ⟨krow _ _ (by omega) (by omega) it.w, krow _ _ (by omega) (by omega) it.y, krow _ _ (by omega) (by omega) it.c, Cells.old hy.f kb⟩, by rw [k3 _ (by omega) (by omega)]; exact hb, k4, k5⟩
      refine round_run (f := f0) hloop1 r1 r2 (by rw [r3]; rfl) (by omega) r4 r5 ?_
      have hset : setFr f0 r.params.toList [.agg ⟨arr c⟩] = upd f0 17 (.agg ⟨arr c⟩) := by rw [r3]; rfl
      rw [hset]
      simp only [rn0, rn1, rn2, rn3, rn4, rn5, rn6, rn7, rn8, if_true, if_false, Nat.le_refl, true_and, and_true, decide_true, decide_false, Bool.not_true, Bool.not_false, reduceIte, Nat.reduceEqDiff, Nat.reduceAdd, Nat.reduceMul, Nat.reduceSub, Nat.reduceLeDiff, Nat.reduceLT, ra78_0]
      refine step_new (vs := arr c) (by omega) (by omega) rfl (by simp only [rn0, rn1, rn2, rn3, rn4, rn5, rn6, rn7, rn8, if_true, if_false, Nat.le_refl, true_and, and_true, decide_true, decide_false, Bool.not_true, Bool.not_false, reduceIte, Nat.reduceEqDiff, Nat.reduceAdd, Nat.reduceMul, Nat.reduceSub, Nat.reduceLeDiff, Nat.reduceLT]; rfl) arr_one arr_len rfl fun g2 hx2 => ?_
      have n2 := hx2.next
      have f2 := hx2.floor
      simp only [rn0, rn1, rn2, rn3, rn4, rn5, rn6, rn7, rn8, if_true, if_false, Nat.le_refl, true_and, and_true, decide_true, decide_false, Bool.not_true, Bool.not_false, reduceIte, Nat.reduceEqDiff, Nat.reduceAdd, Nat.reduceMul, Nat.reduceSub, Nat.reduceLeDiff, Nat.reduceLT]
      refine ⟨by rw [hx2.old _ (by omega)]; exact hloop1, by omega, fun g3 hp3 => ?_⟩
      have n3 := hp3.next
      have f3 := hp3.floor
      have g3old : ∀ i, i < g1.next → i ≠ h.next + 5 → g3.get i = g1.get i := fun i hi hne => by rw [hp3.old i hne, hx2.old i hi]
      have g3b : ∀ i, i < h.next → g3.get i = h.get i := fun i hi => by rw [g3old i (by omega) (by omega), hj.old i (by omega) (by omega), hbase i hi]
      have hy3 := hy.mono (AHeap.subOf g3b)
      have hp3' : g3.get (h.next + 2) = some (.row [F, V, S, tv] true 0) := by rw [g3old _ (by omega) (by omega)]; exact hp
      have rp3 : Row g3 (h.next + 2) [F, V, S, tv] := ⟨_, _, hp3'⟩
      have rc3 : Row g3 g1.next (arr c) := by
        obtain ⟨w, gr, e⟩ := hx2.row
        exact ⟨w, gr, by rw [hp3.old _ (by omega)]; exact e⟩
      have q1 := rp3.whole (n := 4) rfl
      have q2 := rc3.whole arr_len
      have hrange : ∀ k, k < Y.nf → 0 ≤ c k ∧ c k ≤ 20 := fun k hk => by have := hok.1 k hk; have := hF k hk; omega
      have hist := isTruthW_c (n := m) (h := g3) (F := F) (V := V) (S := S) (T := tv) (Y := Y) (b := c) (by omega) (by omega) hy3.s z3 hG.s ⟨hy3.v, z1, hG.v, hrange⟩ (ho4 _ gr.one)
      by_cases ht : ∀ k, k < Y.ns → RightB Y c k
      · have hst : (truthStep Y s c).1 = s ++ [c] := by simp only [truthStep]; rw [if_pos ht]
        simp only [rn0, rn1, rn2, rn3, rn4, rn5, rn6, rn7, rn8, if_true, if_false, Nat.le_refl, true_and, and_true, decide_true, decide_false, Bool.not_true, Bool.not_false, reduceIte, Nat.reduceEqDiff, Nat.reduceAdd, Nat.reduceMul, Nat.reduceSub, Nat.reduceLeDiff, Nat.reduceLT, rb78_0, f5, q1, q2, hist, eq_true ht, rp3.ld, Nat.zero_add, List.getElem?_cons_zero, List.getElem?_cons_succ, sl_arr]
        refine step_slice (by omega) arr_one fun g4 hx4 => ?_
        have n4 := hx4.next
        have f4 := hx4.floor
        have k14 : Keep (h.next + 5) g1 g4 := ⟨fun i cs w gr hi hg => hx4.sub _ _ _ _ trivial (by rw [hp3.old i hi]; exact hx2.sub _ _ _ _ trivial hg), by omega, by omega⟩
        have gr4 : GrowC (h2.next + 3) g4 tv 5 s.length (fun k j => .int .i64 (((s ++ [c]).getD k fun _ => 0) j)) := (gr.keep k14 (by omega)).congr fun k j hk hj => by
          rw [List.getD_eq_getElem?_getD, List.getD_eq_getElem?_getD, List.getElem?_append_left hk]
        have hlen := hj.len
        obtain ⟨v', g5, e5, ev, gr5, hk5⟩ := gr4.append (bytes := 40) (cap := 1) (by omega) (by omega) (by omega) hx4.get arr_len arr_one (fun j hj => by
          rw [arr_get hj, List.getD_eq_getElem?_getD, List.getElem?_append_right (Nat.le_refl _)]; simp) (by simp [maxBytes, far] at *; omega) (by simp [maxBytes, far] at *; omega)
        have n5 := hk5.next
        have f5' := hk5.floor
        have hp5 : g5.get (h.next + 2) = some (.row [F, V, S, tv] true 0) := by
          rw [hk5.old _ (by omega) fun b k q e => by have := (gr4.block e).1; omega, hx4.old _ (by omega)]; exact hp3'
        simp only [rn0, rn1, rn2, rn3, rn4, rn5, rn6, rn7, rn8, if_true, if_false, Nat.le_refl, true_and, and_true, decide_true, decide_false, Bool.not_true, Bool.not_false, reduceIte, Nat.reduceEqDiff, Nat.reduceAdd, Nat.reduceMul, Nat.reduceSub, Nat.reduceLeDiff, Nat.reduceLT, f5, e5]
        refine step_store (b := h.next + 2) (off := 3) (vs := [v']) (by rfl) hp5 (by omega) (by omega) (by rw [ev]; rfl) (by rw [ev]; rfl) rfl (by simp) fun g6 hs6 => ?_
        have n6 := hs6.next
        have f6 := hs6.floor
        have g6old : ∀ i, i < h2.next + 3 → i ≠ h.next + 2 → i ≠ h.next + 5 → g6.get i = g1.get i := fun i hi h1 h3 => by
          rw [hs6.old i h1, hk5.old i (by omega) fun b k q e => by have := (gr4.block e).1; omega, hx4.old i (by omega), g3old i (by omega) h3]
        have hl6 : g6.get (h.next + 5) = some (.loop { r with state := .busy }) := by
          rw [hs6.old _ (by omega), hk5.old _ (by omega) fun b k q e => by have := (gr4.block e).1; omega, hx4.old _ (by omega), hp3.get]
        simp only [rn0, rn1, rn2, rn3, rn4, rn5, rn6, rn7, rn8, if_true, if_false, Nat.le_refl, true_and, and_true, decide_true, decide_false, Bool.not_true, Bool.not_false, reduceIte, Nat.reduceEqDiff, Nat.reduceAdd, Nat.reduceMul, Nat.reduceSub, Nat.reduceLeDiff, Nat.reduceLT]
        refine ⟨hl6, by omega, by omega, fun g7 hp7 => ⟨?_, ?_, by rw [hp7.floor]; omega, by rw [hp7.next]; omega⟩⟩
        · rw [hst]
          have hg6 := hs6.get
          refine ⟨fun i hi hne => ?_, ⟨v', ?_, ?_⟩, by rw [hp7.next]; omega, by rw [List.length_append, List.length_singleton, hp7.next]; omega⟩
          · by_cases e : i = h.next + 5
            · subst e; rw [hp7.get, r6, ← hj.old _ hi hne]; exact hloop1.symm
            · rw [hp7.old i e, g6old i (by omega) hne e]; exact hj.old i hi hne
          · rw [hp7.old _ (by omega), hg6]; simp [splice]
          · rw [List.length_append, List.length_singleton]
            exact (gr5.keep hs6.keep (by omega)).keep hp7.keep (by omega)
        · intro i hi hne
          by_cases e : i = h.next + 5
          · subst e; rw [hp7.get, r6]; exact hloop1.symm
          · rw [hp7.old i e, g6old i hi hne e]
      · have hst : (truthStep Y s c).1 = s := by simp only [truthStep]; rw [if_neg ht]
        simp only [rn0, rn1, rn2, rn3, rn4, rn5, rn6, rn7, rn8, if_true, if_false, Nat.le_refl, true_and, and_true, decide_true, decide_false, Bool.not_true, Bool.not_false, reduceIte, Nat.reduceEqDiff, Nat.reduceAdd, Nat.reduceMul, Nat.reduceSub, Nat.reduceLeDiff, Nat.reduceLT, rb78_0, f5, q1, q2, hist, eq_false ht]
        refine ⟨hp3.get, by omega, by omega, fun g7 hp7 => ⟨?_, ?_, by rw [hp7.floor]; omega, by rw [hp7.next]; omega⟩⟩
        · rw [hst]
          refine ⟨fun i hi hne => ?_, ⟨tv, ?_, ?_⟩, by rw [hp7.next]; omega, by have := hj.len; rw [hp7.next]; omega⟩
          · by_cases e : i = h.next + 5
            · subst e; rw [hp7.get, r6, ← hj.old _ hi hne]; exact hloop1.symm
            · rw [hp7.old i e, g3old i (by omega) e]; exact hj.old i hi hne
          · rw [hp7.old _ (by omega)]; exact hp3'
          · have k13 : Keep (h.next + 5) g1 g3 := ⟨fun i cs w gr hi hg => by rw [hp3.old i hi]; exact hx2.sub _ _ _ _ trivial hg, by omega, by omega⟩
            exact (gr.keep k13 (by omega)).keep hp7.keep (by omega)
        · intro i hi hne
          by_cases e : i = h.next + 5
          · subst e; rw [hp7.get, r6]; exact hloop1.symm
          · rw [hp7.old i e, hp3.old i e]
            by_cases hi1 : i < g1.next
            · rw [hx2.old i hi1]
            · omega)
    (by omega)
  obtain ⟨v5, g5, e5, j5, fl5, n5⟩ := hit
  rw [runL_truth] at j5
  simp only [List.nil_append] at j5
  change JO h2 (h.next + 2) F V S (truths Y) g5 at j5
  obtain ⟨tv, t1, t2⟩ := j5.tv
  have hup := j5.up
  refine ⟨v5, g5, .norm, by rw [n3]; exact e5, by omega, by omega, by rw [r6, j5.old _ (by omega) (by omega)]; exact hloop, fun g6 hp6 => ?_⟩
  have n6 := hp6.next
  have f6 := hp6.floor
  have t6 : g6.get (h.next + 2) = some (.row [F, V, S, tv] true 0) := by rw [hp6.old _ (by omega)]; exact t1
  have w6 := (show Row g6 (h.next + 2) [F, V, S, tv] from ⟨_, _, t6⟩).whole (n := 4) rfl
  have r6' : g6.get (h.next + 1) = some (.row [nilS, nilS, nilS, nilS] true 0) := by rw [hp6.old _ (by omega), j5.old _ (by omega) (by omega)]; exact hr2'
  have m6 : g6.get (h.next + 4) = some .deferred := by rw [hp6.old _ (by omega), j5.old _ (by omega) (by omega)]; exact hmark
  have ht2 := t2.one
  simp only [rn0, rn1, rn2, rn3, rn4, rn5, rn6, rn7, rn8, if_true, if_false, Nat.le_refl, true_and, and_true, decide_true, decide_false, Bool.not_true, Bool.not_false, reduceIte, Nat.reduceEqDiff, Nat.reduceAdd, Nat.reduceMul, Nat.reduceSub, Nat.reduceLeDiff, Nat.reduceLT, f5, f2', w6]
  refine step_store (vs := [F, V, S, tv]) rfl r6' (by omega) (by omega) rfl (ho4 _ ht2) rfl (by simp) fun g7 hs7 => ?_
  have n7 := hs7.next
  have f7 := hs7.floor
  simp only [rn0, rn1, rn2, rn3, rn4, rn5, rn6, rn7, rn8, if_true, if_false, Nat.le_refl, true_and, and_true, decide_true, decide_false, Bool.not_true, Bool.not_false, reduceIte, Nat.reduceEqDiff, Nat.reduceAdd, Nat.reduceMul, Nat.reduceSub, Nat.reduceLeDiff, Nat.reduceLT, f5, f2', w6]
  refine ret_mark (.inr rfl) (by rw [hs7.old _ (by omega)]; exact m6) (by omega) (by omega) fun g8 hp8 => ?_
  have n8 := hp8.next
  have f8 := hp8.floor
  have w8 : Row g8 (h.next + 1) [F, V, S, tv] := ⟨true, 0, by rw [hp8.old _ (by omega), hs7.get]; rfl⟩
  simp only [rn0, rn1, rn2, rn3, rn4, rn5, rn6, rn7, rn8, if_true, if_false, Nat.le_refl, true_and, and_true, decide_true, decide_false, Bool.not_true, Bool.not_false, reduceIte, Nat.reduceEqDiff, Nat.reduceAdd, Nat.reduceMul, Nat.reduceSub, Nat.reduceLeDiff, Nat.reduceLT, res_two, f2', w8.whole (n := 4) rfl]
  refine ⟨⟨AHeap.subOf fun i hi => ?_, by omega, by omega, by omega⟩, .inr ⟨hf, tv, rfl, ?_, t2.long⟩⟩
  · rw [hp8.old i (by omega), hs7.old i (by omega), hp6.old i (by omega), j5.old i (by omega) (by omega), hbase i hi]
  · exact (((t2.keep hp6.keep (by omega)).keep hs7.keep (by omega)).keep hp8.keep (by omega)).cells
end Go.Vm.Vat

namespace Go.Vm.Vat
open Go.Proofs
set_option linter.unusedSimpArgs false
set_option linter.unusedVariables false
set_option maxRecDepth 10000
variable {n : Nat} {h : AHeap}
/-- the same array -/
def SameB (a b : Nat → Int) : Prop := ∀ k, k ∈ List.range 5 → a k = b k
instance (a b : Nat → Int) : Decidable (SameB a b) := inferInstanceAs (Decidable (∀ k, k ∈ List.range 5 → a k = b k))
theorem x_binA {P : Program} {cf : CallF} {N : Nat} {f : Fr} {b : BinOp} {op : Op} {ty : TypeId} {x y : Operand} : sem P cf N f h (.bin b op ty x y) = binA P N b op ty (val f x) (val f y) f h := id rfl
theorem truths_ld {v : Value} {l : List (Nat → Int)} (ht : TruthsR h v l) {k : Nat} (hk : k < l.length) : loadAgg 5 h (ptrO v 5 k 0) = some (.agg ⟨arr (l.getD k fun _ => 0)⟩) := by
  rw [Cells.ldN ht hk (by omega) (by omega)]
  simp [arr, List.range_succ]
/-- the array is among them -/
def HasB (l : List (Nat → Int)) (c : Nat → Int) : Prop := ∃ k, k < l.length ∧ SameB c (l.getD k fun _ => 0)
noncomputable instance (l : List (Nat → Int)) (c : Nat → Int) : Decidable (HasB l c) := Classical.propDecidable _
theorem truths_len {Y : MY} (hf : faultN Y = 0) : (truths Y).length ≤ 2000 := by
  obtain ⟨hG, hsz⟩ := fault_size hf
  have h1 := enumB_len (lo := Y.lo) (hi := Y.hi) Y.nf 0 (fun _ => 0) fun k _ hk => (hG.f k (by omega)).2.1
  have h2 := sizeN_prod (lo := Y.lo) (hi := Y.hi) Y.nf 0
  simp only [Nat.zero_add, sizeN, Int.one_mul] at h2
  have h3 := List.length_filter_le (fun c => open Classical in decide (∀ k, k < Y.ns → RightB Y c k)) (enumB Y.lo Y.hi Y.nf 0 fun _ => 0)
  unfold truths
  omega
theorem truths_mem {Y : MY} {x : Nat → Int} : x ∈ truths Y ↔ ((∀ j, j < Y.nf → Y.lo j ≤ x j ∧ x j ≤ Y.hi j) ∧ ∀ j, Y.nf ≤ j → x j = 0) ∧ ∀ k, k < Y.ns → RightB Y x k := by
  unfold truths
  rw [List.mem_filter, enumB_ok]
  simp only [Nat.zero_le, true_implies, Nat.zero_add, Nat.not_lt_zero, false_or, decide_eq_true_eq]
end Go.Vm.Vat

namespace Go.Vm.Vat
open Go.Proofs
set_option linter.unusedSimpArgs false
set_option linter.unusedVariables false
set_option maxRecDepth 10000
variable {n : Nat} {h : AHeap}
theorem awake_c (hn : 1 ≤ n) : call n (.func (.func 24) #[] #[]) [] h = some (.bool true, h) := by
  obtain ⟨n, rfl⟩ : ∃ p, n = p + 1 := ⟨n - 1, by omega⟩
  exact call_known (by simp [K])
theorem u4 : Try.prog.underlying 4 = some .bool := by rfl
theorem Made.trans {a b c : AHeap} {j k : Nat} (h1 : Made a b j) (h2 : Made b c k) : Made a c (j + k) := ⟨h1.sub.trans h2.sub, by have := h1.next; have := h2.next; omega, by have := h1.up; have := h2.up; omega, by rw [h2.floor, h1.floor]⟩
theorem Made.of {a b : AHeap} {cs : List Value} {gr : Nat} (hn : New a b cs gr) : Made a b 1 := ⟨hn.sub, by rw [hn.next]; omega, by rw [hn.next]; omega, hn.floor⟩
def s3 : SCode := (.seq (.ops [⟨(some 2), none, .box (T 0)⟩, ⟨(some 4), none, .mov (.const (.bool false))⟩]) (.seq (.seq (.ops [⟨(some 10), none, .loadN 3 (T 2)⟩, ⟨(some 11), none, .call (.func 23) [(T 10)]⟩, ⟨(some 12), none, .not (T 11)⟩, ⟨(some 13), none, .mov (T 12)⟩, ⟨(some 14), (some (13, false)), .mov (T 1)⟩, ⟨(some 15), (some (13, false)), .len (T 14)⟩, ⟨(some 16), (some (13, false)), .int2 .gtr (T 15) (.const (.int .i64 (30)))⟩, ⟨(some 17), none, .pick (T 13) (.const (.bool true)) (T 16)⟩]) (.cond (T 17) (.seq (.ops [⟨(some 18), none, .call (.func 24) []⟩, ⟨(some 4), none, .mov (T 18)⟩]) .ret) .skip)) (.seq (.ops [⟨(some 20), none, .loadN 3 (T 2)⟩, ⟨(some 21), none, .call (.func 26) [(T 20)]⟩, ⟨(some 22), none, .mov (T 1)⟩, ⟨(some 23), none, .call (.func 27) [(T 22)]⟩, ⟨(some 24), none, .call (.func 25) [(T 21), (T 23)]⟩, ⟨(some 19), none, .mov (T 24)⟩, ⟨(some 25), none, .extract 0 (T 19)⟩, ⟨(some 26), none, .extract 1 (T 19)⟩, ⟨(some 5), none, .mov (T 25)⟩, ⟨(some 6), none, .mov (T 26)⟩]) (.seq (.ops [⟨(some 27), none, .loadN 3 (T 2)⟩, ⟨(some 28), none, .call (.func 26) [(T 27)]⟩, ⟨(some 29), none, .mov (T 1)⟩, ⟨(some 30), none, .call (.func 27) [(T 29)]⟩, ⟨(some 31), none, .call (.func 28) [(T 28), (T 30)]⟩, ⟨(some 7), none, .mov (T 31)⟩]) (.seq (.ops [⟨(some 32), none, .loadN 3 (T 2)⟩, ⟨(some 33), none, .call (.func 29) [(T 32)]⟩, ⟨(some 8), none, .mov (T 33)⟩]) (.seq (.seq (.ops [⟨(some 34), none, .loadN 3 (T 2)⟩, ⟨(some 35), none, .call (.func 26) [(T 34)]⟩, ⟨(some 36), none, .call (.func 30) [(T 35)]⟩, ⟨(some 37), none, .mov (T 8)⟩, ⟨(some 38), none, .int2 .neq (T 36) (T 37)⟩, ⟨(some 39), none, .mov (T 38)⟩, ⟨(some 40), (some (39, false)), .mov (T 7)⟩, ⟨(some 41), (some (39, false)), .mov (T 8)⟩, ⟨(some 42), (some (39, false)), .int2 .eql (T 41) (.const (.int .i64 (0)))⟩, ⟨(some 43), (some (39, false)), .mov (T 42)⟩, ⟨(some 44), (some (43, true)), .loadN 3 (T 2)⟩, ⟨(some 45), (some (43, true)), .mov (T 1)⟩, ⟨(some 46), (some (43, true)), .call (.func 31) [(T 44), (T 45)]⟩, ⟨(some 47), (some (39, false)), .pick (T 43) (T 46) (.const (.bool false))⟩, ⟨(some 48), (some (39, false)), .bin .neq (.binOp .neq 4 (T 40) (T 47) 4) 4 (T 40) (T 47)⟩, ⟨(some 49), none, .pick (T 39) (.const (.bool true)) (T 48)⟩]) (.cond (T 49) (.seq (.ops [⟨(some 4), none, .mov (.const (.bool false))⟩]) .ret) .skip)) (.seq (.seq (.ops [⟨(some 50), none, .mov (T 8)⟩, ⟨(some 51), none, .int2 .eql (T 50) (.const (.int .i64 (0)))⟩, ⟨(some 52), none, .mov (T 51)⟩, ⟨(some 53), (some (52, true)), .loadN 3 (T 2)⟩, ⟨(some 54), (some (52, true)), .mov (T 1)⟩, ⟨(some 55), (some (52, true)), .call (.func 32) [(T 53), (T 54)]⟩, ⟨(some 56), (some (52, true)), .not (T 55)⟩, ⟨(some 57), none, .pick (T 52) (T 56) (.const (.bool false))⟩]) (.cond (T 57) (.ops [⟨(some 8), none, .mov (.const (.int .i64 (2)))⟩]) .skip)) (.seq (.seq (.ops [⟨(some 58), none, .mov (T 8)⟩, ⟨(some 59), none, .int2 .neq (T 58) (.const (.int .i64 (0)))⟩]) (.cond (T 59) (.seq (.ops [⟨(some 60), none, .mov (T 6)⟩, ⟨(some 61), none, .mov (T 8)⟩, ⟨(some 62), none, .int2 .eql (T 60) (T 61)⟩, ⟨(some 63), none, .mov (T 62)⟩, ⟨(some 64), (some (63, true)), .mov (T 5)⟩, ⟨(some 65), (some (63, true)), .len (T 64)⟩, ⟨(some 66), (some (63, true)), .int2 .eql (T 65) (.const (.int .i64 (0)))⟩, ⟨(some 67), none, .pick (T 63) (T 66) (.const (.bool false))⟩, ⟨(some 68), none, .mov (T 67)⟩, ⟨(some 69), (some (68, true)), .call (.func 24) []⟩, ⟨(some 70), none, .pick (T 68) (T 69) (.const (.bool false))⟩, ⟨(some 4), none, .mov (T 70)⟩]) .ret) .skip)) (.seq (.seq (.ops [⟨(some 71), none, .mov (T 6)⟩, ⟨(some 72), none, .int2 .neq (T 71) (.const (.int .i64 (0)))⟩, ⟨(some 73), none, .mov (T 72)⟩, ⟨(some 74), (some (73, false)), .mov (T 5)⟩, ⟨(some 75), (some (73, false)), .len (T 74)⟩, ⟨(some 76), (some (73, false)), .fieldAddr 1 (T 2)⟩, ⟨(some 77), (some (73, false)), .load1 (T 76)⟩, ⟨(some 78), (some (73, false)), .len (T 77)⟩, ⟨(some 79), (some (73, false)), .int2 .neq (T 75) (T 78)⟩, ⟨(some 80), none, .pick (T 73) (.const (.bool true)) (T 79)⟩]) (.cond (T 80) (.seq (.ops [⟨(some 4), none, .mov (.const (.bool false))⟩]) .ret) .skip)) (.seq (.seq (.ops [⟨(some 9), none, .mov (.const (.int .i64 (0)))⟩]) (.block 0 (.loop (.seq (.seq (.ops [⟨(some 81), none, .mov (T 9)⟩, ⟨(some 82), none, .mov (T 5)⟩, ⟨(some 83), none, .len (T 82)⟩, ⟨(some 84), none, .int2 .lss (T 81) (T 83)⟩]) (.cond (T 84) .skip (.exit 0))) (.seq (.block 1 (.seq (.draw [⟨.free, ⟨(some 87), none, .mov (T 5)⟩⟩, ⟨.free, ⟨(some 88), none, .mov (T 9)⟩⟩, ⟨.free, ⟨(some 89), none, .idxSl 1 (T 87) (T 88)⟩⟩, ⟨.rd, ⟨(some 90), none, .load1 (T 89)⟩⟩, ⟨.rd1, ⟨(some 91), none, .loadN 3 (T 2)⟩⟩, ⟨.free, ⟨(some 92), none, .mov (T 1)⟩⟩, ⟨.free, ⟨(some 93), none, .mov (T 9)⟩⟩, ⟨.up, ⟨(some 94), none, .call (.func 33) [(T 91), (T 92), (T 93)]⟩⟩, ⟨.free, ⟨(some 95), none, .int2 .neq (T 90) (T 94)⟩⟩]) (.cond (T 95) (.seq (.ops [⟨(some 4), none, .mov (.const (.bool false))⟩]) .ret) .skip))) (.ops [⟨(some 85), none, .mov (T 9)⟩, ⟨(some 86), none, .int2 .add (T 85) (.const (.int .i64 (1)))⟩, ⟨(some 9), none, .mov (T 86)⟩])))))) (.seq (.ops [⟨(some 96), none, .call (.func 24) []⟩, ⟨(some 4), none, .mov (T 96)⟩]) .ret)))))))))))
end Go.Vm.Vat

namespace Go.Vm.Vat
open Go.Proofs
set_option linter.unusedSimpArgs false
set_option linter.unusedVariables false
set_option maxRecDepth 10000
variable {n : Nat} {h : AHeap}
/-! ### A yard that is handed in -/
theorem c3 : Try.prog.cellsOf 3 = 1 := by kernel_rfl
theorem c51 : Try.prog.cellsOf 51 = 2 := by kernel_rfl
theorem c95 : Try.prog.cellsOf 95 = 3 := by kernel_rfl
theorem c27 : Try.prog.cellsOf 27 = 1 := by kernel_rfl
theorem c26 : Try.prog.cellsOf 26 = 3 := by kernel_rfl
theorem c22 : Try.prog.cellsOf 22 = 1 := by kernel_rfl
theorem c23 : Try.prog.cellsOf 23 = 1 := by kernel_rfl
theorem c24 : Try.prog.cellsOf 24 = 1 := by kernel_rfl
theorem flat3 : FlatT Try.prog .i64 3 1 := flat_int (by rfl)
theorem flat51 : FlatT Try.prog .i64 51 2 := flat_struct2 (s0 := 1) (s1 := 1) Try.underlying51 c51 rfl rfl c3 c3 flat3 flat3
theorem flat95 : FlatT Try.prog .i64 95 3 := flat_struct2 (s0 := 1) (s1 := 2) Try.underlying95 c95 rfl rfl c3 c51 flat3 flat51
section
variable {H : Type} {enc : TypeId × Value → H} {w : World} {base : Nat} {sp : Nat → Bool} {held : Bool} {fuel : Nat} {cs : List Value} {x : DataW H × List MemPlace}
theorem flatS_ints (h : DataW.trod enc Try.prog w base sp held fuel 27 cs = some x) : ∃ v, cs = [v] ∧ FlatS w .i64 1 v := flat_slice Try.underlying27 c3 (by omega) flat3 h
/-- what is known of a yard that is handed in -/
structure YardW (w : World) (fv vv sv : Value) : Prop where
  f : FlatS w .i64 2 fv
  s : FlatS w .i64 3 sv
  v : vv = .slice none 0 0 ∨ ∃ a len cap, vv = .slice (some a) len cap ∧ len ≤ cap ∧ ∀ i, i < len → ∃ v, w.cell? (a.add i) = some v ∧ FlatS w .i64 1 v
theorem yardW_of (h : DataW.trod enc Try.prog w base sp held fuel 26 cs = some x) : ∃ fv vv sv, cs = [fv, vv, sv] ∧ YardW w fv vv sv := by
  obtain ⟨xs, n, _, _, hl, hx, hf⟩ := DataW.trod_struct Try.underlying26 h
  rw [c26] at hl
  obtain ⟨fv, vv, sv, rfl⟩ : ∃ a b c, cs = [a, b, c] := by
    match cs, hl with
    | [a, b, c], _ => exact ⟨a, b, c, rfl⟩
  have hx3 : xs.length = 3 := hx
  have h0 := hf 0 _ rfl
  have h1 := hf 1 _ rfl
  have h2 := hf 2 _ rfl
  rw [List.getElem?_eq_getElem (by omega)] at h0 h1 h2
  change DataW.trod enc Try.prog w base sp held n 22 (([fv, vv, sv].drop 0).take (Try.prog.cellsOf 22)) = _ at h0
  change DataW.trod enc Try.prog w base sp held n 23 (([fv, vv, sv].drop 1).take (Try.prog.cellsOf 23)) = _ at h1
  change DataW.trod enc Try.prog w base sp held n 24 (([fv, vv, sv].drop 2).take (Try.prog.cellsOf 24)) = _ at h2
  rw [c22] at h0
  rw [c23] at h1
  rw [c24] at h2
  obtain ⟨_, e0, k0⟩ := flat_slice Try.underlying22 c51 (by omega) flat51 h0
  obtain ⟨_, e2, k2⟩ := flat_slice Try.underlying24 c95 (by omega) flat95 h2
  cases e0
  cases e2
  refine ⟨fv, vv, sv, rfl, k0, k2, ?_⟩
  rcases DataW.trod_slice Try.underlying23 h1 with ⟨e, _⟩ | ⟨a, len, cap, elems, rest, n', _, e, _, _, hlc, _, hlen, hel, _, _⟩
  · cases e; exact .inl rfl
  · cases e
    refine .inr ⟨a, len, cap, rfl, hlc, fun i hi => ?_⟩
    have he := hel i hi
    rw [List.getElem?_eq_getElem (by omega), c27, Nat.mul_one] at he
    simp only [Option.bind_eq_some_iff] at he
    obtain ⟨l, hl1, hl2⟩ := he
    obtain ⟨_, h3, h4⟩ := World.cells?_some hl1
    obtain ⟨v, rfl, hv⟩ := flatS_ints hl2
    have := h4 0 (by omega)
    rw [Addr.add_zero] at this
    exact ⟨v, this, hv⟩
end
theorem flatS_len {w : World} {k : IntKind} {s : Nat} {v : Value} (hf : FlatS w k s v) : v = .slice none 0 0 ∨ ∃ a len cap, v = .slice (some a) len cap ∧ len ≤ cap := by
  rcases hf with h | ⟨a, len, cap, h1, h2, _⟩
  · exact .inl h
  · exact .inr ⟨a, len, cap, h1, h2⟩
/-- the lists are too long: nothing but their lengths is looked at -/
def Big (u0 u1 u2 : Value) : Prop := ∃ a0 n0 k0 a1 n1 k1 a2 n2 k2, u0 = .slice a0 n0 k0 ∧ u1 = .slice a1 n1 k1 ∧ u2 = .slice a2 n2 k2 ∧ (30 < n0 ∨ 30 < n1 ∨ 30 < n2)
theorem yard_load {w : World} {φ : Emb} (L : Loaded w φ h) (hn : h.next + 40 < far) {fv vv sv : Value} (hy : YardW w fv vv sv) :
    ∃ φ' h' u0 u1 u2, Step w φ h φ' h' 40 ∧ Stands φ' h' u0 fv ∧ Stands φ' h' u1 vv ∧ Stands φ' h' u2 sv ∧ (Big u0 u1 u2 ∨ ∃ Y, YardR h' u0 u1 u2 Y) := by
  have hv' : vv = .slice none 0 0 ∨ ∃ a len cap, vv = .slice (some a) len cap ∧ len ≤ cap := by
    rcases hy.v with h | ⟨a, len, cap, h1, h2, _⟩
    · exact .inl h
    · exact .inr ⟨a, len, cap, h1, h2⟩
  by_cases hb : 30 < vlen fv ∨ 30 < vlen vv ∨ 30 < vlen sv
  · obtain ⟨φ1, h1, u0, s1, t1, a0, k0, e0⟩ := L.gap (by omega) (flatS_len hy.f)
    have n1 := s1.next
    obtain ⟨φ2, h2, u1, s2, t2, a1, k1, e1⟩ := s1.ld.gap (by omega) hv'
    have n2 := s2.next
    obtain ⟨φ3, h3, u2, s3, t3, a2, k2, e2⟩ := s2.ld.gap (by omega) (flatS_len hy.s)
    have n3 := s3.next
    have st := (s1.trans s2).trans s3
    exact ⟨φ3, h3, u0, u1, u2, ⟨st.ld, st.sub, st.up, by omega, st.floor, st.agree⟩, (t1.step s2).step s3, t2.step s3, t3, .inl ⟨a0, _, k0, a1, _, k1, a2, _, k2, e0, e1, e2, hb⟩⟩
  · obtain ⟨φ1, h1, u0, s1, t1, c0, r0⟩ := L.flat (by omega) (by omega) hy.f
    have n1 := s1.next
    obtain ⟨φ2, h2, u2, s2, t2, c2, r2⟩ := s1.ld.flat (by omega) (by omega) hy.s
    have n2 := s2.next
    have hF : ∀ {g : AHeap}, Sub All h1 g → Ranges g u0 (vlen fv) (fun k => c0 k 0) (fun k => c0 k 1) := fun hs => by
      obtain ⟨a, cap, e, e1, e2⟩ := r0.mono hs
      refine ⟨a, cap, e, e1, e2.imp id fun ⟨b, o, cs, wr, g, q1, q2, q3⟩ => ⟨b, o, cs, wr, g, q1, q2, fun k j hk hj => ?_⟩⟩
      rw [q3 k j hk hj]
      rcases j with _ | _ | j
      · rfl
      · rfl
      · omega
    have hS : ∀ {g : AHeap}, Sub All h2 g → Samps g u2 (vlen sv) (fun k => c2 k 0) (fun k => c2 k 1) (fun k => c2 k 2) := fun hs => by
      obtain ⟨a, cap, e, e1, e2⟩ := r2.mono hs
      refine ⟨a, cap, e, e1, e2.imp id fun ⟨b, o, cs, wr, g, q1, q2, q3⟩ => ⟨b, o, cs, wr, g, q1, q2, fun k j hk hj => ?_⟩⟩
      rw [q3 k j hk hj]
      rcases j with _ | _ | _ | j
      · rfl
      · rfl
      · rfl
      · omega
    rcases hy.v with rfl | ⟨a, len, cap, rfl, hlc, hcell⟩
    · have st := s1.trans s2
      refine ⟨φ2, h2, u0, .slice none 0 0, u2, ⟨st.ld, st.sub, st.up, by omega, st.floor, st.agree⟩, t1.step s2, ⟨by simp [mapV], by simp [okV], rfl⟩, t2, .inr ⟨⟨vlen fv, _, _, 0, fun _ => 0, fun _ _ => 0, vlen sv, _, _, _⟩, hF s2.sub, ⟨fun _ => nilS, ⟨none, 0, rfl, fun x e => (by cases e), .inl rfl⟩, fun k hk => by simp at hk⟩, hS Sub.refl⟩⟩
    · have hlen : len ≤ 30 := by simp only [vlen] at hb; omega
      let vs : List Value := (List.range len).map fun i => (w.cell? (a.add i)).getD undef
      have hvs : ∀ i, i < len → ∃ v, vs[i]? = some v ∧ w.cell? (a.add i) = some v ∧ FlatS w .i64 1 v := fun i hi => by
        obtain ⟨v, e1, e2⟩ := hcell i hi
        exact ⟨v, by show ((List.range len).map _)[i]? = _; rw [List.getElem?_map, List.getElem?_range hi]; simp [e1], e1, e2⟩
      have hvl : vs.length = len := by show ((List.range len).map _).length = _; simp
      obtain ⟨φ3, h3, us, s3, l3, r3⟩ := Loaded.many (w := w) (k := .i64) (s := 1) (by omega) vs s2.ld (by omega) fun v hv => by
        obtain ⟨i, hi, rfl⟩ := List.getElem_of_mem hv
        obtain ⟨v, e1, _, e2⟩ := hvs i (by omega)
        rw [List.getElem?_eq_getElem hi] at e1
        cases e1
        exact e2
      have n3 := s3.next
      have hu : ∀ i, i < len → ∃ u v, us[i]? = some u ∧ w.cell? (a.add i) = some v ∧ Stands φ3 h3 u v ∧ ∃ c : Nat → Nat → Int, Cells h3 u 1 (vlen v) fun i j => .int .i64 (c i j) := fun i hi => by
        obtain ⟨v, e1, e2, _⟩ := hvs i hi
        obtain ⟨e3, e4⟩ := r3 i us[i] v (List.getElem?_eq_getElem (by omega)) e1
        exact ⟨us[i], v, List.getElem?_eq_getElem (by omega), e2, e3, e4⟩
      obtain ⟨φ4, h4, u1, q1, q2, q3, q4, q5, q6, q7, q8, q9⟩ := s3.ld.slice (by omega) (a := a) (s := 1) hlc (by omega) us (by rw [l3, hvl, Nat.mul_one]) (fun i u hu' => by
        have hi : i < len := by have := (List.getElem?_eq_some_iff.1 hu').1; omega
        obtain ⟨u', v, e1, e2, e3, _⟩ := hu i hi
        rw [e1] at hu'
        cases hu'
        exact ⟨e3.ok, e3.one, by rw [e2, e3.map]⟩) (c := fun k _ => us.getD k undef) (fun k j hk hj => by
        obtain ⟨u', v, e1, _⟩ := hu k hk
        have : j = 0 := by omega
        subst this
        rw [Nat.mul_one, Nat.add_zero, e1, List.getD_eq_getElem?_getD, e1]; rfl)
      have s4 : Step w φ3 h3 φ4 h4 1 := ⟨q1, q2, by omega, by omega, q4, q5⟩
      have st := ((s1.trans s2).trans s3).trans s4
      have hcnt : ∃ (cnt : Nat → Nat) (q : Nat → Nat → Int), ∀ k, k < len → Ints h4 (us.getD k undef) (cnt k) (q k) := by
        have : ∀ k, ∃ (m : Nat) (q : Nat → Int), k < len → Ints h4 (us.getD k undef) m q := fun k => by
          by_cases hk : k < len
          · obtain ⟨u', v, e1, _, _, c, e4⟩ := hu k hk
            refine ⟨vlen v, fun i => c i 0, fun _ => ?_⟩
            have e : us.getD k undef = u' := by rw [List.getD_eq_getElem?_getD, e1]; rfl
            rw [e]
            obtain ⟨a, cap, f1, f2, f3⟩ := e4.mono q2
            refine ⟨a, cap, f1, f2, f3.imp id fun ⟨b, o, cs, wr, g, k1, k2, k3⟩ => ⟨b, o, cs, wr, g, k1, k2, fun i j hi hj => ?_⟩⟩
            have : j = 0 := by omega
            subst this
            exact k3 i 0 hi hj
          · exact ⟨0, fun _ => 0, fun h => absurd h hk⟩
        exact ⟨fun k => (this k).choose, fun k => (this k).choose_spec.choose, fun k hk => (this k).choose_spec.choose_spec hk⟩
      obtain ⟨cnt, q, hq⟩ := hcnt
      exact ⟨φ4, h4, u0, u1, u2, ⟨st.ld, st.sub, st.up, by have := s4.next; omega, st.floor, st.agree⟩, ((t1.step s2).step s3).step s4, ⟨q6, q7, q8⟩, (t2.step s3).step s4,
        .inr ⟨⟨vlen fv, _, _, len, cnt, q, vlen sv, _, _, _⟩, hF ((s2.sub.trans s3.sub).trans s4.sub), ⟨fun k => us.getD k undef, q9, hq⟩, hS (s3.sub.trans s4.sub)⟩⟩
end Go.Vm.Vat

namespace Go.Vm.Awake
/-! the calls that the examples make, as they were run -/
/-- functions that yield plain values and write nothing -/
def quiet : List Nat := []
def e0 : Entry :=
  { next := 10, f := 25, args := [(.agg ⟨[(.slice (some ⟨4, 0, none⟩) 3 3), (.slice (some ⟨8, 0, none⟩) 3 3), (.slice none 0 0)]⟩), (.slice (some ⟨9, 0, none⟩) 3 3)], objs := [(9, .row [(.int Go.IntKind.i64 (4)), (.int Go.IntKind.i64 (2)), (.int Go.IntKind.i64 (1))] true 0), (7, .row [(.int Go.IntKind.i64 (2)), (.int Go.IntKind.i64 (2)), (.int Go.IntKind.i64 (1))] true 0), (6, .row [(.int Go.IntKind.i64 (1)), (.int Go.IntKind.i64 (3)), (.int Go.IntKind.i64 (0))] true 0), (5, .row [(.int Go.IntKind.i64 (4)), (.int Go.IntKind.i64 (0)), (.int Go.IntKind.i64 (2))] true 0), (8, .row [(.slice (some ⟨5, 0, none⟩) 3 3), (.slice (some ⟨6, 0, none⟩) 3 3), (.slice (some ⟨7, 0, none⟩) 3 3)] true 0), (4, .row [(.int Go.IntKind.i64 (3)), (.int Go.IntKind.i64 (5)), (.int Go.IntKind.i64 (2)), (.int Go.IntKind.i64 (3)), (.int Go.IntKind.i64 (0)), (.int Go.IntKind.i64 (1))] true 0)], val := (.tuple ⟨[(.slice (some ⟨39, 0, none⟩) 3 3), (.int Go.IntKind.i64 (0))]⟩), next' := 46, objs' := [(39, .row [(.int Go.IntKind.i64 (18)), (.int Go.IntKind.i64 (10)), (.int Go.IntKind.i64 (13))] true 0)] }
def e1 : Entry :=
  { next := 58, f := 34, args := [(.agg ⟨[(.slice (some ⟨53, 0, none⟩) 3 3), (.slice (some ⟨57, 0, none⟩) 3 3), (.slice (some ⟨48, 0, none⟩) 1 1)]⟩)], objs := [(48, .row [(.int Go.IntKind.i64 (0)), (.int Go.IntKind.i64 (18)), (.int Go.IntKind.i64 (18))] true 0), (56, .row [(.int Go.IntKind.i64 (2)), (.int Go.IntKind.i64 (2)), (.int Go.IntKind.i64 (1))] true 0), (55, .row [(.int Go.IntKind.i64 (1)), (.int Go.IntKind.i64 (3)), (.int Go.IntKind.i64 (0))] true 0), (54, .row [(.int Go.IntKind.i64 (4)), (.int Go.IntKind.i64 (0)), (.int Go.IntKind.i64 (2))] true 0), (57, .row [(.slice (some ⟨54, 0, none⟩) 3 3), (.slice (some ⟨55, 0, none⟩) 3 3), (.slice (some ⟨56, 0, none⟩) 3 3)] true 0), (53, .row [(.int Go.IntKind.i64 (3)), (.int Go.IntKind.i64 (5)), (.int Go.IntKind.i64 (2)), (.int Go.IntKind.i64 (3)), (.int Go.IntKind.i64 (0)), (.int Go.IntKind.i64 (1))] true 0)], val := (.tuple ⟨[(.slice (some ⟨233, 0, none⟩) 3 3), (.int Go.IntKind.i64 (0))]⟩), next' := 255, objs' := [(233, .row [(.int Go.IntKind.i64 (18)), (.int Go.IntKind.i64 (18)), (.int Go.IntKind.i64 (10)), (.int Go.IntKind.i64 (13)), (.int Go.IntKind.i64 (13)), (.int Go.IntKind.i64 (15))] true 0)] }
def e2 : Entry :=
  { next := 267, f := 40, args := [(.agg ⟨[(.slice (some ⟨262, 0, none⟩) 3 3), (.slice (some ⟨266, 0, none⟩) 3 3), (.slice (some ⟨257, 0, none⟩) 1 1)]⟩), (.int Go.IntKind.i64 (2)), (.int Go.IntKind.i64 (1))], objs := [(257, .row [(.int Go.IntKind.i64 (0)), (.int Go.IntKind.i64 (18)), (.int Go.IntKind.i64 (18))] true 0), (265, .row [(.int Go.IntKind.i64 (2)), (.int Go.IntKind.i64 (2)), (.int Go.IntKind.i64 (1))] true 0), (264, .row [(.int Go.IntKind.i64 (1)), (.int Go.IntKind.i64 (3)), (.int Go.IntKind.i64 (0))] true 0), (263, .row [(.int Go.IntKind.i64 (4)), (.int Go.IntKind.i64 (0)), (.int Go.IntKind.i64 (2))] true 0), (266, .row [(.slice (some ⟨263, 0, none⟩) 3 3), (.slice (some ⟨264, 0, none⟩) 3 3), (.slice (some ⟨265, 0, none⟩) 3 3)] true 0), (262, .row [(.int Go.IntKind.i64 (3)), (.int Go.IntKind.i64 (5)), (.int Go.IntKind.i64 (2)), (.int Go.IntKind.i64 (3)), (.int Go.IntKind.i64 (0)), (.int Go.IntKind.i64 (1))] true 0)], val := (.tuple ⟨[(.int Go.IntKind.i64 (1)), (.int Go.IntKind.i64 (0))]⟩), next' := 449, objs' := [] }
def e3 : Entry :=
  { next := 458, f := 41, args := [(.agg ⟨[(.slice (some ⟨453, 0, none⟩) 3 3), (.slice (some ⟨457, 0, none⟩) 3 3), (.slice none 0 0)]⟩)], objs := [(456, .row [(.int Go.IntKind.i64 (2)), (.int Go.IntKind.i64 (2)), (.int Go.IntKind.i64 (1))] true 0), (455, .row [(.int Go.IntKind.i64 (1)), (.int Go.IntKind.i64 (3)), (.int Go.IntKind.i64 (0))] true 0), (454, .row [(.int Go.IntKind.i64 (4)), (.int Go.IntKind.i64 (0)), (.int Go.IntKind.i64 (2))] true 0), (457, .row [(.slice (some ⟨454, 0, none⟩) 3 3), (.slice (some ⟨455, 0, none⟩) 3 3), (.slice (some ⟨456, 0, none⟩) 3 3)] true 0), (453, .row [(.int Go.IntKind.i64 (3)), (.int Go.IntKind.i64 (5)), (.int Go.IntKind.i64 (2)), (.int Go.IntKind.i64 (3)), (.int Go.IntKind.i64 (0)), (.int Go.IntKind.i64 (1))] true 0)], val := (.tuple ⟨[(.int Go.IntKind.i64 (0)), (.int Go.IntKind.i64 (2)), (.int Go.IntKind.i64 (0))]⟩), next' := 673, objs' := [] }
def e4 : Entry :=
  { next := 682, f := 46, args := [(.agg ⟨[(.slice (some ⟨677, 0, none⟩) 3 3), (.slice (some ⟨681, 0, none⟩) 3 3), (.slice none 0 0)]⟩), (.int Go.IntKind.i64 (1)), (.int Go.IntKind.i64 (1)), (.int Go.IntKind.i64 (15))], objs := [(680, .row [(.int Go.IntKind.i64 (2)), (.int Go.IntKind.i64 (2)), (.int Go.IntKind.i64 (1))] true 0), (679, .row [(.int Go.IntKind.i64 (1)), (.int Go.IntKind.i64 (3)), (.int Go.IntKind.i64 (0))] true 0), (678, .row [(.int Go.IntKind.i64 (4)), (.int Go.IntKind.i64 (0)), (.int Go.IntKind.i64 (2))] true 0), (681, .row [(.slice (some ⟨678, 0, none⟩) 3 3), (.slice (some ⟨679, 0, none⟩) 3 3), (.slice (some ⟨680, 0, none⟩) 3 3)] true 0), (677, .row [(.int Go.IntKind.i64 (3)), (.int Go.IntKind.i64 (5)), (.int Go.IntKind.i64 (2)), (.int Go.IntKind.i64 (3)), (.int Go.IntKind.i64 (0)), (.int Go.IntKind.i64 (1))] true 0)], val := (.tuple ⟨[(.int Go.IntKind.i64 (3)), (.int Go.IntKind.i64 (0))]⟩), next' := 1021, objs' := [] }
def e5 : Entry :=
  { next := 1030, f := 48, args := [(.agg ⟨[(.slice (some ⟨1025, 0, none⟩) 3 3), (.slice (some ⟨1029, 0, none⟩) 3 3), (.slice none 0 0)]⟩), (.int Go.IntKind.i64 (0)), (.int Go.IntKind.i64 (4))], objs := [(1028, .row [(.int Go.IntKind.i64 (2)), (.int Go.IntKind.i64 (2)), (.int Go.IntKind.i64 (1))] true 0), (1027, .row [(.int Go.IntKind.i64 (1)), (.int Go.IntKind.i64 (3)), (.int Go.IntKind.i64 (0))] true 0), (1026, .row [(.int Go.IntKind.i64 (4)), (.int Go.IntKind.i64 (0)), (.int Go.IntKind.i64 (2))] true 0), (1029, .row [(.slice (some ⟨1026, 0, none⟩) 3 3), (.slice (some ⟨1027, 0, none⟩) 3 3), (.slice (some ⟨1028, 0, none⟩) 3 3)] true 0), (1025, .row [(.int Go.IntKind.i64 (3)), (.int Go.IntKind.i64 (5)), (.int Go.IntKind.i64 (2)), (.int Go.IntKind.i64 (3)), (.int Go.IntKind.i64 (0)), (.int Go.IntKind.i64 (1))] true 0)], val := (.tuple ⟨[(.slice (some ⟨2123, 0, none⟩) 3 4611686018427387904), (.int Go.IntKind.i64 (13)), (.int Go.IntKind.i64 (0))]⟩), next' := 2124, objs' := [(2123, .row [(.int Go.IntKind.i64 (1)), (.int Go.IntKind.i64 (2)), (.int Go.IntKind.i64 (1))] true 1)] }
def e6 : Entry :=
  { next := 2141, f := 53, args := [(.agg ⟨[(.slice (some ⟨2136, 0, none⟩) 3 3), (.slice (some ⟨2140, 0, none⟩) 3 3), (.slice (some ⟨2131, 0, none⟩) 3 3)]⟩)], objs := [(2131, .row [(.int Go.IntKind.i64 (0)), (.int Go.IntKind.i64 (18)), (.int Go.IntKind.i64 (18)), (.int Go.IntKind.i64 (2)), (.int Go.IntKind.i64 (13)), (.int Go.IntKind.i64 (13)), (.int Go.IntKind.i64 (1)), (.int Go.IntKind.i64 (13)), (.int Go.IntKind.i64 (13))] true 0), (2139, .row [(.int Go.IntKind.i64 (2)), (.int Go.IntKind.i64 (2)), (.int Go.IntKind.i64 (1))] true 0), (2138, .row [(.int Go.IntKind.i64 (1)), (.int Go.IntKind.i64 (3)), (.int Go.IntKind.i64 (0))] true 0), (2137, .row [(.int Go.IntKind.i64 (4)), (.int Go.IntKind.i64 (0)), (.int Go.IntKind.i64 (2))] true 0), (2140, .row [(.slice (some ⟨2137, 0, none⟩) 3 3), (.slice (some ⟨2138, 0, none⟩) 3 3), (.slice (some ⟨2139, 0, none⟩) 3 3)] true 0), (2136, .row [(.int Go.IntKind.i64 (3)), (.int Go.IntKind.i64 (5)), (.int Go.IntKind.i64 (2)), (.int Go.IntKind.i64 (3)), (.int Go.IntKind.i64 (0)), (.int Go.IntKind.i64 (1))] true 0)], val := (.tuple ⟨[(.int Go.IntKind.i64 (2)), (.int Go.IntKind.i64 (0))]⟩), next' := 2533, objs' := [] }
def e7 : Entry :=
  { next := 2550, f := 54, args := [(.agg ⟨[(.slice (some ⟨2545, 0, none⟩) 3 3), (.slice (some ⟨2549, 0, none⟩) 3 3), (.slice (some ⟨2540, 0, none⟩) 3 3)]⟩)], objs := [(2540, .row [(.int Go.IntKind.i64 (0)), (.int Go.IntKind.i64 (18)), (.int Go.IntKind.i64 (18)), (.int Go.IntKind.i64 (2)), (.int Go.IntKind.i64 (13)), (.int Go.IntKind.i64 (13)), (.int Go.IntKind.i64 (1)), (.int Go.IntKind.i64 (13)), (.int Go.IntKind.i64 (13))] true 0), (2548, .row [(.int Go.IntKind.i64 (2)), (.int Go.IntKind.i64 (2)), (.int Go.IntKind.i64 (1))] true 0), (2547, .row [(.int Go.IntKind.i64 (1)), (.int Go.IntKind.i64 (3)), (.int Go.IntKind.i64 (0))] true 0), (2546, .row [(.int Go.IntKind.i64 (4)), (.int Go.IntKind.i64 (0)), (.int Go.IntKind.i64 (2))] true 0), (2549, .row [(.slice (some ⟨2546, 0, none⟩) 3 3), (.slice (some ⟨2547, 0, none⟩) 3 3), (.slice (some ⟨2548, 0, none⟩) 3 3)] true 0), (2545, .row [(.int Go.IntKind.i64 (3)), (.int Go.IntKind.i64 (5)), (.int Go.IntKind.i64 (2)), (.int Go.IntKind.i64 (3)), (.int Go.IntKind.i64 (0)), (.int Go.IntKind.i64 (1))] true 0)], val := (.tuple ⟨[(.slice (some ⟨2813, 0, none⟩) 1 4611686018427387904), (.int Go.IntKind.i64 (0))]⟩), next' := 2941, objs' := [(2813, .row [(.int Go.IntKind.i64 (1))] true 1)] }
def tab : List Entry := [e0, e1, e2, e3, e4, e5, e6, e7]
end Go.Vm.Awake

namespace Go.Vm.Awake
open Go.Proofs
set_option maxRecDepth 100000
def isTrue (x : Option (Value × AHeap)) : Bool := match x with
  | some (.bool true, _) => true
  | _ => false
theorem main_ok : isTrue (acallO Try.prog quiet tab 1000 (.func (.func 24) #[] #[]) [] AHeap.empty) = true := by kernel_rfl
end Go.Vm.Awake

namespace Go.Vm.Awake
open Go.Proofs
set_option maxRecDepth 100000
theorem ok5 : entryOk (acall Try.prog quiet 1000) e5 = true := by kernel_rfl
end Go.Vm.Awake

namespace Go.Vm.Awake
open Go.Proofs
set_option maxRecDepth 100000
theorem ok3 : entryOk (acall Try.prog quiet 1000) e3 = true := by kernel_rfl
theorem ok4 : entryOk (acall Try.prog quiet 1000) e4 = true := by kernel_rfl
theorem ok7 : entryOk (acall Try.prog quiet 1000) e7 = true := by kernel_rfl
end Go.Vm.Awake

namespace Go.Vm.Awake
open Go.Proofs
set_option maxRecDepth 100000
theorem ok0 : entryOk (acall Try.prog quiet 1000) e0 = true := by kernel_rfl
theorem ok1 : entryOk (acall Try.prog quiet 1000) e1 = true := by kernel_rfl
theorem ok2 : entryOk (acall Try.prog quiet 1000) e2 = true := by kernel_rfl
theorem ok6 : entryOk (acall Try.prog quiet 1000) e6 = true := by kernel_rfl
end Go.Vm.Awake

namespace Go.Vm.Vat
open Go.Proofs Go.ChangeShapes Go.WideShapes Go.ChangeAt Go.RowKit
set_option linter.unusedSimpArgs false
set_option linter.unusedVariables false
set_option maxRecDepth 10000
variable {n : Nat} {h : AHeap}
/-! ### The calls of this program are sound -/
theorem own : ownKnob Try.prog.godebug = none := by kernel_rfl
theorem mixedOn : Try.prog.follows .mixedOrders = true := by kernel_rfl
theorem namesAll : (Try.prog.funcs.toList.all fun fn => !(fn.name == "runtime.NumGoroutine")) = true := by kernel_rfl
theorem namesFine : NamesFine Try.prog := by
  intro f fn hf
  have h := List.all_eq_true.1 namesAll fn (Array.mem_toList_iff.2 (Array.mem_of_getElem? hf))
  simpa using h
theorem tabOk : ∀ E ∈ Awake.tab, ∃ cf, SoundCF Try.prog cf ∧ entryOk cf E = true := by
  have hs := vm_sound namesFine mixedOn Awake.quiet 1000
  intro E hE
  refine ⟨_, hs, ?_⟩
  revert E
  simp only [Awake.tab, List.forall_mem_cons, List.not_mem_nil, false_implies, implies_true, and_true]
  exact ⟨Awake.ok0, Awake.ok1, Awake.ok2, Awake.ok3, Awake.ok4, Awake.ok5, Awake.ok6, Awake.ok7⟩
theorem kOk : KOk Try.prog K := by
  intro f v hK
  unfold K at hK
  split at hK
  · rename_i e
    subst e
    cases hK
    refine ⟨rfl, acallO Try.prog Awake.quiet Awake.tab 1000, ?_⟩
    have hm := Awake.main_ok
    cases hr : acallO Try.prog Awake.quiet Awake.tab 1000 (.func (.func 24) #[] #[]) [] AHeap.empty with
    | none => rw [hr] at hm; cases hm
    | some vh =>
      obtain ⟨v, h'⟩ := vh
      rw [hr] at hm
      unfold Awake.isTrue at hm
      split at hm
      · rename_i e
        cases e
        exact ⟨h', acallO_sound namesFine mixedOn Awake.quiet tabOk 1000, rfl⟩
      · cases hm
  · cases hK
theorem sound (n : Nat) : SoundCF Try.prog (call n) := pcall_sound namesFine mixedOn kOk n
/-! ### The statements' arguments -/
theorem laidOk : laidOutB Try.prog = true := by kernel_rfl
theorem mapsOk : mapsRowed Try.prog = true := by kernel_rfl
theorem slicesOk : ((List.range Try.prog.types.size).all fun t => match Try.prog.underlying t with | some (.slice e) => decide (0 < Try.prog.cellsOf e) | _ => true) = true := by kernel_rfl
theorem kids : Kids Try.prog (· < Try.prog.types.size) := kids_rows laidOk mapsOk
theorem tsize : 96 < Try.prog.types.size := of_decide_eq_true (by kernel_rfl)
theorem cell_slice {P : Program} {w : World} {r : Reach} {b : Nat} {t e : TypeId} {v x : Value} (ht : P.underlying t = some (.slice e)) (ho : Value.okWide P w r b t v) (hc : v.cells.toList = [x]) : v = x := by
  unfold Value.okWide at ho
  rw [ht] at ho
  cases v <;> simp_all [Value.cells, Cell.okWide, Cell.ok]
theorem cell_int {P : Program} {w : World} {r : Reach} {b : Nat} {t : TypeId} {k : IntKind} {v x : Value} (ht : P.underlying t = some (.int k)) (ho : Value.okWide P w r b t v) (hc : v.cells.toList = [x]) : v = x := by
  unfold Value.okWide at ho
  rw [ht] at ho
  cases v <;> simp_all [Value.cells, Cell.okWide, Cell.ok]
theorem agg_struct {P : Program} {w : World} {r : Reach} {b : Nat} {t : TypeId} {fs : Array Field} {v : Value} {cs : List Value} (ht : P.underlying t = some (.struct fs)) (ho : Value.okWide P w r b t v) (hc : v.cells.toList = cs) : v = .agg ⟨cs⟩ := by
  unfold Value.okWide at ho
  rw [ht] at ho
  obtain ⟨cs', rfl, _⟩ := ho
  subst hc
  rfl
/-- what each law does first, where its yard is too long -/
theorem thin_big (hn : 1 ≤ n) (hr : h.next + 1 < far) {u0 u1 u2 : Value} (hb : Big u0 u1 u2) : call n (.func (.func 23) #[] #[]) [.agg ⟨[u0, u1, u2]⟩] h = some (.bool false, h) := by
  obtain ⟨n, rfl⟩ : ∃ p, n = p + 1 := ⟨n - 1, by omega⟩
  obtain ⟨a0, n0, k0, a1, n1, k1, a2, n2, k2, rfl, rfl, rfl, hbig⟩ := hb
  refine call_plain0 fok23 rfl rfl (by simp) rfl ?_
  have hr : h.shutAll.next + 1 < far := hr
  generalize h.shutAll = h at hr
  simp only [s23, W_seq, W_ops]
  refine ops_box (cs := [.slice a0 n0 k0, .slice a1 n1 k1, .slice a2 n2 k2]) (by omega) rfl rfl fun h1 hx => ?_
  by_cases c1 : 30 < n0
  · have c1' : (30 : Int) < n0 := by omega
    simp only [rn0, rn1, rn2, rn3, rn4, rn5, rn6, rn7, rn8, if_true, if_false, Nat.le_refl, true_and, and_true, decide_true, decide_false, Bool.not_true, Bool.not_false, reduceIte, Nat.reduceEqDiff, Nat.reduceAdd, Nat.reduceMul, Nat.reduceSub, Nat.reduceLeDiff, Nat.reduceLT, hx.ld, Nat.zero_add, List.getElem?_cons_zero, List.getElem?_cons_succ, len_slice, c1']
  have c1' : ¬ (30 : Int) < n0 := by omega
  by_cases c2 : 30 < n1
  · have c2' : (30 : Int) < n1 := by omega
    simp only [rn0, rn1, rn2, rn3, rn4, rn5, rn6, rn7, rn8, if_true, if_false, Nat.le_refl, true_and, and_true, decide_true, decide_false, Bool.not_true, Bool.not_false, reduceIte, Nat.reduceEqDiff, Nat.reduceAdd, Nat.reduceMul, Nat.reduceSub, Nat.reduceLeDiff, Nat.reduceLT, hx.ld, Nat.zero_add, List.getElem?_cons_zero, List.getElem?_cons_succ, len_slice, c1', c2']
  have c2' : ¬ (30 : Int) < n1 := by omega
  have c3' : (30 : Int) < n2 := by omega
  simp only [rn0, rn1, rn2, rn3, rn4, rn5, rn6, rn7, rn8, if_true, if_false, Nat.le_refl, true_and, and_true, decide_true, decide_false, Bool.not_true, Bool.not_false, reduceIte, Nat.reduceEqDiff, Nat.reduceAdd, Nat.reduceMul, Nat.reduceSub, Nat.reduceLeDiff, Nat.reduceLT, hx.ld, Nat.zero_add, List.getElem?_cons_zero, List.getElem?_cons_succ, len_slice, c1', c2', c3']
theorem Big.one {u0 u1 u2 : Value} (hb : Big u0 u1 u2) : allB oneCell [u0, u1, u2] = true := by
  obtain ⟨a0, n0, k0, a1, n1, k1, a2, n2, k2, rfl, rfl, rfl, _⟩ := hb
  rfl
theorem stands_yard {w : World} {φ : Emb} {u0 u1 u2 fv vv sv : Value} (h0 : Stands φ h u0 fv) (h1 : Stands φ h u1 vv) (h2 : Stands φ h u2 sv) : mapV φ (.agg ⟨[u0, u1, u2]⟩) = .agg ⟨[fv, vv, sv]⟩ ∧ okV φ h.next (.agg ⟨[u0, u1, u2]⟩) := by
  refine ⟨?_, ?_⟩
  · simp only [mapV, mapArr, mapL, h0.map, h1.map, h2.map]
  · simp only [okV, okA, okL, and_true]
    exact ⟨h0.ok, h1.ok, h2.ok⟩
theorem map_int {φ : Emb} {k : IntKind} {a : Int} : mapV φ (.int k a) = .int k a := by simp [mapV]
/-- a list of numbers that was handed in -/
abbrev IntsOf (h : AHeap) (v : Value) (c : Nat → Nat → Int) (m : Nat) : Prop := Ints h v m fun k => c k 0
theorem intsOf {v : Value} {c : Nat → Nat → Int} {m : Nat} (hc : Cells h v 1 m fun i j => .int .i64 (c i j)) : IntsOf h v c m := by
  obtain ⟨a, cap, f1, f2, f3⟩ := hc
  refine ⟨a, cap, f1, f2, f3.imp id fun ⟨b, o, cs, wr, g, g1, g2, g3⟩ => ⟨b, o, cs, wr, g, g1, g2, fun i j hi hj => ?_⟩⟩
  have : j = 0 := by omega
  subst this
  exact g3 i 0 hi hj
end Go.Vm.Vat

namespace Go.Vm.Vat
open Go.Proofs
set_option linter.unusedSimpArgs false
set_option linter.unusedVariables false
set_option maxRecDepth 10000
variable {n : Nat} {h : AHeap}
/-! ### The reference's truths: all blues by their numbers -/
def sz (lo hi : Nat → Int) (k : Nat) : Nat := (hi k - lo k + 1).toNat
theorem one_get {v : Value} : ∀ j, j < 1 → [v][j]? = some v := fun j hj => by
  have : j = 0 := by omega
  subst this; rfl
theorem sl_int {x : Int} : buildSl 1 1 [.int .i64 0] [0] h [.int .i64 x] = newSlice h [.int .i64 x] 1 1 0 := id rfl
end Go.Vm.Vat

namespace Go.Vm.Vat
open Go.Proofs
set_option linter.unusedSimpArgs false
set_option linter.unusedVariables false
set_option maxRecDepth 10000
variable {n : Nat} {h : AHeap}
/-- a list of lists of numbers that grows: all of it lies from block B on, each list in a block of its own -/
def GrowRows (B : Nat) (h : AHeap) (v : Value) (n : Nat) (cnt : Nat → Nat) (q : Nat → Nat → Int) : Prop :=
  ∃ r : Nat → Value, GrowC B h v 1 n (fun k _ => r k) ∧ ∀ i, i < n → Ints h (r i) (cnt i) (q i) ∧ ∀ a m c, r i = .slice (some a) m c → B ≤ a.block ∧ a.block < h.next ∧ ∀ b m' c', v = .slice (some b) m' c' → a.block ≠ b.block
theorem GrowRows.nil {B : Nat} {cnt : Nat → Nat} {q : Nat → Nat → Int} : GrowRows B h nilS 0 cnt q := ⟨fun _ => nilS, .nil, fun i hi => by omega⟩
theorem GrowRows.rows {B : Nat} {v : Value} {n : Nat} {cnt : Nat → Nat} {q : Nat → Nat → Int} (hg : GrowRows B h v n cnt q) : Rows h v n cnt q := by
  obtain ⟨r, h1, h2⟩ := hg
  exact ⟨r, h1.cells, fun i hi => (h2 i hi).1⟩
theorem GrowRows.keep {B o : Nat} {g : AHeap} {v : Value} {n : Nat} {cnt : Nat → Nat} {q : Nat → Nat → Int} (hg : GrowRows B h v n cnt q) (hk : Keep o h g) (ho : o < B) : GrowRows B g v n cnt q := by
  obtain ⟨r, h1, h2⟩ := hg
  refine ⟨r, h1.keep hk ho, fun i hi => ?_⟩
  obtain ⟨h3, h4⟩ := h2 i hi
  exact ⟨Cells.keep h3 hk fun a k c e => by have := (h4 a k c e).1; omega, fun a m c e => by
    obtain ⟨k1, k2, k3⟩ := h4 a m c e
    exact ⟨k1, Nat.lt_of_lt_of_le k2 hk.up, k3⟩⟩
theorem GrowRows.sub {B : Nat} {g : AHeap} {v : Value} {n : Nat} {cnt : Nat → Nat} {q : Nat → Nat → Int} (hg : GrowRows B h v n cnt q) (hs : Sub All h g) (hup : h.next ≤ g.next) : GrowRows B g v n cnt q := by
  obtain ⟨r, h1, h2⟩ := hg
  refine ⟨r, h1.sub hs, fun i hi => ?_⟩
  obtain ⟨h3, h4⟩ := h2 i hi
  exact ⟨Cells.mono h3 hs, fun a m c e => by
    obtain ⟨k1, k2, k3⟩ := h4 a m c e
    exact ⟨k1, Nat.lt_of_lt_of_le k2 hup, k3⟩⟩
theorem GrowRows.congr {B : Nat} {v : Value} {n : Nat} {cnt cnt' : Nat → Nat} {q q' : Nat → Nat → Int} (hg : GrowRows B h v n cnt q) (h1 : ∀ i, i < n → cnt i = cnt' i) (h2 : ∀ i, i < n → q i = q' i) : GrowRows B h v n cnt' q' := by
  obtain ⟨r, k1, k2⟩ := hg
  exact ⟨r, k1, fun i hi => by rw [← h1 i hi, ← h2 i hi]; exact k2 i hi⟩
/-- one list more -/
theorem GrowRows.push {B : Nat} {h1 : AHeap} {v l : Value} {n : Nat} {cnt : Nat → Nat} {q : Nat → Nat → Int} (hg : GrowRows B h v n cnt q) (hB : h.floor ≤ B) (hf : h.next + 2 < far) (hBn : B ≤ h.next) (hl : Ints h l (cnt n) (q n)) (hone : oneCell l = true)
    (hb : ∀ a k c, l = .slice (some a) k c → B ≤ a.block ∧ a.block < h.next ∧ ∀ b m' c', v = .slice (some b) m' c' → a.block ≠ b.block) (hx : New h h1 [l] 0) (hn : (n + 1) * 24 ≤ maxBytes) (hn1 : n + 1 ≤ maxBytes) :
    ∃ v' g, appendA 1 24 h1 v (.slice (some ⟨h.next, 0, none⟩) 1 1) = some (v', g) ∧ GrowRows B g v' (n + 1) cnt q ∧ Kept h1 g v ∧ oneCell v' = true ∧ (∀ a k c, v = .slice (some a) k c → B ≤ a.block) := by
  obtain ⟨r, g1, g2⟩ := hg
  have hnx := hx.next
  have hfl := hx.floor
  let r' : Nat → Value := fun i => if i = n then l else r i
  have g1' : GrowC B h1 v 1 n (fun k _ => r' k) := (g1.sub hx.sub).congr fun k j hk hj => by show r k = if k = n then l else r k; rw [if_neg (by omega)]
  obtain ⟨v', g, e, ev, gv, hk⟩ := g1'.append (bytes := 24) (cap := 1) (by omega) (by omega) (by omega) hx.get rfl (by simp [allB, hone]) (fun j hj => by rw [one_get j hj]; show some l = some (if n = n then l else r n); rw [if_pos rfl]) hn hn1
  refine ⟨v', g, e, ⟨r', gv, fun i hi => ?_⟩, hk, gv.one, fun a k c e => (g1.block e).1⟩
  have hkn := hk.next
  have hmain : ∀ (x : Value) (m : Nat) (a : Nat → Int), Ints h x m a → (∀ a k c, x = .slice (some a) k c → B ≤ a.block ∧ a.block < h.next ∧ ∀ b m' c', v = .slice (some b) m' c' → a.block ≠ b.block) →
      Ints g x m a ∧ ∀ a k c, x = .slice (some a) k c → B ≤ a.block ∧ a.block < g.next ∧ ∀ b m' c', v' = .slice (some b) m' c' → a.block ≠ b.block := by
    intro x m a hx1 hx2
    refine ⟨Cells.kept (Cells.mono hx1 hx.sub) hk fun a k c e b k' c' e' => (hx2 a k c e).2.2 b k' c' e', fun a k c e => ?_⟩
    obtain ⟨k1, k2, _⟩ := hx2 a k c e
    refine ⟨k1, by omega, fun b m' c' e' => ?_⟩
    rw [ev] at e'
    cases e'
    show a.block ≠ h1.next
    omega
  by_cases hin : i = n
  · subst hin
    have : r' i = l := by show (if i = i then l else r i) = l; rw [if_pos rfl]
    rw [this]
    exact hmain l _ _ hl hb
  · have : r' i = r i := by show (if i = n then l else r i) = r i; rw [if_neg hin]
    rw [this]
    obtain ⟨k1, k2⟩ := g2 i (by omega)
    exact hmain _ _ _ k1 k2
end Go.Vm.Vat

namespace Go.Vm.Vat
open Go.Proofs
set_option linter.unusedSimpArgs false
set_option linter.unusedVariables false
set_option maxRecDepth 10000
variable {n : Nat} {h : AHeap}
def minN (x : Int) (a : Nat → Int) : Nat → Int
  | 0 => x
  | i + 1 => min (minN x a i) (a i)
def s94 : SCode := (.seq (.ops [⟨(some 4), none, .mov (.const (.int .i64 (0)))⟩]) (.seq (.seq (.ops [⟨(some 7), none, .mov (T 1)⟩, ⟨(some 8), none, .len (T 7)⟩, ⟨(some 9), none, .mov (.const (.int .i64 (0)))⟩]) (.block 0 (.loop (.seq (.ops [⟨(some 10), none, .int2 .lss (T 9) (T 8)⟩]) (.seq (.cond (T 10) .skip (.exit 0)) (.seq (.block 1 (.seq (.ops [⟨(some 11), none, .idxSl 1 (T 7) (T 9)⟩, ⟨(some 12), none, .load1 (T 11)⟩, ⟨(some 6), none, .mov (T 12)⟩]) (.ops [⟨(some 13), none, .mov (T 0)⟩, ⟨(some 14), none, .mov (T 6)⟩, ⟨(some 15), none, .plain (.call { callee := .builtin .min, args := #[(T 13), (T 14)], argTypes := #[3, 3] }) 3⟩, ⟨(some 0), none, .mov (T 15)⟩]))) (.ops [⟨(some 16), none, .int2 .add (T 9) (.const (.int .i64 (1)))⟩, ⟨(some 9), none, .mov (T 16)⟩]))))))) (.seq (.ops [⟨(some 17), none, .mov (T 0)⟩, ⟨(some 4), none, .mov (T 17)⟩]) .ret)))
theorem fok94 : FnOk Try.prog 94 18 s94 [.tmp 4] := ⟨Try.f94, _, Try.func94, rfl, Try.ntmps94, by kernel_rfl, by kernel_rfl⟩
theorem minimum_c {m : Nat} (hn : m + 2 ≤ n) (hm : m ≤ 1000) {v : Value} {a : Nat → Int} (hi : Ints h v m a) (x : Int) : call n (.func (.func 94) #[] #[]) [.int .i64 x, v] h = some (.int .i64 (minN x a m), h) := by
  obtain ⟨n, rfl⟩ : ∃ p, n = p + 1 := ⟨n - 1, by omega⟩
  refine call_plain0 fok94 rfl rfl (by simp) rfl ?_
  have hi := Cells.shut hi
  generalize h.shutAll = h at hi
  simp only [rn0, rn1, rn2, rn3, rn4, rn5, rn6, rn7, rn8, if_true, if_false, Nat.le_refl, true_and, and_true, decide_true, decide_false, Bool.not_true, Bool.not_false, reduceIte, Nat.reduceEqDiff, Nat.reduceAdd, Nat.reduceMul, Nat.reduceSub, Nat.reduceLeDiff, Nat.reduceLT, s94, Cells.len hi]
  refine W_loop m (fun k f g ms => g = h ∧ ms = [] ∧ f 0 = .int .i64 (minN x a k) ∧ f 7 = v ∧ f 8 = .int .i64 (m : Int) ∧ f 9 = .int .i64 (k : Int)) (by simp; omega) ?_ ?_ ?_
  · simp only [rn0, rn1, rn2, rn3, rn4, rn5, rn6, rn7, rn8, if_true, if_false, Nat.le_refl, true_and, and_true, decide_true, decide_false, Bool.not_true, Bool.not_false, reduceIte, Nat.reduceEqDiff, Nat.reduceAdd, Nat.reduceMul, Nat.reduceSub, Nat.reduceLeDiff, Nat.reduceLT]
    exact ⟨rfl, rfl⟩
  · rintro k f g ms hk ⟨rfl, rfl, f0, f7, f8, f9⟩
    have hk' : (k : Int) < (m : Int) := by omega
    have hw : wrapF .i64 ((k : Int) + 1) = ((k + 1 : Nat) : Int) := by rw [wrap_in (by omega) (by omega)]; rfl
    have he : min (minN x a k) (a k) = minN x a (k + 1) := rfl
    simp only [rn0, rn1, rn2, rn3, rn4, rn5, rn6, rn7, rn8, if_true, if_false, Nat.le_refl, true_and, and_true, decide_true, decide_false, Bool.not_true, Bool.not_false, reduceIte, Nat.reduceEqDiff, Nat.reduceAdd, Nat.reduceMul, Nat.reduceSub, Nat.reduceLeDiff, Nat.reduceLT, f0, f7, f8, f9, hk', Cells.idx hi hk, Cells.ld hi hk Nat.zero_lt_one, valN_tmp, Nat.reduceLT, he, hw]
  · rintro f g ms ⟨rfl, rfl, f0, f7, f8, f9⟩
    simp only [rn0, rn1, rn2, rn3, rn4, rn5, rn6, rn7, rn8, if_true, if_false, Nat.le_refl, true_and, and_true, decide_true, decide_false, Bool.not_true, Bool.not_false, reduceIte, Nat.reduceEqDiff, Nat.reduceAdd, Nat.reduceMul, Nat.reduceSub, Nat.reduceLeDiff, Nat.reduceLT, f0, f7, f8, f9, Int.lt_irrefl]
def s98 : SCode := (.seq (.ops [⟨(some 2), none, .box (T 0)⟩, ⟨(some 4), none, .mov (.const (.bool false))⟩]) (.seq (.ops [⟨(some 5), none, .mov (T 1)⟩, ⟨(some 6), none, .int2 .leq (.const (.int .i64 (0))) (T 5)⟩, ⟨(some 7), none, .mov (T 6)⟩, ⟨(some 8), (some (7, true)), .mov (T 1)⟩, ⟨(some 9), (some (7, true)), .fieldAddr 0 (T 2)⟩, ⟨(some 10), (some (7, true)), .fieldAddr 0 (T 9)⟩, ⟨(some 11), (some (7, true)), .load1 (T 10)⟩, ⟨(some 12), (some (7, true)), .len (T 11)⟩, ⟨(some 13), (some (7, true)), .int2 .lss (T 8) (T 12)⟩, ⟨(some 14), none, .pick (T 7) (T 13) (.const (.bool false))⟩, ⟨(some 4), none, .mov (T 14)⟩]) .ret))
theorem fok98 : FnOk Try.prog 98 15 s98 [.tmp 4] := ⟨Try.f98, _, Try.func98, rfl, Try.ntmps98, by kernel_rfl, by kernel_rfl⟩
theorem hasField_c (hn : 1 ≤ n) (hr : h.next < far) {F V S T : Value} {s m : Nat} {c : Nat → Nat → Value} (hv : Cells h F s m c) (h1 : allB oneCell [F, V, S, T] = true) (at_ : Int) :
    call n (.func (.func 98) #[] #[]) [.agg ⟨[F, V, S, T]⟩, .int .i64 at_] h = some (.bool (decide (0 ≤ at_ ∧ at_ ≤ (m : Int) - 1)), h) := by
  obtain ⟨n, rfl⟩ : ∃ p, n = p + 1 := ⟨n - 1, by omega⟩
  refine call_plain0 fok98 rfl rfl (by simp) rfl ?_
  have hv := Cells.shut hv
  have hr : h.shutAll.next < far := hr
  generalize h.shutAll = h at hv hr
  simp only [s98, W_seq, W_ops]
  refine ops_box (cs := [F, V, S, T]) (by omega) rfl h1 fun g1 hx => ?_
  have hv1 := Cells.mono hv hx.sub
  by_cases c1 : 0 ≤ at_
  · by_cases c2 : at_ < (m : Int)
    · have c3 : at_ ≤ (m : Int) - 1 := by omega
      simp only [rn0, rn1, rn2, rn3, rn4, rn5, rn6, rn7, rn8, if_true, if_false, Nat.le_refl, true_and, and_true, decide_true, decide_false, Bool.not_true, Bool.not_false, reduceIte, Nat.reduceEqDiff, Nat.reduceAdd, Nat.reduceMul, Nat.reduceSub, Nat.reduceLeDiff, Nat.reduceLT, hx.ld, Nat.zero_add, List.getElem?_cons_zero, List.getElem?_cons_succ, Cells.len hv1, c1, c2, c3, and_self]
    · have c3 : ¬ at_ ≤ (m : Int) - 1 := by omega
      simp only [rn0, rn1, rn2, rn3, rn4, rn5, rn6, rn7, rn8, if_true, if_false, Nat.le_refl, true_and, and_true, decide_true, decide_false, Bool.not_true, Bool.not_false, reduceIte, Nat.reduceEqDiff, Nat.reduceAdd, Nat.reduceMul, Nat.reduceSub, Nat.reduceLeDiff, Nat.reduceLT, hx.ld, Nat.zero_add, List.getElem?_cons_zero, List.getElem?_cons_succ, Cells.len hv1, c1, c2, c3, and_false]
  · simp only [rn0, rn1, rn2, rn3, rn4, rn5, rn6, rn7, rn8, if_true, if_false, Nat.le_refl, true_and, and_true, decide_true, decide_false, Bool.not_true, Bool.not_false, reduceIte, Nat.reduceEqDiff, Nat.reduceAdd, Nat.reduceMul, Nat.reduceSub, Nat.reduceLeDiff, Nat.reduceLT, hx.ld, Nat.zero_add, List.getElem?_cons_zero, List.getElem?_cons_succ, Cells.len hv1, c1, false_and]
/-- what 'openTrue' answers -/
def OpenTR (h : AHeap) (Y : MY) (F V S v : Value) (h' : AHeap) : Prop := Made h h' 240000 ∧
  ((faultN Y ≠ 0 ∧ v = .tuple ⟨[.agg ⟨[nilS, nilS, nilS, nilS]⟩, .int .i64 (faultN Y)]⟩) ∨ (faultN Y = 0 ∧ truths Y = [] ∧ v = .tuple ⟨[.agg ⟨[nilS, nilS, nilS, nilS]⟩, .int .i64 11]⟩) ∨
    (faultN Y = 0 ∧ truths Y ≠ [] ∧ ∃ tv, v = .tuple ⟨[.agg ⟨[F, V, S, tv]⟩, .int .i64 0]⟩ ∧ TruthsR h' tv (truths Y) ∧ Long tv))
def s89 : SCode := (.seq (.ops [⟨(some 1), none, .box (T 0)⟩, ⟨(some 2), none, .alloc [(.slice none 0 0), (.slice none 0 0), (.slice none 0 0), (.slice none 0 0)]⟩, ⟨(some 3), none, .mov (.const (.int .i64 (0)))⟩]) (.seq (.ops [⟨(some 7), none, .loadN 3 (T 1)⟩, ⟨(some 8), none, .call (.func 78) [(T 7)]⟩, ⟨(some 6), none, .mov (T 8)⟩, ⟨(some 9), none, .extract 0 (T 6)⟩, ⟨(some 10), none, .extract 1 (T 6)⟩, ⟨(some 4), none, .alloc [(.slice none 0 0), (.slice none 0 0), (.slice none 0 0), (.slice none 0 0)]⟩, ⟨none, none, .store 4 (T 4) (T 9)⟩, ⟨(some 5), none, .mov (T 10)⟩]) (.seq (.seq (.ops [⟨(some 11), none, .mov (T 5)⟩, ⟨(some 12), none, .int2 .eql (T 11) (.const (.int .i64 (0)))⟩, ⟨(some 13), none, .mov (T 12)⟩, ⟨(some 14), (some (13, true)), .fieldAddr 3 (T 4)⟩, ⟨(some 15), (some (13, true)), .load1 (T 14)⟩, ⟨(some 16), (some (13, true)), .len (T 15)⟩, ⟨(some 17), (some (13, true)), .int2 .eql (T 16) (.const (.int .i64 (0)))⟩, ⟨(some 18), none, .pick (T 13) (T 17) (.const (.bool false))⟩]) (.cond (T 18) (.seq (.ops [⟨(some 19), none, .build #[(0, 3), (3, 1)] [(.slice none 0 0), (.slice none 0 0), (.slice none 0 0), (.slice none 0 0)] [] []⟩, ⟨none, none, .store 4 (T 2) (T 19)⟩, ⟨(some 3), none, .mov (.const (.int .i64 (11)))⟩]) .ret) .skip)) (.seq (.ops [⟨(some 20), none, .loadN 4 (T 4)⟩, ⟨(some 21), none, .mov (T 5)⟩, ⟨none, none, .store 4 (T 2) (T 20)⟩, ⟨(some 3), none, .mov (T 21)⟩]) .ret))))
theorem fok89 : FnOk Try.prog 89 22 s89 [.cellN 2 4, .tmp 3] := ⟨Try.f89, _, Try.func89, rfl, Try.ntmps89, by kernel_rfl, by kernel_rfl⟩
theorem openTrue_c (hn : 10050 ≤ n) (hr : h.next + 400000 < far) (hfl : h.floor ≤ h.next) {F V S : Value} {Y : MY} (hy : YardR h F V S Y) (hY : Thin Y) :
    ∃ v h', call n (.func (.func 89) #[] #[]) [.agg ⟨[F, V, S]⟩] h = some (v, h') ∧ OpenTR h Y F V S v h' := by
  obtain ⟨n, rfl⟩ : ∃ p, n = p + 1 := ⟨n - 1, by omega⟩
  refine call_any0 fok89 rfl rfl (by simp) ?_
  simp only [s89, W_seq, W_ops]
  refine ops_box (cs := [F, V, S]) (by omega) rfl hy.one fun g1 hx1 => ?_
  have n1 := hx1.next
  have f1 := hx1.floor
  simp only [rn0, rn1, rn2, rn3, rn4, rn5, rn6, rn7, rn8, if_true, if_false, Nat.le_refl, true_and, and_true, decide_true, decide_false, Bool.not_true, Bool.not_false, reduceIte, Nat.reduceEqDiff, Nat.reduceAdd, Nat.reduceMul, Nat.reduceSub, Nat.reduceLeDiff, Nat.reduceLT]
  refine step_row (cs := [nilS, nilS, nilS, nilS]) (by omega) rfl rfl fun g2 hx2 => ?_
  have n2 := hx2.next
  have f2 := hx2.floor
  have w2 := (hx1.row.mono hx2.sub).whole (n := 3) rfl
  obtain ⟨v, g3, eo, hm, ho⟩ := open_c (n := n) (h := g2) (by omega) (by omega) (by omega) ((hy.mono hx1.sub).mono hx2.sub) hY
  have n3 := hm.next
  have u3 := hm.up
  have f3 := hm.floor
  have hres : g3.get g1.next = some (.row [nilS, nilS, nilS, nilS] true 0) := hm.sub _ _ _ _ trivial hx2.get
  have hs3 : Sub All h g3 := hx1.sub.trans (hx2.sub.trans hm.sub)
  -- how it ends
  have fin : ∀ (g4 g5 : AHeap) (cs : List Value), Sub All h g4 → New g3 g4 cs 0 → ∀ (vs : List Value), Set1 g4 g5 g1.next vs 0 → Made h g5 240000 := fun g4 g5 cs hs hx vs hst => by
    have := hx.next
    have := hst.next
    have := hx.floor
    have := hst.floor
    exact ⟨fun i cs w gr t hg => by rw [hst.old i (by have := AHeap.lt_of_get hg; omega)]; exact hs _ _ _ _ t hg, by omega, by omega, by omega⟩
  rcases ho with ⟨hf, rfl⟩ | ⟨hf, tv, rfl, htr, hlong⟩
  · simp only [rn0, rn1, rn2, rn3, rn4, rn5, rn6, rn7, rn8, if_true, if_false, Nat.le_refl, true_and, and_true, decide_true, decide_false, Bool.not_true, Bool.not_false, reduceIte, Nat.reduceEqDiff, Nat.reduceAdd, Nat.reduceMul, Nat.reduceSub, Nat.reduceLeDiff, Nat.reduceLT, w2, eo, ex0, ex1]
    refine step_new (vs := [nilS, nilS, nilS, nilS]) (by omega) (by omega) rfl (by simp only [rn0, rn1, rn2, rn3, rn4, rn5, rn6, rn7, rn8, if_true, if_false, Nat.le_refl, true_and, and_true, decide_true, decide_false, Bool.not_true, Bool.not_false, reduceIte, Nat.reduceEqDiff, Nat.reduceAdd, Nat.reduceMul, Nat.reduceSub, Nat.reduceLeDiff, Nat.reduceLT]; rfl) rfl rfl rfl fun g4 hx4 => ?_
    have w4 := hx4.row.whole (n := 4) rfl
    have n4 := hx4.next
    have f4 := hx4.floor
    simp only [rn0, rn1, rn2, rn3, rn4, rn5, rn6, rn7, rn8, if_true, if_false, Nat.le_refl, true_and, and_true, decide_true, decide_false, Bool.not_true, Bool.not_false, reduceIte, Nat.reduceEqDiff, Nat.reduceAdd, Nat.reduceMul, Nat.reduceSub, Nat.reduceLeDiff, Nat.reduceLT, hf, w4]
    refine step_store (vs := [nilS, nilS, nilS, nilS]) rfl (hx4.sub _ _ _ _ trivial hres) (by omega) (by omega) rfl rfl rfl (by simp) fun g5 hs5 => ?_
    rw [splice_all rfl] at hs5
    simp only [rn0, rn1, rn2, rn3, rn4, rn5, rn6, rn7, rn8, if_true, if_false, Nat.le_refl, true_and, and_true, decide_true, decide_false, Bool.not_true, Bool.not_false, reduceIte, Nat.reduceEqDiff, Nat.reduceAdd, Nat.reduceMul, Nat.reduceSub, Nat.reduceLeDiff, Nat.reduceLT, res_two, hs5.row.whole (n := 4) rfl]
    exact ⟨fin g4 g5 _ (hs3.trans hx4.sub) hx4 _ hs5, .inl ⟨hf, rfl⟩⟩
  · have ho4 : allB oneCell [F, V, S, tv] = true := by have h1 := hy.one; have h2 := Cells.one htr; simp [allB] at h1 ⊢; simp [h1, h2]
    simp only [rn0, rn1, rn2, rn3, rn4, rn5, rn6, rn7, rn8, if_true, if_false, Nat.le_refl, true_and, and_true, decide_true, decide_false, Bool.not_true, Bool.not_false, reduceIte, Nat.reduceEqDiff, Nat.reduceAdd, Nat.reduceMul, Nat.reduceSub, Nat.reduceLeDiff, Nat.reduceLT, w2, eo, ex0, ex1]
    refine step_new (vs := [F, V, S, tv]) (by omega) (by omega) rfl (by simp only [rn0, rn1, rn2, rn3, rn4, rn5, rn6, rn7, rn8, if_true, if_false, Nat.le_refl, true_and, and_true, decide_true, decide_false, Bool.not_true, Bool.not_false, reduceIte, Nat.reduceEqDiff, Nat.reduceAdd, Nat.reduceMul, Nat.reduceSub, Nat.reduceLeDiff, Nat.reduceLT]; rfl) ho4 rfl rfl fun g4 hx4 => ?_
    have w4 := hx4.row.whole (n := 4) rfl
    have n4 := hx4.next
    have f4 := hx4.floor
    have htr4 : TruthsR g4 tv (truths Y) := Cells.mono htr hx4.sub
    by_cases he : truths Y = []
    · have hl : (truths Y).length = 0 := by rw [he]; rfl
      simp only [rn0, rn1, rn2, rn3, rn4, rn5, rn6, rn7, rn8, if_true, if_false, Nat.le_refl, true_and, and_true, decide_true, decide_false, Bool.not_true, Bool.not_false, reduceIte, Nat.reduceEqDiff, Nat.reduceAdd, Nat.reduceMul, Nat.reduceSub, Nat.reduceLeDiff, Nat.reduceLT, hx4.row.ld, Nat.zero_add, List.getElem?_cons_zero, List.getElem?_cons_succ, Cells.len htr4, hl, Int.natCast_zero, build_work0]
      refine step_store (vs := [nilS, nilS, nilS, nilS]) rfl (hx4.sub _ _ _ _ trivial hres) (by omega) (by omega) rfl rfl rfl (by simp) fun g5 hs5 => ?_
      rw [splice_all rfl] at hs5
      simp only [rn0, rn1, rn2, rn3, rn4, rn5, rn6, rn7, rn8, if_true, if_false, Nat.le_refl, true_and, and_true, decide_true, decide_false, Bool.not_true, Bool.not_false, reduceIte, Nat.reduceEqDiff, Nat.reduceAdd, Nat.reduceMul, Nat.reduceSub, Nat.reduceLeDiff, Nat.reduceLT, res_two, hs5.row.whole (n := 4) rfl]
      exact ⟨fin g4 g5 _ (hs3.trans hx4.sub) hx4 _ hs5, .inr (.inl ⟨hf, he, rfl⟩)⟩
    · have hl : ¬ ((truths Y).length : Int) = 0 := fun e => he (List.eq_nil_of_length_eq_zero (by omega))
      simp only [rn0, rn1, rn2, rn3, rn4, rn5, rn6, rn7, rn8, if_true, if_false, Nat.le_refl, true_and, and_true, decide_true, decide_false, Bool.not_true, Bool.not_false, reduceIte, Nat.reduceEqDiff, Nat.reduceAdd, Nat.reduceMul, Nat.reduceSub, Nat.reduceLeDiff, Nat.reduceLT, hx4.row.ld, Nat.zero_add, List.getElem?_cons_zero, List.getElem?_cons_succ, Cells.len htr4, hl, w4]
      refine step_store (vs := [F, V, S, tv]) rfl (hx4.sub _ _ _ _ trivial hres) (by omega) (by omega) rfl ho4 rfl (by simp) fun g5 hs5 => ?_
      rw [splice_all (cs := [nilS, nilS, nilS, nilS]) (vs := [F, V, S, tv]) rfl] at hs5
      simp only [rn0, rn1, rn2, rn3, rn4, rn5, rn6, rn7, rn8, if_true, if_false, Nat.le_refl, true_and, and_true, decide_true, decide_false, Bool.not_true, Bool.not_false, reduceIte, Nat.reduceEqDiff, Nat.reduceAdd, Nat.reduceMul, Nat.reduceSub, Nat.reduceLeDiff, Nat.reduceLT, res_two, hs5.row.whole (n := 4) rfl]
      refine ⟨fin g4 g5 _ (hs3.trans hx4.sub) hx4 _ hs5, .inr (.inr ⟨hf, he, tv, rfl, ?_, hlong⟩)⟩
      obtain ⟨a, cap, e, hsp, h0 | ⟨b, o, cs, w, gr, e1, e2, e3⟩⟩ := htr
      · exact absurd (List.eq_nil_of_length_eq_zero h0) he
      · have hpos : 0 < (truths Y).length := by omega
        have hne : b ≠ g1.next := fun eb => by
          subst eb
          have hrow : (AObj.row cs w gr) = .row [nilS, nilS, nilS, nilS] true 0 := Option.some.inj (e2.symm.trans hres)
          cases hrow
          have := List.mem_of_getElem? (e3 0 0 hpos (by omega))
          simp at this
        exact ⟨a, cap, e, hsp, .inr ⟨b, o, cs, w, gr, e1, by rw [hs5.old b hne]; exact hx4.sub _ _ _ _ trivial e2, e3⟩⟩
end Go.Vm.Vat
