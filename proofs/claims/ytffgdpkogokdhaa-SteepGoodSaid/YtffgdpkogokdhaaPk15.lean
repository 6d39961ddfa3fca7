/- Texts of the proofs of this seat, put together: StMem, StOut, StVerd, StOpenH, StRightP, StGoodH, StOutL, StRightL, StRightM, StGoodP, StRightN, StGoodL. -/
import Derived.Test.YtffgdpkogokdhaaPk14

namespace Go.Vm.St
open Go.Proofs Go.Vm.Vat
set_option linter.unusedSimpArgs false
set_option linter.unusedVariables false
set_option maxRecDepth 10000
variable {n : Nat} {h : AHeap}
/-! ### The reference's truths are the truths, in another order -/
theorem unpos_pos {S : MS} {i : Nat} : unpos S (posU S i) = i := by
  unfold unpos posU
  by_cases c1 : i < S.nw
  · rw [if_pos c1, if_neg (by omega), if_pos (by omega)]; omega
  · rw [if_neg c1]
    by_cases c2 : i = S.nw
    · rw [if_pos c2, if_pos rfl, c2]
    · rw [if_neg c2, if_neg (by omega), if_neg (by omega)]
theorem sizeR {S : MS} : sizeN (rLo S) (rHi S) (numU S) = sizeN (uLo S) (uHi S) (numU S) := by
  rw [sizeU]
  have e : numU S = (1 + S.nw) + S.nv := by unfold numU; omega
  rw [e, sizeN_split, sizeN_split]
  have e1 : sizeN (rLo S) (rHi S) 1 = S.sphi - S.splo + 1 := by simp [sizeN, rLo, rHi]
  have e2 : sizeN (fun k => rLo S (1 + k)) (fun k => rHi S (1 + k)) S.nw = sizeN S.wlo S.whi S.nw := sizeN_congr _ fun k hk => by
    simp only [rLo, rHi]
    rw [if_neg (by omega), if_pos (by omega), if_neg (by omega), if_pos (by omega), show 1 + k - 1 = k by omega]
    exact ⟨rfl, rfl⟩
  have e3 : sizeN (fun k => rLo S (1 + S.nw + k)) (fun k => rHi S (1 + S.nw + k)) S.nv = sizeN S.vlo S.vhi S.nv := by
    by_cases c : S.nv = 0
    · rw [c]; rfl
    refine sizeN_congr _ fun k hk => ?_
    simp only [rLo, rHi]
    rw [if_neg (by omega), if_neg (by omega), if_neg (by omega), if_neg (by omega), show 1 + S.nw + k - S.nw - 1 = k by omega]
    exact ⟨rfl, rfl⟩
  rw [e1, e2, e3, ← Int.mul_assoc, Int.mul_comm (sizeN S.wlo S.whi S.nw)]
theorem refTruths_mem {S : MS} (hG : Good S) {x : Nat → Int} : x ∈ refTruths S ↔ x ∈ truthsS S := by
  have hr : ∀ j, j < numU S → rLo S j ≤ rHi S j := fun j hj => (hG.r hj).2.1
  have h1 := many_size hG.args
  have h2 := hG.few
  have hprod := sizeN_prod (lo := rLo S) (hi := rHi S) (numU S) 0
  simp only [Nat.zero_add, sizeN, Int.one_mul] at hprod
  have hpN := prodN_from (lo := rLo S) (hi := rHi S) (numU S) 0 fun j _ hj => hr j (by omega)
  have hsR := sizeR (S := S)
  obtain ⟨mp1, _⟩ := many_pos hG
  have hM : (manyS S).toNat = prodN (sz (rLo S) (rHi S)) (numU S) 0 := by omega
  rw [truths_mem]
  unfold refTruths refTo
  rw [List.mem_filter, List.mem_map]
  simp only [List.mem_range, decide_eq_true_eq]
  constructor
  · rintro ⟨⟨m, _, rfl⟩, h2⟩
    exact ⟨⟨nthU_in hG, fun j hj => by rw [nthU, if_neg (by omega)]⟩, h2⟩
  · rintro ⟨⟨h1, h2⟩, h3⟩
    have hin : ∀ j, j < numU S → rLo S j ≤ x (unpos S j) ∧ x (unpos S j) ≤ rHi S j := fun j hj => by
      have := h1 (unpos S j) (unpos_lt hj)
      have e := r_pos (S := S) (i := unpos S j)
      rw [pos_unpos] at e
      rw [e.1, e.2]
      exact this
    have hd : ∀ j, j < numU S → (x (unpos S j) - rLo S j).toNat < sz (rLo S) (rHi S) j := fun j hj => by
      have := hin j hj
      show (x (unpos S j) - rLo S j).toNat < (rHi S j - rLo S j + 1).toNat
      omega
    refine ⟨⟨encF (sz (rLo S) (rHi S)) (fun j => (x (unpos S j) - rLo S j).toNat) (numU S) 0, ?_, ?_⟩, h3⟩
    · rw [hM]
      exact encF_lt (numU S) 0 fun j _ hj => hd j (by omega)
    · funext i
      by_cases hi : i < numU S
      · have hp := pos_lt hi
        have hq := hin _ hp
        rw [nthU, if_pos hi]
        unfold digU
        rw [show rSz S = sz (rLo S) (rHi S) from rfl, encF_mod hd hp]
        rw [unpos_pos] at hq ⊢
        omega
      · rw [nthU, if_neg hi, h2 i (by omega)]
/-- asked: the error, or the truths -/
def AskR (h : AHeap) (S : MS) (ok : Bool) (v : Value) (h' : AHeap) : Prop := (∀ i, i < h.next → h'.get i = h.get i) ∧ h.next ≤ h'.next ∧ h'.next ≤ h.next + 500100 ∧ h'.floor = h.floor ∧
  ((faultS S ≠ 0 ∧ v = .tuple ⟨[nilS, .int .i64 (faultS S)]⟩) ∨ (faultS S = 0 ∧ ok = false ∧ v = .tuple ⟨[nilS, .int .i64 2]⟩) ∨ (faultS S = 0 ∧ ok = true ∧ truthsS S = [] ∧ v = .tuple ⟨[nilS, .int .i64 11]⟩) ∨
    (faultS S = 0 ∧ ok = true ∧ truthsS S ≠ [] ∧ ∃ l, v = .tuple ⟨[l, .int .i64 0]⟩ ∧ oneCell l = true ∧ TruthsL h' l S (refTruths S)))
theorem ref_nil {S : MS} (hG : Good S) : refTruths S = [] ↔ truthsS S = [] := by
  constructor
  · intro e
    refine List.eq_nil_iff_forall_not_mem.2 fun x hx => ?_
    have := (refTruths_mem hG).2 hx
    rw [e] at this
    cases this
  · intro e
    refine List.eq_nil_iff_forall_not_mem.2 fun x hx => ?_
    have := (refTruths_mem hG).1 hx
    rw [e] at this
    cases this
def s36 : SCode := (.seq (.ops [⟨(some 2), none, .box (T 0)⟩, ⟨(some 4), none, .mov (.const (.slice none 0 0))⟩, ⟨(some 5), none, .mov (.const (.int .i64 (0)))⟩]) (.seq (.seq (.ops [⟨(some 8), none, .loadN 7 (T 2)⟩, ⟨(some 9), none, .call (.func 29) [(T 8)]⟩, ⟨(some 6), none, .mov (T 9)⟩]) (.seq (.ops [⟨(some 10), none, .mov (T 6)⟩, ⟨(some 11), none, .int2 .neq (T 10) (.const (.int .i64 (0)))⟩]) (.cond (T 11) (.seq (.ops [⟨(some 12), none, .mov (T 6)⟩, ⟨(some 4), none, .mov (.const (.slice none 0 0))⟩, ⟨(some 5), none, .mov (T 12)⟩]) .ret) .skip))) (.seq (.seq (.ops [⟨(some 13), none, .mov (T 1)⟩, ⟨(some 14), none, .not (T 13)⟩]) (.cond (T 14) (.seq (.ops [⟨(some 4), none, .mov (.const (.slice none 0 0))⟩, ⟨(some 5), none, .mov (.const (.int .i64 (2)))⟩]) .ret) .skip)) (.seq (.ops [⟨(some 15), none, .loadN 7 (T 2)⟩, ⟨(some 16), none, .call (.func 68) [(T 15)]⟩, ⟨(some 7), none, .mov (T 16)⟩]) (.seq (.seq (.ops [⟨(some 17), none, .mov (T 7)⟩, ⟨(some 18), none, .len (T 17)⟩, ⟨(some 19), none, .int2 .eql (T 18) (.const (.int .i64 (0)))⟩]) (.cond (T 19) (.seq (.ops [⟨(some 4), none, .mov (.const (.slice none 0 0))⟩, ⟨(some 5), none, .mov (.const (.int .i64 (11)))⟩]) .ret) .skip)) (.seq (.ops [⟨(some 20), none, .mov (T 7)⟩, ⟨(some 4), none, .mov (T 20)⟩, ⟨(some 5), none, .mov (.const (.int .i64 (0)))⟩]) .ret))))))
theorem fok36 : FnOk Try.prog 36 21 s36 [.tmp 4, .tmp 5] := ⟨Try.f36, _, Try.func36, rfl, Try.ntmps36, by kernel_rfl, by kernel_rfl⟩
theorem asked_c (hn : 2210 ≤ n) (hr : h.next + 1100000 < far) (hfl : h.floor ≤ h.next) {wv vv sv : Value} {S : MS} (hy : SteepR h wv vv sv S) (hT : ThinS S) {ok : Bool} :
    ∃ v h', call n (.func (.func 36) #[] #[]) [.agg ⟨stL S wv vv sv⟩, .bool ok] h = some (v, h') ∧ AskR h S ok v h' := by
  obtain ⟨n, rfl⟩ : ∃ p, n = p + 1 := ⟨n - 1, by omega⟩
  refine call_any0 fok36 rfl rfl (by simp) ?_
  simp only [s36, W_seq, W_ops]
  refine ops_box (cs := stL S wv vv sv) (by omega) rfl hy.one fun g1 hx1 => ?_
  have n1 := hx1.next
  have f1' := hx1.floor
  have hy1 := hy.mono hx1.sub
  have w1 := hx1.row.whole (n := 7) rfl
  have ef := faultL_c (n := n) (h := g1) (by omega) (by omega) hy1 hT
  by_cases hf : faultS S = 0
  case neg =>
    simp only [rn0, rn1, rn2, rn3, rn4, rn5, rn6, rn7, rn8, if_true, if_false, Nat.le_refl, true_and, and_true, decide_true, decide_false, Bool.not_true, Bool.not_false, reduceIte, Nat.reduceEqDiff, Nat.reduceAdd, Nat.reduceMul, Nat.reduceSub, Nat.reduceLeDiff, Nat.reduceLT, w1, ef, hf, ret_tt]
    exact ⟨fun i hi => hx1.old i hi, by omega, by omega, by omega, .inl ⟨hf, rfl⟩⟩
  have hG := good_of hf
  cases ok with
  | false =>
    simp only [rn0, rn1, rn2, rn3, rn4, rn5, rn6, rn7, rn8, if_true, if_false, Nat.le_refl, true_and, and_true, decide_true, decide_false, Bool.not_true, Bool.not_false, reduceIte, Nat.reduceEqDiff, Nat.reduceAdd, Nat.reduceMul, Nat.reduceSub, Nat.reduceLeDiff, Nat.reduceLT, w1, ef, hf, ret_tt]
    exact ⟨fun i hi => hx1.old i hi, by omega, by omega, by omega, .inr (.inl ⟨hf, rfl, rfl⟩)⟩
  | true =>
    obtain ⟨v, g2, e2, ht, o1, o2, u2, m2, f2⟩ := truthsRef_c (n := n) (h := g1) (by omega) (by omega) (by omega) hy1 hG
    have hold : ∀ i, i < h.next → g2.get i = h.get i := fun i hi => by rw [o2 i (by omega), hx1.old i hi]
    have hlen : ((refTruths S).length : Int) = 0 ↔ truthsS S = [] := by
      rw [← ref_nil hG, ← List.length_eq_zero_iff]; omega
    by_cases hz : truthsS S = []
    · have hz' := hlen.2 hz
      simp only [rn0, rn1, rn2, rn3, rn4, rn5, rn6, rn7, rn8, if_true, if_false, Nat.le_refl, true_and, and_true, decide_true, decide_false, Bool.not_true, Bool.not_false, reduceIte, Nat.reduceEqDiff, Nat.reduceAdd, Nat.reduceMul, Nat.reduceSub, Nat.reduceLeDiff, Nat.reduceLT, w1, ef, hf, e2, Cells.len ht.choose_spec.choose_spec.1, hz', ret_tt]
      exact ⟨hold, by omega, by omega, by omega, .inr (.inr (.inl ⟨hf, rfl, hz, rfl⟩))⟩
    · have hz' : ¬ ((refTruths S).length : Int) = 0 := fun e => hz (hlen.1 e)
      simp only [rn0, rn1, rn2, rn3, rn4, rn5, rn6, rn7, rn8, if_true, if_false, Nat.le_refl, true_and, and_true, decide_true, decide_false, Bool.not_true, Bool.not_false, reduceIte, Nat.reduceEqDiff, Nat.reduceAdd, Nat.reduceMul, Nat.reduceSub, Nat.reduceLeDiff, Nat.reduceLT, w1, ef, hf, e2, Cells.len ht.choose_spec.choose_spec.1, hz', ret_tt]
      exact ⟨hold, by omega, by omega, by omega, .inr (.inr (.inr ⟨hf, rfl, hz, v, rfl, o1, ht⟩))⟩
end Go.Vm.St

namespace Go.Vm.St
open Go.Proofs Go.Vm.Vat
set_option linter.unusedSimpArgs false
set_option linter.unusedVariables false
set_option maxRecDepth 10000
variable {n : Nat} {h : AHeap}
theorem trs_ld {S : MS} {l : Value} {L : List (Nat → Int)} {R1 R2 : Nat → Value} (hc : Cells h l 3 L.length (trsC S L R1 R2)) {k : Nat} (hk : k < L.length) : loadAgg 3 h (ptrO l 3 k 0) = some (.agg ⟨trL (R1 k) (R2 k) ((L.getD k fun _ => 0) S.nw)⟩) := by
  rw [Cells.ldN hc hk (by omega) (by omega)]; simp [List.range_succ, trsC, trL]
end Go.Vm.St

namespace Go.Vm.St
open Go.Proofs Go.Vm.Vat
set_option linter.unusedSimpArgs false
set_option linter.unusedVariables false
set_option maxRecDepth 10000
variable {n : Nat} {h : AHeap}
/-- the verdict on a smell: 1 always, 2 never, 3 neither -/
noncomputable def verdS (S : MS) (v : Nat) (hh kk : Int) (L : List (Nat → Int)) : Int := open Classical in if ∀ t, t ∈ L → kindS S t v hh ≠ kk then 2 else if ∀ t, t ∈ L → kindS S t v hh = kk then 1 else 3
theorem sumK_at {S : MS} {v : Nat} {L : List (Nat → Int)} {hh kk : Int} (hG : Good S) (ho : HourOk S v hh) : ∀ k, (sumK S v L ((v : Int), hh, kk) k = 0 ↔ ∀ i, i < k → kindS S (L.getD i fun _ => 0) v hh ≠ kk) ∧ (sumK S v L ((v : Int), hh, kk) k = k ↔ ∀ i, i < k → kindS S (L.getD i fun _ => 0) v hh = kk)
  | 0 => by simp [sumK]
  | k + 1 => by
    obtain ⟨h1, h2⟩ := sumK_at hG ho (L := L) (kk := kk) k
    obtain ⟨b1, b2⟩ := sumK_bound (S := S) (v := v) (L := L) (p := ((v : Int), hh, kk)) k
    obtain ⟨m1, _⟩ := hoursN_ok hG ho.isV
    have hlo := ho.isLo
    have hhi := ho.isHi
    have e : oneK S v (L.getD k fun _ => 0) (hoursN S v) ((v : Int), hh, kk) = if kk = kindS S (L.getD k fun _ => 0) v hh then 1 else 0 := by
      unfold oneK
      by_cases c : kk = kindS S (L.getD k fun _ => 0) v hh
      · rw [if_pos ⟨rfl, hlo, by show hh < _; omega, c⟩, if_pos c]
      · rw [if_neg fun q => c q.2.2.2, if_neg c]
    simp only [sumK]
    rw [e]
    by_cases c : kk = kindS S (L.getD k fun _ => 0) v hh
    · rw [if_pos c]
      constructor
      · constructor
        · intro q; omega
        · intro q; exact absurd c.symm (q k (by omega))
      · constructor
        · intro q i hi
          have q' : sumK S v L ((v : Int), hh, kk) k = k := by omega
          by_cases e : i = k
          · rw [e]; exact c.symm
          · exact h2.1 q' i (by omega)
        · intro q
          have := h2.2 fun i hi => q i (by omega)
          omega
    · rw [if_neg c]
      constructor
      · constructor
        · intro q i hi
          have q' : sumK S v L ((v : Int), hh, kk) k = 0 := by omega
          by_cases e : i = k
          · rw [e]; exact fun q => c q.symm
          · exact h1.1 q' i (by omega)
        · intro q
          have := h1.2 fun i hi => q i (by omega)
          omega
      · constructor
        · intro q; omega
        · intro q; exact absurd (q k (by omega)).symm c
theorem all_at {L : List (Nat → Int)} {p : (Nat → Int) → Prop} : (∀ i, i < L.length → p (L.getD i fun _ => 0)) ↔ ∀ t, t ∈ L → p t := by
  constructor
  · intro hp t ht
    obtain ⟨i, hi, e⟩ := mem_getD ht
    rw [← e]
    exact hp i hi
  · intro hp i hi
    exact hp _ (getD_mem hi)
theorem cntK_all {S : MS} {v : Nat} {L : List (Nat → Int)} {p : Int × Int × Int} : cntK S v L L.length 0 p = sumK S v L p L.length := by
  simp only [cntK, oneK]
  rw [if_neg (by omega)]
  omega
open Classical in
theorem verd_cnt {S : MS} {v : Nat} {L : List (Nat → Int)} {hh kk : Int} (hG : Good S) (ho : HourOk S v hh) : (if cntK S v L L.length 0 ((v : Int), hh, kk) = 0 then (2 : Int) else if cntK S v L L.length 0 ((v : Int), hh, kk) = L.length then 1 else 3) = verdS S v hh kk L := by
  obtain ⟨h1, h2⟩ := sumK_at hG ho (L := L) (kk := kk) L.length
  rw [cntK_all]
  unfold verdS
  rw [all_at (p := fun t => kindS S t v hh ≠ kk)] at h1
  rw [all_at (p := fun t => kindS S t v hh = kk)] at h2
  simp only [h1, h2]
def s90 : SCode := (.seq (.ops [⟨(some 4), none, .box (T 0)⟩, ⟨(some 8), none, .mov (.const (.int .i64 (0)))⟩]) (.seq (.seq (.ops [⟨(some 9), none, .mov (T 1)⟩, ⟨(some 10), none, .mov (T 2)⟩, ⟨(some 11), none, .mov (T 3)⟩, ⟨(some 12), none, .build #[(0, 1), (1, 1), (2, 1)] [(.int .i64 (0)), (.int .i64 (0)), (.int .i64 (0))] [0, 1, 2] [(T 10), (T 11), (.const (.int .i64 (1)))]⟩, ⟨(some 13), none, .lookup 89 (.int .i64 (0)) false (T 9) (T 12)⟩]) (.block 0 (.seq (.ops [⟨(some 15), none, .int2 .eql (T 13) (.const (.int .i64 (0)))⟩, ⟨(some 14), none, .mov (T 15)⟩]) (.cond (T 14) (.seq (.ops [⟨(some 8), none, .mov (.const (.int .i64 (2)))⟩]) .ret) (.seq (.ops [⟨(some 17), none, .fieldAddr 7 (T 4)⟩, ⟨(some 18), none, .load1 (T 17)⟩, ⟨(some 19), none, .len (T 18)⟩, ⟨(some 20), none, .int2 .eql (T 13) (T 19)⟩, ⟨(some 16), none, .mov (T 20)⟩]) (.cond (T 16) (.seq (.ops [⟨(some 8), none, .mov (.const (.int .i64 (1)))⟩]) .ret) .skip)))))) (.seq (.ops [⟨(some 8), none, .mov (.const (.int .i64 (3)))⟩]) .ret)))
theorem fok90 : FnOk Try.prog 90 21 s90 [.tmp 8] := ⟨Try.f90, _, Try.func90, rfl, Try.ntmps90, by kernel_rfl, by kernel_rfl⟩
theorem verdict_c (hn : 5 ≤ n) (hr : h.next + 5 < far) {wv vv sv tv : Value} {S : MS} (hy : SteepR h wv vv sv S) (ho1 : oneCell tv = true) (hG : Good S) {L : List (Nat → Int)} (htr : TruthsR h S tv L) {r v : Nat} {hh : Int} (hm : MapF h r key3 (cntK S v L L.length 0)) (ho : HourOk S v hh) :
    call n (.func (.func 90) #[] #[]) [.agg ⟨wkL S wv vv sv tv⟩, .map (some r), .int .i64 (v : Int), .int .i64 hh] h = some (.int .i64 (verdS S v hh 1 L), h) := by
  obtain ⟨n, rfl⟩ : ∃ p, n = p + 1 := ⟨n - 1, by omega⟩
  refine call_plain0 fok90 rfl rfl (by simp) rfl ?_
  have hy := hy.shut
  have htr : TruthsR h.shutAll S tv L := Cells.shut htr
  have hm := hm.shut
  have hr : h.shutAll.next + 5 < far := hr
  generalize h.shutAll = h at hy htr hm hr
  simp only [s90, W_seq, W_ops]
  refine ops_box (cs := wkL S wv vv sv tv) (by omega) rfl (wk_one hy ho1) fun g1 hx1 => ?_
  have n1 := hx1.next
  have htr1 : TruthsR g1 S tv L := Cells.mono htr hx1.sub
  have hm1 : MapF g1 r key3 (cntK S v L L.length 0) := hm.keep (hx1.old _ hm.lt)
  have el := lookupF key89 hm1 ((v : Int), hh, 1)
  have el : lookupA Try.prog 89 (.int .i64 0) false g1 (.map (some r)) (.agg ⟨[.int .i64 (v : Int), .int .i64 hh, .int .i64 1]⟩) = some (.int .i64 (cntK S v L L.length 0 ((v : Int), hh, 1)), g1) := el
  have hv := verd_cnt (L := L) (kk := 1) hG ho
  by_cases c1 : cntK S v L L.length 0 ((v : Int), hh, 1) = 0
  · rw [if_pos c1] at hv
    simp only [rn0, rn1, rn2, rn3, rn4, rn5, rn6, rn7, rn8, if_true, if_false, Nat.le_refl, true_and, and_true, decide_true, decide_false, Bool.not_true, Bool.not_false, reduceIte, Nat.reduceEqDiff, Nat.reduceAdd, Nat.reduceMul, Nat.reduceSub, Nat.reduceLeDiff, Nat.reduceLT, build_sm, x_lookup, el, c1, ← hv]
  · rw [if_neg c1] at hv
    by_cases c2 : cntK S v L L.length 0 ((v : Int), hh, 1) = L.length
    · rw [if_pos c2] at hv
      have c1' : ¬ (L.length : Int) = 0 := by rw [← c2]; exact c1
      simp only [rn0, rn1, rn2, rn3, rn4, rn5, rn6, rn7, rn8, if_true, if_false, Nat.le_refl, true_and, and_true, decide_true, decide_false, Bool.not_true, Bool.not_false, reduceIte, Nat.reduceEqDiff, Nat.reduceAdd, Nat.reduceMul, Nat.reduceSub, Nat.reduceLeDiff, Nat.reduceLT, build_sm, x_lookup, el, c2, c1', hx1.row.ld, wkg, Nat.zero_add, Cells.len htr1, ← hv]
    · rw [if_neg c2] at hv
      simp only [rn0, rn1, rn2, rn3, rn4, rn5, rn6, rn7, rn8, if_true, if_false, Nat.le_refl, true_and, and_true, decide_true, decide_false, Bool.not_true, Bool.not_false, reduceIte, Nat.reduceEqDiff, Nat.reduceAdd, Nat.reduceMul, Nat.reduceSub, Nat.reduceLeDiff, Nat.reduceLT, build_sm, x_lookup, el, c1, hx1.row.ld, wkg, Nat.zero_add, Cells.len htr1, c2, ← hv]
end Go.Vm.St

namespace Go.Vm.St
open Go.Proofs Go.Vm.Vat
set_option linter.unusedSimpArgs false
set_option linter.unusedVariables false
set_option maxRecDepth 10000
variable {n : Nat} {h : AHeap}
end Go.Vm.St

namespace Go.Vm.St
open Go.Proofs Go.Vm.Vat
set_option linter.unusedSimpArgs false
set_option linter.unusedVariables false
set_option maxRecDepth 10000
variable {n : Nat} {h : AHeap}
end Go.Vm.St

namespace Go.Vm.St
open Go.Proofs Go.Vm.Vat
set_option linter.unusedSimpArgs false
set_option linter.unusedVariables false
set_option maxRecDepth 10000
variable {n : Nat} {h : AHeap}
/-! ### The good hours of a vat -/
/-- which hours, counted from Begin, are good -/
noncomputable def gI (S : MS) (v : Nat) (L : List (Nat → Int)) (k : Nat) : List Int := pickL (fun i => verdS S v (S.vb v + (i : Int)) 1 L = 1) k
def gLo (b : Int) (l : List Int) : Int := if l = [] then 0 else b + atL l 0
def gHi (b : Int) (l : List Int) : Int := if l = [] then 0 else b + atL l (l.length - 1)
theorem gLo_nil {b : Int} : gLo b [] = 0 := rfl
theorem gHi_nil {b : Int} : gHi b [] = 0 := rfl
theorem gLo_app {b x : Int} {l : List Int} (hl : l ≠ []) : gLo b (l ++ [x]) = gLo b l := by
  unfold gLo
  rw [if_neg hl, if_neg (by simp), at_append (List.length_pos_iff.2 hl)]
theorem gHi_app {b x : Int} {l : List Int} : gHi b (l ++ [x]) = b + x := by
  unfold gHi
  rw [if_neg (by simp), List.length_append, List.length_singleton, Nat.add_sub_cancel, at_last]
def s93 : SCode := (.seq (.ops [⟨(some 2), none, .box (T 0)⟩, ⟨(some 4), none, .alloc [(.int .i64 (0)), (.int .i64 (0))]⟩, ⟨(some 5), none, .mov (.const (.bool false))⟩]) (.seq (.ops [⟨(some 9), none, .loadN 8 (T 2)⟩, ⟨(some 10), none, .mov (T 1)⟩, ⟨(some 11), none, .call (.func 91) [(T 9), (T 10)]⟩, ⟨(some 6), none, .mov (T 11)⟩]) (.seq (.seq (.ops [⟨(some 12), none, .loadN 8 (T 2)⟩, ⟨(some 13), none, .mov (T 1)⟩, ⟨(some 14), none, .call (.func 107) [(T 12), (T 13)]⟩, ⟨(some 15), none, .mov (.const (.int .i64 (0)))⟩]) (.block 0 (.loop (.seq (.ops [⟨(some 16), none, .int2 .lss (T 15) (T 14)⟩]) (.seq (.cond (T 16) .skip (.exit 0)) (.seq (.block 1 (.seq (.ops [⟨(some 17), none, .mov (T 15)⟩, ⟨(some 7), none, .mov (T 17)⟩]) (.seq (.ops [⟨(some 18), none, .fieldAddr 0 (T 2)⟩, ⟨(some 19), none, .fieldAddr 5 (T 18)⟩, ⟨(some 20), none, .load1 (T 19)⟩, ⟨(some 21), none, .mov (T 1)⟩, ⟨(some 22), none, .idxSl 4 (T 20) (T 21)⟩, ⟨(some 23), none, .fieldAddr 0 (T 22)⟩, ⟨(some 24), none, .load1 (T 23)⟩, ⟨(some 25), none, .mov (T 7)⟩, ⟨(some 26), none, .int2 .add (T 24) (T 25)⟩, ⟨(some 8), none, .mov (T 26)⟩]) (.seq (.seq (.ops [⟨(some 27), none, .loadN 8 (T 2)⟩, ⟨(some 28), none, .mov (T 6)⟩, ⟨(some 29), none, .mov (T 1)⟩, ⟨(some 30), none, .mov (T 8)⟩, ⟨(some 31), none, .call (.func 90) [(T 27), (T 28), (T 29), (T 30)]⟩, ⟨(some 32), none, .int2 .neq (T 31) (.const (.int .i64 (1)))⟩]) (.cond (T 32) (.exit 1) .skip)) (.seq (.seq (.ops [⟨(some 33), none, .mov (T 5)⟩, ⟨(some 34), none, .not (T 33)⟩]) (.cond (T 34) (.ops [⟨(some 35), none, .mov (T 8)⟩, ⟨(some 36), none, .fieldAddr 0 (T 4)⟩, ⟨none, none, .store 1 (T 36) (T 35)⟩]) .skip)) (.ops [⟨(some 37), none, .mov (T 8)⟩, ⟨(some 38), none, .fieldAddr 1 (T 4)⟩, ⟨none, none, .store 1 (T 38) (T 37)⟩, ⟨(some 5), none, .mov (.const (.bool true))⟩])))))) (.ops [⟨(some 39), none, .int2 .add (T 15) (.const (.int .i64 (1)))⟩, ⟨(some 15), none, .mov (T 39)⟩]))))))) (.seq (.ops [⟨(some 40), none, .loadN 2 (T 4)⟩, ⟨(some 41), none, .mov (T 5)⟩, ⟨none, none, .store 2 (T 4) (T 40)⟩, ⟨(some 5), none, .mov (T 41)⟩]) .ret))))
theorem fok93 : FnOk Try.prog 93 42 s93 [.cellN 4 2, .tmp 5] := ⟨Try.f93, _, Try.func93, rfl, Try.ntmps93, by kernel_rfl, by kernel_rfl⟩
set_option maxHeartbeats 2000000 in
theorem goodHours_c (hn : 2320 ≤ n) (hr : h.next + 300000 < far) {wv vv sv tv : Value} {S : MS} (hy : SteepR h wv vv sv S) (ho1 : oneCell tv = true) (hG : Good S) {L : List (Nat → Int)} (hlen : L.length ≤ 2000) (hin : ∀ t, t ∈ L → InU S t) (htr : TruthsR h S tv L) {v : Nat} (hv : v < S.nv) :
    call n (.func (.func 93) #[] #[]) [.agg ⟨wkL S wv vv sv tv⟩, .int .i64 (v : Int)] h = some (.tuple ⟨[.agg ⟨[.int .i64 (gLo (S.vb v) (gI S v L (hoursN S v))), .int .i64 (gHi (S.vb v) (gI S v L (hoursN S v)))]⟩, .bool (decide (gI S v L (hoursN S v) ≠ []))]⟩, h) := by
  obtain ⟨n, rfl⟩ : ∃ p, n = p + 1 := ⟨n - 1, by omega⟩
  refine call_plain0 fok93 rfl rfl (by simp) rfl ?_
  have hy := hy.shut
  have htr : TruthsR h.shutAll S tv L := Cells.shut htr
  have hr : h.shutAll.next + 300000 < far := hr
  have hfl : h.shutAll.floor ≤ h.shutAll.next := Nat.le_refl _
  generalize h.shutAll = h at hy htr hr hfl
  obtain ⟨mh1, mh2, mh3⟩ := hoursN_ok hG hv
  obtain ⟨⟨vb1, vb2⟩, _⟩ := hG.args.vat v hv
  obtain ⟨zl0, zl5, _⟩ := hG.sizes
  simp only [s93, W_seq, W_ops]
  refine ops_box (cs := wkL S wv vv sv tv) (by omega) rfl (wk_one hy ho1) fun g1 hx1 => ?_
  have n1 := hx1.next
  have f1 := hx1.floor
  refine ops_alloc (cs := [.int .i64 0, .int .i64 0]) (by omega) rfl fun g2 hx2 => ?_
  have n2 := hx2.next
  have f2 := hx2.floor
  have s2 : Sub All h g2 := hx1.sub.trans hx2.sub
  have r2 := hx1.row.mono hx2.sub
  obtain ⟨r, g3, ek, hm3, hr3, sub3, u3, m3, f3⟩ := kindsOf_c (n := n) (h := g2) (by omega) (by omega) (by omega) (hy.mono s2) ho1 hG hlen hin (Cells.mono htr s2) hv
  have s3 := s2.trans sub3
  have eh := hoursOf_c (n := n) (h := g3) (by omega) (by omega) (hy.mono s3) ho1 hG hv
  rw [← mh1] at eh
  have r3 := r2.mono sub3
  have q3 : g3.get g1.next = some (.row [.int .i64 0, .int .i64 0] true 0) := sub3 _ _ _ _ trivial hx2.get
  simp only [rn0, rn1, rn2, rn3, rn4, rn5, rn6, rn7, rn8, if_true, if_false, Nat.le_refl, true_and, and_true, decide_true, decide_false, Bool.not_true, Bool.not_false, reduceIte, Nat.reduceEqDiff, Nat.reduceAdd, Nat.reduceMul, Nat.reduceSub, Nat.reduceLeDiff, Nat.reduceLT, r2.whole (n := 8) rfl, ek, r3.whole (n := 8) rfl, eh]
  refine W_loop (hoursN S v) (fun k f g ms => ((∀ i, i ≠ g1.next → g.get i = g3.get i) ∧ g.next = g3.next ∧ g.floor = g3.floor ∧ g.get g1.next = some (.row [.int .i64 (gLo (S.vb v) (gI S v L k)), .int .i64 (gHi (S.vb v) (gI S v L k))] true 0)) ∧ ms = [] ∧ f 1 = .int .i64 (v : Int) ∧ f 2 = .pointer (some ⟨h.next, 0, none⟩) ∧ f 4 = .pointer (some ⟨g1.next, 0, none⟩) ∧ f 5 = .bool (decide (gI S v L k ≠ [])) ∧ f 6 = .map (some r) ∧ f 14 = .int .i64 (hoursN S v : Int) ∧ f 15 = .int .i64 (k : Int)) (by simp; omega) ?_ ?_ ?_
  · have e0 : gI S v L 0 = [] := rfl
    have d0 : decide ((([] : List Int)) ≠ []) = false := rfl
    rw [e0]
    simp only [rn0, rn1, rn2, rn3, rn4, rn5, rn6, rn7, rn8, if_true, if_false, Nat.le_refl, true_and, and_true, decide_true, decide_false, Bool.not_true, Bool.not_false, reduceIte, Nat.reduceEqDiff, Nat.reduceAdd, Nat.reduceMul, Nat.reduceSub, Nat.reduceLeDiff, Nat.reduceLT, gLo_nil, gHi_nil, d0]
    first | exact ⟨⟨fun i _ => trivial, q3⟩, rfl⟩ | exact ⟨⟨fun i _ => rfl, rfl, rfl, q3⟩, rfl⟩ | exact ⟨⟨fun i _ => trivial, trivial, trivial, q3⟩, rfl⟩
  · rintro k f g ms hk ⟨⟨go, gn, gf, gr⟩, rfl, p1, p2, p4, p5, p6, p14, p15⟩
    have hk' : (k : Int) < (hoursN S v : Int) := by omega
    have hw : wrapF .i64 ((k : Int) + 1) = ((k + 1 : Nat) : Int) := by rw [wrap_in (by omega) (by omega)]; rfl
    have hwb : wrapF .i64 (S.vb v + (k : Int)) = S.vb v + (k : Int) := wrap_in (by omega) (by omega)
    have sg : Sub All h g := fun i cs w gr' t hg => by rw [go i (by have := AHeap.lt_of_get hg; omega)]; exact s3 _ _ _ _ t hg
    have hyg := hy.mono sg
    have htg : TruthsR g S tv L := Cells.mono htr sg
    have rg : Row g h.next (wkL S wv vv sv tv) := by
      obtain ⟨w, gr', e⟩ := r3
      exact ⟨w, gr', by rw [go _ (by omega)]; exact e⟩
    have mg : MapF g r key3 (cntK S v L L.length 0) := hm3.keep (go _ (by omega))
    have ev := verdict_c (n := n) (h := g) (by omega) (by omega) hyg ho1 hG htg mg (hour_at hG hv hk)
    by_cases c : verdS S v (S.vb v + (k : Int)) 1 L = 1
    · have eg : gI S v L (k + 1) = gI S v L k ++ [(k : Int)] := pick_yes c
      have hne : decide (gI S v L (k + 1) ≠ []) = true := decide_eq_true (by rw [eg]; simp)
      by_cases c0 : gI S v L k = []
      · have d0 : decide (gI S v L k ≠ []) = false := decide_eq_false (by simpa using c0)
        rw [d0] at p5
        have e1 : gLo (S.vb v) (gI S v L (k + 1)) = S.vb v + (k : Int) := by rw [eg, c0]; rfl
        have e2 : gHi (S.vb v) (gI S v L (k + 1)) = S.vb v + (k : Int) := by rw [eg, gHi_app]
        simp only [rn0, rn1, rn2, rn3, rn4, rn5, rn6, rn7, rn8, if_true, if_false, Nat.le_refl, true_and, and_true, decide_true, decide_false, Bool.not_true, Bool.not_false, reduceIte, Nat.reduceEqDiff, Nat.reduceAdd, Nat.reduceMul, Nat.reduceSub, Nat.reduceLeDiff, Nat.reduceLT, p1, p2, p4, p5, p6, p14, p15, hk', rg.whole (n := 8) rfl, rg.ld, wkg, Nat.zero_add, Nat.add_zero, Cells.idx hyg.v hv, Cells.fld hyg.v hv, begin_ld hyg hv, hwb, ev, c]
        refine step_store (b := g1.next) (off := 0) (vs := [.int .i64 (S.vb v + (k : Int))]) rfl gr (by omega) (by omega) rfl rfl rfl (by simp) fun g4 hs4 => ?_
        have n4 := hs4.next
        have f4 := hs4.floor
        simp only [rn0, rn1, rn2, rn3, rn4, rn5, rn6, rn7, rn8, if_true, if_false, Nat.le_refl, true_and, and_true, decide_true, decide_false, Bool.not_true, Bool.not_false, reduceIte, Nat.reduceEqDiff, Nat.reduceAdd, Nat.reduceMul, Nat.reduceSub, Nat.reduceLeDiff, Nat.reduceLT, p1, p2, p4, p5, p6, p14, p15]
        refine step_store (b := g1.next) (off := 1) (vs := [.int .i64 (S.vb v + (k : Int))]) rfl hs4.get (by omega) (by omega) rfl rfl rfl (by simp [splice]) fun g5 hs5 => ?_
        have n5 := hs5.next
        have f5 := hs5.floor
        simp only [rn0, rn1, rn2, rn3, rn4, rn5, rn6, rn7, rn8, if_true, if_false, Nat.le_refl, true_and, and_true, decide_true, decide_false, Bool.not_true, Bool.not_false, reduceIte, Nat.reduceEqDiff, Nat.reduceAdd, Nat.reduceMul, Nat.reduceSub, Nat.reduceLeDiff, Nat.reduceLT, p1, p2, p4, p5, p6, p14, p15, hw, hne]
        rw [e1, e2]
        exact ⟨fun i hi => by rw [hs5.old i hi, hs4.old i hi, go i hi], by omega, by omega, hs5.get⟩
      · have d0 : decide (gI S v L k ≠ []) = true := decide_eq_true c0
        rw [d0] at p5
        have e1 : gLo (S.vb v) (gI S v L (k + 1)) = gLo (S.vb v) (gI S v L k) := by rw [eg, gLo_app c0]
        have e2 : gHi (S.vb v) (gI S v L (k + 1)) = S.vb v + (k : Int) := by rw [eg, gHi_app]
        simp only [rn0, rn1, rn2, rn3, rn4, rn5, rn6, rn7, rn8, if_true, if_false, Nat.le_refl, true_and, and_true, decide_true, decide_false, Bool.not_true, Bool.not_false, reduceIte, Nat.reduceEqDiff, Nat.reduceAdd, Nat.reduceMul, Nat.reduceSub, Nat.reduceLeDiff, Nat.reduceLT, p1, p2, p4, p5, p6, p14, p15, hk', rg.whole (n := 8) rfl, rg.ld, wkg, Nat.zero_add, Nat.add_zero, Cells.idx hyg.v hv, Cells.fld hyg.v hv, begin_ld hyg hv, hwb, ev, c]
        refine step_store (b := g1.next) (off := 1) (vs := [.int .i64 (S.vb v + (k : Int))]) rfl gr (by omega) (by omega) rfl rfl rfl (by simp) fun g5 hs5 => ?_
        have n5 := hs5.next
        have f5 := hs5.floor
        simp only [rn0, rn1, rn2, rn3, rn4, rn5, rn6, rn7, rn8, if_true, if_false, Nat.le_refl, true_and, and_true, decide_true, decide_false, Bool.not_true, Bool.not_false, reduceIte, Nat.reduceEqDiff, Nat.reduceAdd, Nat.reduceMul, Nat.reduceSub, Nat.reduceLeDiff, Nat.reduceLT, p1, p2, p4, p5, p6, p14, p15, hw, hne]
        rw [e1, e2]
        exact ⟨fun i hi => by rw [hs5.old i hi, go i hi], by omega, by omega, hs5.get⟩
    · have eg : gI S v L (k + 1) = gI S v L k := pick_no c
      simp only [rn0, rn1, rn2, rn3, rn4, rn5, rn6, rn7, rn8, if_true, if_false, Nat.le_refl, true_and, and_true, decide_true, decide_false, Bool.not_true, Bool.not_false, reduceIte, Nat.reduceEqDiff, Nat.reduceAdd, Nat.reduceMul, Nat.reduceSub, Nat.reduceLeDiff, Nat.reduceLT, p1, p2, p4, p5, p6, p14, p15, hk', rg.whole (n := 8) rfl, rg.ld, wkg, Nat.zero_add, Nat.add_zero, Cells.idx hyg.v hv, Cells.fld hyg.v hv, begin_ld hyg hv, hwb, ev, c, hw]
      rw [eg]
      first | exact ⟨⟨go, gn, gf, gr⟩, rfl⟩ | exact ⟨go, gn, gf, gr⟩
  · rintro f g ms ⟨⟨go, gn, gf, gr⟩, rfl, p1, p2, p4, p5, p6, p14, p15⟩
    have rt : Row g g1.next _ := ⟨_, _, gr⟩
    simp only [rn0, rn1, rn2, rn3, rn4, rn5, rn6, rn7, rn8, if_true, if_false, Nat.le_refl, true_and, and_true, decide_true, decide_false, Bool.not_true, Bool.not_false, reduceIte, Nat.reduceEqDiff, Nat.reduceAdd, Nat.reduceMul, Nat.reduceSub, Nat.reduceLeDiff, Nat.reduceLT, p1, p2, p4, p5, p6, p14, p15, Int.lt_irrefl, rt.whole (n := 2) rfl]
    refine step_store (b := g1.next) (off := 0) (vs := [.int .i64 (gLo (S.vb v) (gI S v L (hoursN S v))), .int .i64 (gHi (S.vb v) (gI S v L (hoursN S v)))]) rfl gr (by omega) (by omega) rfl rfl rfl (by simp) fun g6 hs6 => ?_
    rw [splice_all (by rfl)] at hs6
    simp only [rn0, rn1, rn2, rn3, rn4, rn5, rn6, rn7, rn8, if_true, if_false, Nat.le_refl, true_and, and_true, decide_true, decide_false, Bool.not_true, Bool.not_false, reduceIte, Nat.reduceEqDiff, Nat.reduceAdd, Nat.reduceMul, Nat.reduceSub, Nat.reduceLeDiff, Nat.reduceLT, p4, p5, res_two, hs6.row.whole (n := 2) rfl]
end Go.Vm.St

namespace Go.Vm.St
open Go.Proofs Go.Vm.Vat
set_option linter.unusedSimpArgs false
set_option linter.unusedVariables false
set_option maxRecDepth 10000
variable {n : Nat} {h : AHeap}
def s37 : SCode := (.seq (.ops [⟨(some 2), none, .box (T 0)⟩, ⟨(some 4), none, .mov (.const (.bool false))⟩]) (.seq (.ops [⟨(some 5), none, .mov (T 1)⟩, ⟨(some 6), none, .fieldAddr 5 (T 2)⟩, ⟨(some 7), none, .load1 (T 6)⟩, ⟨(some 8), none, .len (T 7)⟩, ⟨(some 9), none, .int2 .sub (T 8) (.const (.int .i64 (1)))⟩, ⟨(some 10), none, .call (.func 42) [(T 5), (.const (.int .i64 (0))), (T 9)]⟩, ⟨(some 4), none, .mov (T 10)⟩]) .ret))
theorem fok37 : FnOk Try.prog 37 11 s37 [.tmp 4] := ⟨Try.f37, _, Try.func37, rfl, Try.ntmps37, by kernel_rfl, by kernel_rfl⟩
theorem vatL_c (hn : 2 ≤ n) (hr : h.next + 2 < far) {wv vv sv : Value} {S : MS} (hy : SteepR h wv vv sv S) (hT : ThinS S) (at_ : Int) :
    call n (.func (.func 37) #[] #[]) [.agg ⟨stL S wv vv sv⟩, .int .i64 at_] h = some (.bool (decide (0 ≤ at_ ∧ at_ ≤ (S.nv : Int) - 1)), h) := by
  obtain ⟨n, rfl⟩ : ∃ p, n = p + 1 := ⟨n - 1, by omega⟩
  obtain ⟨_, t2, _⟩ := hT
  refine call_plain0 fok37 rfl rfl (by simp) rfl ?_
  have hy := hy.shut
  have hr : h.shutAll.next + 2 < far := hr
  generalize h.shutAll = h at hy hr
  simp only [s37, W_seq, W_ops]
  refine ops_box (cs := stL S wv vv sv) (by omega) rfl hy.one fun g1 hx1 => ?_
  have hy1 := hy.mono hx1.sub
  have hw : wrapF .i64 ((S.nv : Int) - 1) = (S.nv : Int) - 1 := wrap_in (by omega) (by omega)
  simp only [rn0, rn1, rn2, rn3, rn4, rn5, rn6, rn7, rn8, if_true, if_false, Nat.le_refl, true_and, and_true, decide_true, decide_false, Bool.not_true, Bool.not_false, reduceIte, Nat.reduceEqDiff, Nat.reduceAdd, Nat.reduceMul, Nat.reduceSub, Nat.reduceLeDiff, Nat.reduceLT, hx1.row.ld, stg, Nat.zero_add, Cells.len hy1.v, hw, in_c (n := n) (h := g1) (by omega)]
end Go.Vm.St

namespace Go.Vm.St
open Go.Proofs Go.Vm.Vat
set_option linter.unusedSimpArgs false
set_option linter.unusedVariables false
set_option maxRecDepth 10000
variable {n : Nat} {h : AHeap}
def s92 : SCode := (.seq (.ops [⟨(some 5), none, .box (T 0)⟩, ⟨(some 10), none, .mov (.const (.int .i64 (0)))⟩]) (.seq (.ops [⟨(some 11), none, .mov (.const (.int .i64 (0)))⟩]) (.seq (.seq (.ops [⟨(some 12), none, .mov (.const (.int .i64 (0)))⟩]) (.block 0 (.loop (.seq (.seq (.ops [⟨(some 13), none, .mov (T 12)⟩, ⟨(some 14), none, .mov (T 1)⟩, ⟨(some 15), none, .len (T 14)⟩, ⟨(some 16), none, .int2 .lss (T 13) (T 15)⟩]) (.cond (T 16) .skip (.exit 0))) (.seq (.block 1 (.seq (.draw [⟨.rd1, ⟨(some 19), none, .loadN 7 (T 5)⟩⟩, ⟨.free, ⟨(some 20), none, .mov (T 1)⟩⟩, ⟨.free, ⟨(some 21), none, .mov (T 12)⟩⟩, ⟨.free, ⟨(some 22), none, .idxSl 3 (T 20) (T 21)⟩⟩, ⟨.rd1, ⟨(some 23), none, .loadN 3 (T 22)⟩⟩, ⟨.free, ⟨(some 24), none, .mov (T 2)⟩⟩, ⟨.free, ⟨(some 25), none, .mov (T 3)⟩⟩, ⟨.any, ⟨(some 26), none, .call (.func 34) [(T 19), (T 23), (T 24), (T 25)]⟩⟩, ⟨.free, ⟨(some 27), none, .mov (T 4)⟩⟩, ⟨.free, ⟨(some 28), none, .int2 .eql (T 26) (T 27)⟩⟩]) (.cond (T 28) (.ops [⟨(some 29), none, .mov (T 11)⟩, ⟨(some 30), none, .int2 .add (T 29) (.const (.int .i64 (1)))⟩, ⟨(some 11), none, .mov (T 30)⟩]) .skip))) (.ops [⟨(some 17), none, .mov (T 12)⟩, ⟨(some 18), none, .int2 .add (T 17) (.const (.int .i64 (1)))⟩, ⟨(some 12), none, .mov (T 18)⟩])))))) (.seq (.ops [⟨(some 31), none, .mov (T 11)⟩, ⟨(some 10), none, .mov (T 31)⟩]) .ret))))
theorem fok92 : FnOk Try.prog 92 32 s92 [.tmp 10] := ⟨Try.f92, _, Try.func92, rfl, Try.ntmps92, by kernel_rfl, by kernel_rfl⟩
theorem kindsRef_c (hn : 2200 ≤ n) (hr : h.next + 100 < far) {wv vv sv l : Value} {S : MS} (hy : SteepR h wv vv sv S) (hG : Good S) {L : List (Nat → Int)} (ht : TruthsL h l S L) (hlen : L.length ≤ 2000) (hin : ∀ t, t ∈ L → InU S t) {v : Nat} {hh : Int} (ho : HourOk S v hh) (kk : Int) :
    call n (.func (.func 92) #[] #[]) [.agg ⟨stL S wv vv sv⟩, l, .int .i64 (v : Int), .int .i64 hh, .int .i64 kk] h = some (.int .i64 ((cntTo (fun i => kindS S (L.getD i fun _ => 0) v hh = kk) L.length : Nat) : Int), h) := by
  obtain ⟨n, rfl⟩ : ∃ p, n = p + 1 := ⟨n - 1, by omega⟩
  refine call_plain0 fok92 rfl rfl (by simp) rfl ?_
  have hy := hy.shut
  obtain ⟨R1, R2, hc, hq⟩ := ht
  have hc := hc.mono (g := h.shutAll) fun _ _ _ _ _ h => h
  have hq := fun k hk => (hq k hk).mono (g := h.shutAll) fun _ _ _ _ _ h => h
  have hr : h.shutAll.next + 100 < far := hr
  generalize h.shutAll = h at hy hc hq hr
  have hat : ∀ i, i < L.length → InU S (L.getD i fun _ => 0) := fun i hi => hin _ (getD_mem hi)
  simp only [s92, W_seq, W_ops]
  refine ops_box (cs := stL S wv vv sv) (by omega) rfl hy.one fun g1 hx1 => ?_
  have n1 := hx1.next
  have hy1 := hy.mono hx1.sub
  have hc1 := hc.mono hx1.sub
  simp only [rn0, rn1, rn2, rn3, rn4, rn5, rn6, rn7, rn8, if_true, if_false, Nat.le_refl, true_and, and_true, decide_true, decide_false, Bool.not_true, Bool.not_false, reduceIte, Nat.reduceEqDiff, Nat.reduceAdd, Nat.reduceMul, Nat.reduceSub, Nat.reduceLeDiff, Nat.reduceLT]
  refine W_loop L.length (fun k f g ms => g = g1 ∧ ms = [] ∧ f 1 = l ∧ f 2 = .int .i64 (v : Int) ∧ f 3 = .int .i64 hh ∧ f 4 = .int .i64 kk ∧ f 5 = .pointer (some ⟨h.next, 0, none⟩) ∧ f 11 = .int .i64 ((cntTo (fun i => kindS S (L.getD i fun _ => 0) v hh = kk) k : Nat) : Int) ∧ f 12 = .int .i64 (k : Int)) (by simp; omega) ?_ ?_ ?_
  · simp only [rn0, rn1, rn2, rn3, rn4, rn5, rn6, rn7, rn8, if_true, if_false, Nat.le_refl, true_and, and_true, decide_true, decide_false, Bool.not_true, Bool.not_false, reduceIte, Nat.reduceEqDiff, Nat.reduceAdd, Nat.reduceMul, Nat.reduceSub, Nat.reduceLeDiff, Nat.reduceLT]
    first | done | trivial | exact ⟨rfl, rfl⟩
  · rintro k f g ms hk ⟨rfl, rfl, p1, p2, p3, p4, p5, p11, p12⟩
    have hk' : (k : Int) < (L.length : Int) := by omega
    have hw : wrapF .i64 ((k : Int) + 1) = ((k + 1 : Nat) : Int) := by rw [wrap_in (by omega) (by omega)]; rfl
    have hcl := cntTo_le (p := fun i => kindS S (L.getD i fun _ => 0) v hh = kk) k
    have ek := kind_c (n := n) (h := g) (by omega) (by omega) hy1 ((hq k hk).mono hx1.sub) hG (hat k hk) ho
    simp only [rn0, rn1, rn2, rn3, rn4, rn5, rn6, rn7, rn8, if_true, if_false, Nat.le_refl, true_and, and_true, decide_true, decide_false, Bool.not_true, Bool.not_false, reduceIte, Nat.reduceEqDiff, Nat.reduceAdd, Nat.reduceMul, Nat.reduceSub, Nat.reduceLeDiff, Nat.reduceLT, p1, p2, p3, p4, p5, p11, p12, Cells.len hc1, hk']
    refine W_draw All ?_
    by_cases e : kindS S (L.getD k fun _ => 0) v hh = kk
    · have hcy := cntTo_yes (p := fun i => kindS S (L.getD i fun _ => 0) v hh = kk) (k := k) e
      have hwc : wrapF .i64 (((cntTo (fun i => kindS S (L.getD i fun _ => 0) v hh = kk) k : Nat) : Int) + 1) = ((cntTo (fun i => kindS S (L.getD i fun _ => 0) v hh = kk) (k + 1) : Nat) : Int) := by rw [hcy, wrap_in (by omega) (by omega)]; rfl
      simp only [rn0, rn1, rn2, rn3, rn4, rn5, rn6, rn7, rn8, if_true, if_false, Nat.le_refl, true_and, and_true, decide_true, decide_false, Bool.not_true, Bool.not_false, reduceIte, Nat.reduceEqDiff, Nat.reduceAdd, Nat.reduceMul, Nat.reduceSub, Nat.reduceLeDiff, Nat.reduceLT, p1, p2, p3, p4, p5, p11, p12, hx1.row.whole (n := 7) rfl, Cells.idx hc1 hk, trs_ld hc1 hk, ek, e, hwc, hw]
    · have hcn := cntTo_no (p := fun i => kindS S (L.getD i fun _ => 0) v hh = kk) (k := k) e
      simp only [rn0, rn1, rn2, rn3, rn4, rn5, rn6, rn7, rn8, if_true, if_false, Nat.le_refl, true_and, and_true, decide_true, decide_false, Bool.not_true, Bool.not_false, reduceIte, Nat.reduceEqDiff, Nat.reduceAdd, Nat.reduceMul, Nat.reduceSub, Nat.reduceLeDiff, Nat.reduceLT, p1, p2, p3, p4, p5, p11, p12, hx1.row.whole (n := 7) rfl, Cells.idx hc1 hk, trs_ld hc1 hk, ek, e, hcn, hw]
  · rintro f g ms ⟨rfl, rfl, p1, p2, p3, p4, p5, p11, p12⟩
    simp only [rn0, rn1, rn2, rn3, rn4, rn5, rn6, rn7, rn8, if_true, if_false, Nat.le_refl, true_and, and_true, decide_true, decide_false, Bool.not_true, Bool.not_false, reduceIte, Nat.reduceEqDiff, Nat.reduceAdd, Nat.reduceMul, Nat.reduceSub, Nat.reduceLeDiff, Nat.reduceLT, p1, p2, p3, p4, p5, p11, p12, Cells.len hc1, Int.lt_irrefl]
end Go.Vm.St

namespace Go.Vm.St
open Go.Proofs Go.Vm.Vat
set_option linter.unusedSimpArgs false
set_option linter.unusedVariables false
set_option maxRecDepth 10000
variable {n : Nat} {h : AHeap}
theorem verd_ref {S : MS} (hG : Good S) {v : Nat} {hh kk : Int} (hne : truthsS S ≠ []) :
    (if ((cntTo (fun i => kindS S ((refTruths S).getD i fun _ => 0) v hh = kk) (refTruths S).length : Nat) : Int) = ((refTruths S).length : Int) then (1 : Int) else if ((cntTo (fun i => kindS S ((refTruths S).getD i fun _ => 0) v hh = kk) (refTruths S).length : Nat) : Int) = 0 then 2 else 3) = verdS S v hh kk (truthsS S) := by
  have hRne : refTruths S ≠ [] := fun e => hne ((ref_nil hG).1 e)
  have hall := cntTo_all (p := fun i => kindS S ((refTruths S).getD i fun _ => 0) v hh = kk) (refTruths S).length
  have hnone := cntTo_none (p := fun i => kindS S ((refTruths S).getD i fun _ => 0) v hh = kk) (refTruths S).length
  rw [all_at (p := fun t => kindS S t v hh = kk)] at hall
  rw [all_at (p := fun t => ¬ kindS S t v hh = kk)] at hnone
  have h1 : (∀ t, t ∈ refTruths S → kindS S t v hh = kk) ↔ ∀ t, t ∈ truthsS S → kindS S t v hh = kk := ⟨fun q t ht => q t ((refTruths_mem hG).2 ht), fun q t ht => q t ((refTruths_mem hG).1 ht)⟩
  have h2 : (∀ t, t ∈ refTruths S → ¬ kindS S t v hh = kk) ↔ ∀ t, t ∈ truthsS S → kindS S t v hh ≠ kk := ⟨fun q t ht => q t ((refTruths_mem hG).2 ht), fun q t ht => q t ((refTruths_mem hG).1 ht)⟩
  rw [h1] at hall
  rw [h2] at hnone
  obtain ⟨t, ht⟩ := List.exists_mem_of_ne_nil _ hne
  unfold verdS
  by_cases c1 : ∀ t, t ∈ truthsS S → kindS S t v hh ≠ kk
  · have c2 : ¬ ∀ t, t ∈ truthsS S → kindS S t v hh = kk := fun q => c1 t ht (q t ht)
    have e0 := hnone.2 c1
    have e1 : ¬ cntTo (fun i => kindS S ((refTruths S).getD i fun _ => 0) v hh = kk) (refTruths S).length = (refTruths S).length := fun q => c2 (hall.1 q)
    rw [if_neg (by omega), if_pos (by omega), if_pos c1]
  · have e0 : ¬ cntTo (fun i => kindS S ((refTruths S).getD i fun _ => 0) v hh = kk) (refTruths S).length = 0 := fun q => c1 (hnone.1 q)
    rw [if_neg c1]
    by_cases c2 : ∀ t, t ∈ truthsS S → kindS S t v hh = kk
    · have e1 := hall.2 c2
      rw [if_pos (by omega), if_pos c2]
    · have e1 : ¬ cntTo (fun i => kindS S ((refTruths S).getD i fun _ => 0) v hh = kk) (refTruths S).length = (refTruths S).length := fun q => c2 (hall.1 q)
      rw [if_neg (by omega), if_neg (by omega), if_neg c2]
def s43 : SCode := (.seq (.ops [⟨(some 4), none, .box (T 0)⟩, ⟨(some 8), none, .mov (.const (.int .i64 (0)))⟩]) (.seq (.ops [⟨(some 10), none, .loadN 7 (T 4)⟩, ⟨(some 11), none, .mov (T 1)⟩, ⟨(some 12), none, .mov (T 2)⟩, ⟨(some 13), none, .mov (T 3)⟩, ⟨(some 14), none, .call (.func 92) [(T 10), (T 11), (T 12), (T 13), (.const (.int .i64 (1)))]⟩, ⟨(some 9), none, .mov (T 14)⟩]) (.seq (.seq (.ops [⟨(some 15), none, .mov (T 9)⟩, ⟨(some 16), none, .mov (T 1)⟩, ⟨(some 17), none, .len (T 16)⟩, ⟨(some 18), none, .int2 .eql (T 15) (T 17)⟩]) (.cond (T 18) (.seq (.ops [⟨(some 8), none, .mov (.const (.int .i64 (1)))⟩]) .ret) .skip)) (.seq (.seq (.ops [⟨(some 19), none, .mov (T 9)⟩, ⟨(some 20), none, .int2 .eql (T 19) (.const (.int .i64 (0)))⟩]) (.cond (T 20) (.seq (.ops [⟨(some 8), none, .mov (.const (.int .i64 (2)))⟩]) .ret) .skip)) (.seq (.ops [⟨(some 8), none, .mov (.const (.int .i64 (3)))⟩]) .ret)))))
theorem fok43 : FnOk Try.prog 43 21 s43 [.tmp 8] := ⟨Try.f43, _, Try.func43, rfl, Try.ntmps43, by kernel_rfl, by kernel_rfl⟩
theorem verdictRef_c (hn : 2210 ≤ n) (hr : h.next + 200 < far) {wv vv sv l : Value} {S : MS} (hy : SteepR h wv vv sv S) (hG : Good S) (hne : truthsS S ≠ []) (ht : TruthsL h l S (refTruths S)) {v : Nat} {hh : Int} (ho : HourOk S v hh) :
    call n (.func (.func 43) #[] #[]) [.agg ⟨stL S wv vv sv⟩, l, .int .i64 (v : Int), .int .i64 hh] h = some (.int .i64 (verdS S v hh 1 (truthsS S)), h) := by
  obtain ⟨n, rfl⟩ : ∃ p, n = p + 1 := ⟨n - 1, by omega⟩
  refine call_plain0 fok43 rfl rfl (by simp) rfl ?_
  have hy := hy.shut
  obtain ⟨R1, R2, hc, hq⟩ := ht
  have hc := hc.mono (g := h.shutAll) fun _ _ _ _ _ h => h
  have hq := fun k hk => (hq k hk).mono (g := h.shutAll) fun _ _ _ _ _ h => h
  have hr : h.shutAll.next + 200 < far := hr
  generalize h.shutAll = h at hy hc hq hr
  have hRlen : (refTruths S).length ≤ 2000 := Nat.le_trans refTo_len (by have := many_pos hG; omega)
  simp only [s43, W_seq, W_ops]
  refine ops_box (cs := stL S wv vv sv) (by omega) rfl hy.one fun g1 hx1 => ?_
  have n1 := hx1.next
  have ek := kindsRef_c (n := n) (h := g1) (by omega) (by omega) (hy.mono hx1.sub) hG ⟨R1, R2, hc.mono hx1.sub, fun k hk => (hq k hk).mono hx1.sub⟩ hRlen (fun t ht => (truths_mem.1 ((refTruths_mem hG).1 ht)).1.1) ho 1
  have hv := verd_ref hG (v := v) (hh := hh) (kk := 1) hne
  have hc1 := hc.mono hx1.sub
  by_cases c1 : ((cntTo (fun i => kindS S ((refTruths S).getD i fun _ => 0) v hh = 1) (refTruths S).length : Nat) : Int) = ((refTruths S).length : Int)
  · rw [if_pos c1] at hv
    simp only [rn0, rn1, rn2, rn3, rn4, rn5, rn6, rn7, rn8, if_true, if_false, Nat.le_refl, true_and, and_true, decide_true, decide_false, Bool.not_true, Bool.not_false, reduceIte, Nat.reduceEqDiff, Nat.reduceAdd, Nat.reduceMul, Nat.reduceSub, Nat.reduceLeDiff, Nat.reduceLT, hx1.row.whole (n := 7) rfl, ek, Cells.len hc1, c1, ← hv]
  · rw [if_neg c1] at hv
    by_cases c2 : ((cntTo (fun i => kindS S ((refTruths S).getD i fun _ => 0) v hh = 1) (refTruths S).length : Nat) : Int) = 0
    · rw [if_pos c2] at hv
      have c3 : ¬ (0 : Int) = ((refTruths S).length : Int) := by rw [← c2]; exact c1
      simp only [rn0, rn1, rn2, rn3, rn4, rn5, rn6, rn7, rn8, if_true, if_false, Nat.le_refl, true_and, and_true, decide_true, decide_false, Bool.not_true, Bool.not_false, reduceIte, Nat.reduceEqDiff, Nat.reduceAdd, Nat.reduceMul, Nat.reduceSub, Nat.reduceLeDiff, Nat.reduceLT, hx1.row.whole (n := 7) rfl, ek, Cells.len hc1, c2, c3, ← hv]
    · rw [if_neg c2] at hv
      simp only [rn0, rn1, rn2, rn3, rn4, rn5, rn6, rn7, rn8, if_true, if_false, Nat.le_refl, true_and, and_true, decide_true, decide_false, Bool.not_true, Bool.not_false, reduceIte, Nat.reduceEqDiff, Nat.reduceAdd, Nat.reduceMul, Nat.reduceSub, Nat.reduceLeDiff, Nat.reduceLT, hx1.row.whole (n := 7) rfl, ek, Cells.len hc1, c1, c2, ← hv]
end Go.Vm.St

namespace Go.Vm.St
open Go.Proofs Go.Vm.Vat
set_option linter.unusedSimpArgs false
set_option linter.unusedVariables false
set_option maxRecDepth 10000
variable {n : Nat} {h : AHeap}
theorem build_rng0 : buildA (fun x => (#[(0, 1), (1, 1)] : Array (Nat × Nat))[x]?) ⟨[.int .i64 0, .int .i64 0]⟩ [] h [] = some (.agg ⟨[.int .i64 0, .int .i64 0]⟩, h) := id rfl
open Classical in
/-- the error of a question on a vat -/
noncomputable def errV (S : MS) (at_ : Int) : Int := if faultS S ≠ 0 then faultS S else if ¬ InV S at_ then 2 else if truthsS S = [] then 11 else 0
noncomputable def gAll (S : MS) (v : Nat) : List Int := gI S v (truthsS S) (hoursN S v)
/-- what 'Good' answers -/
noncomputable def goodE (S : MS) (at_ : Int) : Int := if errV S at_ = 0 then (if gAll S at_.toNat = [] then 10 else 0) else errV S at_
noncomputable def goodLo (S : MS) (at_ : Int) : Int := if errV S at_ = 0 then gLo (S.vb at_.toNat) (gAll S at_.toNat) else 0
noncomputable def goodHi (S : MS) (at_ : Int) : Int := if errV S at_ = 0 then gHi (S.vb at_.toNat) (gAll S at_.toNat) else 0
theorem errV_1 {S : MS} {at_ : Int} (hf : faultS S ≠ 0) : errV S at_ = faultS S := if_pos hf
theorem errV_2 {S : MS} {at_ : Int} (hf : faultS S = 0) (hv : ¬ InV S at_) : errV S at_ = 2 := by unfold errV; rw [if_neg (by simpa using hf), if_pos hv]
theorem errV_3 {S : MS} {at_ : Int} (hf : faultS S = 0) (hv : InV S at_) (hz : truthsS S = []) : errV S at_ = 11 := by unfold errV; rw [if_neg (by simpa using hf), if_neg (by intro q; exact q hv), if_pos hz]
theorem errV_4 {S : MS} {at_ : Int} (hf : faultS S = 0) (hv : InV S at_) (hz : truthsS S ≠ []) : errV S at_ = 0 := by unfold errV; rw [if_neg (by simpa using hf), if_neg (by intro q; exact q hv), if_neg hz]
theorem good_err {S : MS} {at_ : Int} (he : errV S at_ ≠ 0) : goodE S at_ = errV S at_ ∧ goodLo S at_ = 0 ∧ goodHi S at_ = 0 := ⟨if_neg he, if_neg he, if_neg he⟩
theorem good_ok {S : MS} {at_ : Int} (he : errV S at_ = 0) : goodE S at_ = (if gAll S at_.toNat = [] then 10 else 0) ∧ goodLo S at_ = gLo (S.vb at_.toNat) (gAll S at_.toNat) ∧ goodHi S at_ = gHi (S.vb at_.toNat) (gAll S at_.toNat) := ⟨if_pos he, if_pos he, if_pos he⟩
def s44 : SCode := (.seq (.ops [⟨(some 2), none, .box (T 0)⟩, ⟨(some 4), none, .alloc [(.int .i64 (0)), (.int .i64 (0))]⟩, ⟨(some 5), none, .mov (.const (.int .i64 (0)))⟩]) (.seq (.ops [⟨(some 11), none, .loadN 7 (T 2)⟩, ⟨(some 12), none, .mov (T 1)⟩, ⟨(some 13), none, .call (.func 88) [(T 11), (T 12), (.const (.slice none 0 0))]⟩, ⟨(some 10), none, .mov (T 13)⟩, ⟨(some 14), none, .extract 0 (T 10)⟩, ⟨(some 15), none, .extract 1 (T 10)⟩, ⟨(some 6), none, .alloc [(.int .i64 (0)), (.int .i64 (0)), (.slice none 0 0), (.int .i64 (0)), (.int .i64 (0)), (.slice none 0 0), (.slice none 0 0), (.slice none 0 0)]⟩, ⟨none, none, .store 8 (T 6) (T 14)⟩, ⟨(some 7), none, .mov (T 15)⟩]) (.seq (.seq (.ops [⟨(some 16), none, .mov (T 7)⟩, ⟨(some 17), none, .int2 .neq (T 16) (.const (.int .i64 (0)))⟩]) (.cond (T 17) (.seq (.ops [⟨(some 18), none, .build #[(0, 1), (1, 1)] [(.int .i64 (0)), (.int .i64 (0))] [] []⟩, ⟨(some 19), none, .mov (T 7)⟩, ⟨none, none, .store 2 (T 4) (T 18)⟩, ⟨(some 5), none, .mov (T 19)⟩]) .ret) .skip)) (.seq (.ops [⟨(some 21), none, .loadN 8 (T 6)⟩, ⟨(some 22), none, .mov (T 1)⟩, ⟨(some 23), none, .call (.func 93) [(T 21), (T 22)]⟩, ⟨(some 20), none, .mov (T 23)⟩, ⟨(some 24), none, .extract 0 (T 20)⟩, ⟨(some 25), none, .extract 1 (T 20)⟩, ⟨(some 8), none, .alloc [(.int .i64 (0)), (.int .i64 (0))]⟩, ⟨none, none, .store 2 (T 8) (T 24)⟩, ⟨(some 9), none, .mov (T 25)⟩]) (.seq (.seq (.ops [⟨(some 26), none, .mov (T 9)⟩, ⟨(some 27), none, .not (T 26)⟩]) (.cond (T 27) (.seq (.ops [⟨(some 28), none, .build #[(0, 1), (1, 1)] [(.int .i64 (0)), (.int .i64 (0))] [] []⟩, ⟨none, none, .store 2 (T 4) (T 28)⟩, ⟨(some 5), none, .mov (.const (.int .i64 (10)))⟩]) .ret) .skip)) (.seq (.ops [⟨(some 29), none, .loadN 2 (T 8)⟩, ⟨none, none, .store 2 (T 4) (T 29)⟩, ⟨(some 5), none, .mov (.const (.int .i64 (0)))⟩]) .ret))))))
theorem fok44 : FnOk Try.prog 44 30 s44 [.cellN 4 2, .tmp 5] := ⟨Try.f44, _, Try.func44, rfl, Try.ntmps44, by kernel_rfl, by kernel_rfl⟩
set_option maxHeartbeats 2000000 in
theorem goodP_c (hn : 2500 ≤ n) (hr : h.next + 1200000 < far) {wv vv sv : Value} {S : MS} (hy : SteepR h wv vv sv S) (hT : ThinS S) (at_ : Int) :
    call n (.func (.func 44) #[] #[]) [.agg ⟨stL S wv vv sv⟩, .int .i64 at_] h = some (.tuple ⟨[.agg ⟨[.int .i64 (goodLo S at_), .int .i64 (goodHi S at_)]⟩, .int .i64 (goodE S at_)]⟩, h) := by
  obtain ⟨n, rfl⟩ : ∃ p, n = p + 1 := ⟨n - 1, by omega⟩
  refine call_plain0 fok44 rfl rfl (by simp) rfl ?_
  have hy := hy.shut
  have hr : h.shutAll.next + 1200000 < far := hr
  have hfl : h.shutAll.floor ≤ h.shutAll.next := Nat.le_refl _
  generalize h.shutAll = h at hy hr hfl
  simp only [s44, W_seq, W_ops]
  refine ops_box (cs := stL S wv vv sv) (by omega) rfl hy.one fun g1 hx1 => ?_
  have n1 := hx1.next
  have f1 := hx1.floor
  refine ops_alloc (cs := [.int .i64 0, .int .i64 0]) (by omega) rfl fun g2 hx2 => ?_
  have n2 := hx2.next
  have f2 := hx2.floor
  have sub2 : Sub All h g2 := hx1.sub.trans hx2.sub
  have w2 := (hx1.row.mono hx2.sub).whole (n := 7) rfl
  obtain ⟨pv, g3, eo, o3, u3, m3, f3, hp⟩ := openVat_c (n := n) (h := g2) (by omega) (by omega) (by omega) (hy.mono sub2) hT at_
  have sub3 : Sub All h g3 := sub2.trans (AHeap.subOf o3)
  have q3 : g3.get g1.next = some (.row [.int .i64 0, .int .i64 0] true 0) := by rw [o3 _ (by omega)]; exact hx2.get
  have z20 : ¬ (2 : Int) = 0 := by decide
  have z110 : ¬ (11 : Int) = 0 := by decide
  rcases hp with ⟨hf, rfl⟩ | ⟨hf, hv, rfl⟩ | ⟨hf, hv, hz, rfl⟩ | ⟨hf, hv, hz, tv, rfl, hone, htr, hlong⟩
  · have e0 : errV S at_ = faultS S := errV_1 hf
    obtain ⟨q1, q2, q3'⟩ := good_err (S := S) (at_ := at_) (by rw [e0]; exact hf)
    rw [q1, q2, q3', e0]
    simp only [rn0, rn1, rn2, rn3, rn4, rn5, rn6, rn7, rn8, if_true, if_false, Nat.le_refl, true_and, and_true, decide_true, decide_false, Bool.not_true, Bool.not_false, reduceIte, Nat.reduceEqDiff, Nat.reduceAdd, Nat.reduceMul, Nat.reduceSub, Nat.reduceLeDiff, Nat.reduceLT, w2, eo, ex0, ex1]
    refine step_new (vs := wk0) (by omega) (by omega) rfl (by simp only [rn0, rn1, rn2, rn3, rn4, rn5, rn6, rn7, rn8, if_true, if_false, Nat.le_refl, true_and, and_true, decide_true, decide_false, Bool.not_true, Bool.not_false, reduceIte, Nat.reduceEqDiff, Nat.reduceAdd, Nat.reduceMul, Nat.reduceSub, Nat.reduceLeDiff, Nat.reduceLT]; rfl) rfl rfl rfl fun g4 hx4 => ?_
    have n4 := hx4.next
    have f4 := hx4.floor
    simp only [rn0, rn1, rn2, rn3, rn4, rn5, rn6, rn7, rn8, if_true, if_false, Nat.le_refl, true_and, and_true, decide_true, decide_false, Bool.not_true, Bool.not_false, reduceIte, Nat.reduceEqDiff, Nat.reduceAdd, Nat.reduceMul, Nat.reduceSub, Nat.reduceLeDiff, Nat.reduceLT, hf, build_rng0]
    refine step_store (b := g1.next) (off := 0) (vs := [.int .i64 0, .int .i64 0]) rfl (by rw [hx4.old _ (by omega)]; exact q3) (by omega) (by omega) rfl rfl rfl (by simp) fun g6 hs6 => ?_
    rw [splice_all (by rfl)] at hs6
    simp only [rn0, rn1, rn2, rn3, rn4, rn5, rn6, rn7, rn8, if_true, if_false, Nat.le_refl, true_and, and_true, decide_true, decide_false, Bool.not_true, Bool.not_false, reduceIte, Nat.reduceEqDiff, Nat.reduceAdd, Nat.reduceMul, Nat.reduceSub, Nat.reduceLeDiff, Nat.reduceLT, res_two, hs6.row.whole (n := 2) rfl]
  · have e0 : errV S at_ = 2 := errV_2 hf hv
    obtain ⟨q1, q2, q3'⟩ := good_err (S := S) (at_ := at_) (by rw [e0]; exact z20)
    rw [q1, q2, q3', e0]
    simp only [rn0, rn1, rn2, rn3, rn4, rn5, rn6, rn7, rn8, if_true, if_false, Nat.le_refl, true_and, and_true, decide_true, decide_false, Bool.not_true, Bool.not_false, reduceIte, Nat.reduceEqDiff, Nat.reduceAdd, Nat.reduceMul, Nat.reduceSub, Nat.reduceLeDiff, Nat.reduceLT, w2, eo, ex0, ex1]
    refine step_new (vs := wk0) (by omega) (by omega) rfl (by simp only [rn0, rn1, rn2, rn3, rn4, rn5, rn6, rn7, rn8, if_true, if_false, Nat.le_refl, true_and, and_true, decide_true, decide_false, Bool.not_true, Bool.not_false, reduceIte, Nat.reduceEqDiff, Nat.reduceAdd, Nat.reduceMul, Nat.reduceSub, Nat.reduceLeDiff, Nat.reduceLT]; rfl) rfl rfl rfl fun g4 hx4 => ?_
    have n4 := hx4.next
    have f4 := hx4.floor
    simp only [rn0, rn1, rn2, rn3, rn4, rn5, rn6, rn7, rn8, if_true, if_false, Nat.le_refl, true_and, and_true, decide_true, decide_false, Bool.not_true, Bool.not_false, reduceIte, Nat.reduceEqDiff, Nat.reduceAdd, Nat.reduceMul, Nat.reduceSub, Nat.reduceLeDiff, Nat.reduceLT, z20, build_rng0]
    refine step_store (b := g1.next) (off := 0) (vs := [.int .i64 0, .int .i64 0]) rfl (by rw [hx4.old _ (by omega)]; exact q3) (by omega) (by omega) rfl rfl rfl (by simp) fun g6 hs6 => ?_
    rw [splice_all (by rfl)] at hs6
    simp only [rn0, rn1, rn2, rn3, rn4, rn5, rn6, rn7, rn8, if_true, if_false, Nat.le_refl, true_and, and_true, decide_true, decide_false, Bool.not_true, Bool.not_false, reduceIte, Nat.reduceEqDiff, Nat.reduceAdd, Nat.reduceMul, Nat.reduceSub, Nat.reduceLeDiff, Nat.reduceLT, res_two, hs6.row.whole (n := 2) rfl]
  · have e0 : errV S at_ = 11 := errV_3 hf hv hz
    obtain ⟨q1, q2, q3'⟩ := good_err (S := S) (at_ := at_) (by rw [e0]; exact z110)
    rw [q1, q2, q3', e0]
    simp only [rn0, rn1, rn2, rn3, rn4, rn5, rn6, rn7, rn8, if_true, if_false, Nat.le_refl, true_and, and_true, decide_true, decide_false, Bool.not_true, Bool.not_false, reduceIte, Nat.reduceEqDiff, Nat.reduceAdd, Nat.reduceMul, Nat.reduceSub, Nat.reduceLeDiff, Nat.reduceLT, w2, eo, ex0, ex1]
    refine step_new (vs := wk0) (by omega) (by omega) rfl (by simp only [rn0, rn1, rn2, rn3, rn4, rn5, rn6, rn7, rn8, if_true, if_false, Nat.le_refl, true_and, and_true, decide_true, decide_false, Bool.not_true, Bool.not_false, reduceIte, Nat.reduceEqDiff, Nat.reduceAdd, Nat.reduceMul, Nat.reduceSub, Nat.reduceLeDiff, Nat.reduceLT]; rfl) rfl rfl rfl fun g4 hx4 => ?_
    have n4 := hx4.next
    have f4 := hx4.floor
    simp only [rn0, rn1, rn2, rn3, rn4, rn5, rn6, rn7, rn8, if_true, if_false, Nat.le_refl, true_and, and_true, decide_true, decide_false, Bool.not_true, Bool.not_false, reduceIte, Nat.reduceEqDiff, Nat.reduceAdd, Nat.reduceMul, Nat.reduceSub, Nat.reduceLeDiff, Nat.reduceLT, z110, build_rng0]
    refine step_store (b := g1.next) (off := 0) (vs := [.int .i64 0, .int .i64 0]) rfl (by rw [hx4.old _ (by omega)]; exact q3) (by omega) (by omega) rfl rfl rfl (by simp) fun g6 hs6 => ?_
    rw [splice_all (by rfl)] at hs6
    simp only [rn0, rn1, rn2, rn3, rn4, rn5, rn6, rn7, rn8, if_true, if_false, Nat.le_refl, true_and, and_true, decide_true, decide_false, Bool.not_true, Bool.not_false, reduceIte, Nat.reduceEqDiff, Nat.reduceAdd, Nat.reduceMul, Nat.reduceSub, Nat.reduceLeDiff, Nat.reduceLT, res_two, hs6.row.whole (n := 2) rfl]
  · have hG := good_of hf
    have e0 : errV S at_ = 0 := errV_4 hf hv hz
    obtain ⟨q1, q2, q3'⟩ := good_ok e0
    rw [q1, q2, q3']
    have how := wk_one hy (tv := tv) hone
    obtain ⟨va, hva⟩ : ∃ va : Nat, at_ = (va : Int) := ⟨at_.toNat, by unfold InV at hv; omega⟩
    subst hva
    have hvn : va < S.nv := by unfold InV at hv; omega
    simp only [Int.toNat_natCast]
    simp only [rn0, rn1, rn2, rn3, rn4, rn5, rn6, rn7, rn8, if_true, if_false, Nat.le_refl, true_and, and_true, decide_true, decide_false, Bool.not_true, Bool.not_false, reduceIte, Nat.reduceEqDiff, Nat.reduceAdd, Nat.reduceMul, Nat.reduceSub, Nat.reduceLeDiff, Nat.reduceLT, w2, eo, ex0, ex1]
    refine step_new (vs := wkL S wv vv sv tv) (by omega) (by omega) rfl (by simp only [rn0, rn1, rn2, rn3, rn4, rn5, rn6, rn7, rn8, if_true, if_false, Nat.le_refl, true_and, and_true, decide_true, decide_false, Bool.not_true, Bool.not_false, reduceIte, Nat.reduceEqDiff, Nat.reduceAdd, Nat.reduceMul, Nat.reduceSub, Nat.reduceLeDiff, Nat.reduceLT]; rfl) how rfl rfl fun g4 hx4 => ?_
    have n4 := hx4.next
    have f4 := hx4.floor
    have sub4 := sub3.trans hx4.sub
    have htr4 : TruthsR g4 S tv (truthsS S) := Cells.mono htr hx4.sub
    have q4 : g4.get g1.next = some (.row [.int .i64 0, .int .i64 0] true 0) := by rw [hx4.old _ (by omega)]; exact q3
    have eg := goodHours_c (n := n) (h := g4) (by omega) (by omega) (hy.mono sub4) hone hG (truths_len hG) (fun t ht => (truths_mem.1 ht).1.1) htr4 hvn
    change call n _ _ g4 = some (.tuple ⟨[.agg ⟨[.int .i64 (gLo (S.vb va) (gAll S va)), .int .i64 (gHi (S.vb va) (gAll S va))]⟩, .bool (decide (gAll S va ≠ []))]⟩, g4) at eg
    by_cases c : gAll S va = []
    · have d0 : decide (gAll S va ≠ []) = false := decide_eq_false (by simpa using c)
      rw [if_pos c, c, gLo_nil, gHi_nil]
      rw [d0, c, gLo_nil, gHi_nil] at eg
      simp only [rn0, rn1, rn2, rn3, rn4, rn5, rn6, rn7, rn8, if_true, if_false, Nat.le_refl, true_and, and_true, decide_true, decide_false, Bool.not_true, Bool.not_false, reduceIte, Nat.reduceEqDiff, Nat.reduceAdd, Nat.reduceMul, Nat.reduceSub, Nat.reduceLeDiff, Nat.reduceLT, hx4.row.whole (n := 8) rfl, eg, ex0, ex1]
      refine step_new (vs := [.int .i64 0, .int .i64 0]) (by omega) (by omega) rfl (by simp only [rn0, rn1, rn2, rn3, rn4, rn5, rn6, rn7, rn8, if_true, if_false, Nat.le_refl, true_and, and_true, decide_true, decide_false, Bool.not_true, Bool.not_false, reduceIte, Nat.reduceEqDiff, Nat.reduceAdd, Nat.reduceMul, Nat.reduceSub, Nat.reduceLeDiff, Nat.reduceLT]; rfl) rfl rfl rfl fun g5 hx5 => ?_
      have n5 := hx5.next
      have f5 := hx5.floor
      simp only [rn0, rn1, rn2, rn3, rn4, rn5, rn6, rn7, rn8, if_true, if_false, Nat.le_refl, true_and, and_true, decide_true, decide_false, Bool.not_true, Bool.not_false, reduceIte, Nat.reduceEqDiff, Nat.reduceAdd, Nat.reduceMul, Nat.reduceSub, Nat.reduceLeDiff, Nat.reduceLT, build_rng0]
      refine step_store (b := g1.next) (off := 0) (vs := [.int .i64 0, .int .i64 0]) rfl (by rw [hx5.old _ (by omega)]; exact q4) (by omega) (by omega) rfl rfl rfl (by simp) fun g6 hs6 => ?_
      rw [splice_all (by rfl)] at hs6
      simp only [rn0, rn1, rn2, rn3, rn4, rn5, rn6, rn7, rn8, if_true, if_false, Nat.le_refl, true_and, and_true, decide_true, decide_false, Bool.not_true, Bool.not_false, reduceIte, Nat.reduceEqDiff, Nat.reduceAdd, Nat.reduceMul, Nat.reduceSub, Nat.reduceLeDiff, Nat.reduceLT, res_two, hs6.row.whole (n := 2) rfl]
    · have d0 : decide (gAll S va ≠ []) = true := decide_eq_true c
      rw [if_neg c]
      rw [d0] at eg
      simp only [rn0, rn1, rn2, rn3, rn4, rn5, rn6, rn7, rn8, if_true, if_false, Nat.le_refl, true_and, and_true, decide_true, decide_false, Bool.not_true, Bool.not_false, reduceIte, Nat.reduceEqDiff, Nat.reduceAdd, Nat.reduceMul, Nat.reduceSub, Nat.reduceLeDiff, Nat.reduceLT, hx4.row.whole (n := 8) rfl, eg, ex0, ex1]
      refine step_new (vs := [.int .i64 (gLo (S.vb va) (gAll S va)), .int .i64 (gHi (S.vb va) (gAll S va))]) (by omega) (by omega) rfl (by simp only [rn0, rn1, rn2, rn3, rn4, rn5, rn6, rn7, rn8, if_true, if_false, Nat.le_refl, true_and, and_true, decide_true, decide_false, Bool.not_true, Bool.not_false, reduceIte, Nat.reduceEqDiff, Nat.reduceAdd, Nat.reduceMul, Nat.reduceSub, Nat.reduceLeDiff, Nat.reduceLT]; rfl) rfl rfl rfl fun g5 hx5 => ?_
      have n5 := hx5.next
      have f5 := hx5.floor
      simp only [rn0, rn1, rn2, rn3, rn4, rn5, rn6, rn7, rn8, if_true, if_false, Nat.le_refl, true_and, and_true, decide_true, decide_false, Bool.not_true, Bool.not_false, reduceIte, Nat.reduceEqDiff, Nat.reduceAdd, Nat.reduceMul, Nat.reduceSub, Nat.reduceLeDiff, Nat.reduceLT, hx5.row.whole (n := 2) rfl]
      refine step_store (b := g1.next) (off := 0) (vs := [.int .i64 (gLo (S.vb va) (gAll S va)), .int .i64 (gHi (S.vb va) (gAll S va))]) rfl (by rw [hx5.old _ (by omega)]; exact q4) (by omega) (by omega) rfl rfl rfl (by simp) fun g6 hs6 => ?_
      rw [splice_all (by rfl)] at hs6
      simp only [rn0, rn1, rn2, rn3, rn4, rn5, rn6, rn7, rn8, if_true, if_false, Nat.le_refl, true_and, and_true, decide_true, decide_false, Bool.not_true, Bool.not_false, reduceIte, Nat.reduceEqDiff, Nat.reduceAdd, Nat.reduceMul, Nat.reduceSub, Nat.reduceLeDiff, Nat.reduceLT, res_two, hs6.row.whole (n := 2) rfl]
/-! ### The reference's good hours -/
def s45 : SCode := (.seq (.ops [⟨(some 3), none, .box (T 0)⟩, ⟨(some 6), none, .mov (.const (.slice none 0 0))⟩]) (.seq (.ops [⟨(some 7), none, .mov (.const (.slice none 0 0))⟩]) (.seq (.seq (.ops [⟨(some 9), none, .fieldAddr 5 (T 3)⟩, ⟨(some 10), none, .load1 (T 9)⟩, ⟨(some 11), none, .mov (T 2)⟩, ⟨(some 12), none, .idxSl 4 (T 10) (T 11)⟩, ⟨(some 13), none, .fieldAddr 0 (T 12)⟩, ⟨(some 14), none, .load1 (T 13)⟩, ⟨(some 8), none, .mov (T 14)⟩]) (.block 0 (.loop (.seq (.seq (.ops [⟨(some 15), none, .mov (T 8)⟩, ⟨(some 16), none, .fieldAddr 0 (T 3)⟩, ⟨(some 17), none, .load1 (T 16)⟩, ⟨(some 18), none, .int2 .leq (T 15) (T 17)⟩]) (.cond (T 18) .skip (.exit 0))) (.seq (.block 1 (.seq (.ops [⟨(some 21), none, .loadN 7 (T 3)⟩, ⟨(some 22), none, .mov (T 1)⟩, ⟨(some 23), none, .mov (T 2)⟩, ⟨(some 24), none, .mov (T 8)⟩, ⟨(some 25), none, .call (.func 43) [(T 21), (T 22), (T 23), (T 24)]⟩, ⟨(some 26), none, .int2 .eql (T 25) (.const (.int .i64 (1)))⟩]) (.cond (T 26) (.ops [⟨(some 27), none, .mov (T 7)⟩, ⟨(some 28), none, .mov (T 8)⟩, ⟨(some 29), none, .bslice 1 1 [(.int .i64 (0))] [0] [(T 28)]⟩, ⟨(some 30), none, .append 1 8 (T 27) (T 29)⟩, ⟨(some 7), none, .mov (T 30)⟩]) .skip))) (.ops [⟨(some 19), none, .mov (T 8)⟩, ⟨(some 20), none, .int2 .add (T 19) (.const (.int .i64 (1)))⟩, ⟨(some 8), none, .mov (T 20)⟩])))))) (.seq (.ops [⟨(some 31), none, .mov (T 7)⟩, ⟨(some 6), none, .mov (T 31)⟩]) .ret))))
theorem fok45 : FnOk Try.prog 45 32 s45 [.tmp 6] := ⟨Try.f45, _, Try.func45, rfl, Try.ntmps45, by kernel_rfl, by kernel_rfl⟩
set_option maxHeartbeats 1000000 in
theorem goodRef_c (hn : 2220 ≤ n) (hr : h.next + 1000 < far) (hfl : h.floor ≤ h.next) {wv vv sv l : Value} {S : MS} (hy : SteepR h wv vv sv S) (hG : Good S) (hne : truthsS S ≠ []) (ht : TruthsL h l S (refTruths S)) {v : Nat} (hv : v < S.nv) :
    ∃ r h', call n (.func (.func 45) #[] #[]) [.agg ⟨stL S wv vv sv⟩, l, .int .i64 (v : Int)] h = some (r, h') ∧ Ints h' r (gAll S v).length (fun i => S.vb v + atL (gAll S v) i) ∧ (∀ i, i < h.next → h'.get i = h.get i) ∧ h.next ≤ h'.next ∧ h'.next ≤ h.next + 100 ∧ h'.floor = h.floor := by
  obtain ⟨n, rfl⟩ : ∃ p, n = p + 1 := ⟨n - 1, by omega⟩
  refine call_any0 fok45 rfl rfl (by simp) ?_
  obtain ⟨R1, R2, hc, hq⟩ := ht
  obtain ⟨mh1, mh2, mh3⟩ := hoursN_ok hG hv
  obtain ⟨⟨vb1, vb2⟩, _⟩ := hG.args.vat v hv
  obtain ⟨zl0, zl5, _⟩ := hG.sizes
  simp only [s45, W_seq, W_ops]
  refine ops_box (cs := stL S wv vv sv) (by omega) rfl hy.one fun g1 hx1 => ?_
  have n1 := hx1.next
  have f1 := hx1.floor
  have r1 := hx1.row
  have hy1 := hy.mono hx1.sub
  simp only [rn0, rn1, rn2, rn3, rn4, rn5, rn6, rn7, rn8, if_true, if_false, Nat.le_refl, true_and, and_true, decide_true, decide_false, Bool.not_true, Bool.not_false, reduceIte, Nat.reduceEqDiff, Nat.reduceAdd, Nat.reduceMul, Nat.reduceSub, Nat.reduceLeDiff, Nat.reduceLT, r1.ld, stg, Nat.zero_add, Nat.add_zero, Cells.idx hy1.v hv, Cells.fld hy1.v hv, begin_ld hy1 hv]
  refine W_loop (hoursN S v) (fun k f g ms => (∃ w, (∀ i, i < g1.next → g.get i = g1.get i) ∧ g.floor = h.floor ∧ g1.next ≤ g.next ∧ g.next ≤ g1.next + 4 * k ∧ GrowC g1.next g w 1 (gI S v (truthsS S) k).length (fun i _ => .int .i64 (S.vb v + atL (gI S v (truthsS S) k) i)) ∧ f 7 = w) ∧ ms = [] ∧ f 1 = l ∧ f 2 = .int .i64 (v : Int) ∧ f 3 = .pointer (some ⟨h.next, 0, none⟩) ∧ f 8 = .int .i64 (S.vb v + (k : Int))) (by simp; omega) ?_ ?_ ?_
  · have e0 : gI S v (truthsS S) 0 = [] := rfl
    simp only [rn0, rn1, rn2, rn3, rn4, rn5, rn6, rn7, rn8, if_true, if_false, Nat.le_refl, true_and, and_true, decide_true, decide_false, Bool.not_true, Bool.not_false, reduceIte, Nat.reduceEqDiff, Nat.reduceAdd, Nat.reduceMul, Nat.reduceSub, Nat.reduceLeDiff, Nat.reduceLT, Int.natCast_zero, Int.add_zero]
    rw [e0]
    first | exact ⟨⟨_, fun _ _ => trivial, by omega, by omega, by omega, .nil, rfl⟩, rfl⟩ | exact ⟨_, fun _ _ => trivial, by omega, by omega, .nil, rfl⟩ | exact ⟨⟨_, fun _ _ => trivial, by omega, by omega, .nil, rfl⟩, rfl⟩ | exact ⟨⟨_, fun _ _ => rfl, by omega, by omega, by omega, .nil, rfl⟩, rfl⟩
  · rintro k f g ms hk ⟨⟨w, hs, hfg, hup, hnx, gv, p7⟩, rfl, p1, p2, p3, p8⟩
    have hk' : S.vb v + (k : Int) ≤ S.last := by omega
    have hw : wrapF .i64 (S.vb v + (k : Int) + 1) = S.vb v + ((k + 1 : Nat) : Int) := by rw [wrap_in (by omega) (by omega)]; omega
    have sg : Sub All h g := hx1.sub.trans (AHeap.subOf hs)
    have rg := r1.mono (AHeap.subOf hs)
    have ev := verdictRef_c (n := n) (h := g) (by omega) (by omega) (hy.mono sg) hG hne ⟨R1, R2, hc.mono sg, fun k hk => (hq k hk).mono sg⟩ (hour_at hG hv hk)
    have hlk := pick_len (p := fun i => verdS S v (S.vb v + (i : Int)) 1 (truthsS S) = 1) k
    change (gI S v (truthsS S) k).length ≤ k at hlk
    by_cases c : verdS S v (S.vb v + (k : Int)) 1 (truthsS S) = 1
    · have eg : gI S v (truthsS S) (k + 1) = gI S v (truthsS S) k ++ [(k : Int)] := pick_yes c
      simp only [rn0, rn1, rn2, rn3, rn4, rn5, rn6, rn7, rn8, if_true, if_false, Nat.le_refl, true_and, and_true, decide_true, decide_false, Bool.not_true, Bool.not_false, reduceIte, Nat.reduceEqDiff, Nat.reduceAdd, Nat.reduceMul, Nat.reduceSub, Nat.reduceLeDiff, Nat.reduceLT, p1, p2, p3, p7, p8, rg.ld, rg.whole (n := 7) rfl, stg, Nat.zero_add, hk', ev, c, sl_int]
      refine step_slice (by omega) rfl fun g4 hx4 => ?_
      have n4 := hx4.next
      have f4 := hx4.floor
      have gv4 : GrowC g1.next g4 w 1 (gI S v (truthsS S) k).length (fun i _ => .int .i64 (S.vb v + atL (gI S v (truthsS S) (k + 1)) i)) := (gv.sub hx4.sub).congr fun i j hi hj => by rw [eg, at_append hi]
      obtain ⟨v', g5, e5, ev', gv5, hk5⟩ := gv4.append (bytes := 8) (cap := 1) (by omega) (by omega) (by omega) hx4.get rfl rfl (fun j hj => by
        obtain rfl : j = 0 := by omega
        rw [eg, at_last]; rfl) (by simp [maxBytes]; omega) (by simp [maxBytes]; omega)
      have n5 := hk5.next
      have f5 := hk5.floor
      have hlen : (gI S v (truthsS S) (k + 1)).length = (gI S v (truthsS S) k).length + 1 := by rw [eg, List.length_append, List.length_singleton]
      simp only [rn0, rn1, rn2, rn3, rn4, rn5, rn6, rn7, rn8, if_true, if_false, Nat.le_refl, true_and, and_true, decide_true, decide_false, Bool.not_true, Bool.not_false, reduceIte, Nat.reduceEqDiff, Nat.reduceAdd, Nat.reduceMul, Nat.reduceSub, Nat.reduceLeDiff, Nat.reduceLT, p1, p2, p3, p7, p8, e5, hw]
      rw [hlen]
      have hfin := And.intro (fun i (hi : i < g1.next) => (by rw [hk5.old i (by omega) fun bb kk qq e => by have := (gv4.block e).1; omega, hx4.old i (by omega), hs i hi] : g5.get i = g1.get i)) (And.intro (by omega : g5.floor = h.floor) (And.intro (by omega : g1.next ≤ g5.next) (And.intro (by omega : g5.next ≤ g1.next + 4 * (k + 1)) (And.intro gv5 (rfl : v' = v')))))
      first | exact ⟨v', hfin⟩ | exact ⟨⟨v', hfin⟩, rfl⟩
    · have eg : gI S v (truthsS S) (k + 1) = gI S v (truthsS S) k := pick_no c
      simp only [rn0, rn1, rn2, rn3, rn4, rn5, rn6, rn7, rn8, if_true, if_false, Nat.le_refl, true_and, and_true, decide_true, decide_false, Bool.not_true, Bool.not_false, reduceIte, Nat.reduceEqDiff, Nat.reduceAdd, Nat.reduceMul, Nat.reduceSub, Nat.reduceLeDiff, Nat.reduceLT, p1, p2, p3, p7, p8, rg.ld, rg.whole (n := 7) rfl, stg, Nat.zero_add, hk', ev, c, hw]
      rw [eg]
      have hfin := And.intro hs (And.intro hfg (And.intro hup (And.intro (by omega : g.next ≤ g1.next + 4 * (k + 1)) (And.intro gv (rfl : w = w)))))
      first | exact ⟨w, hfin⟩ | exact ⟨⟨w, hfin⟩, rfl⟩
  · rintro f g ms ⟨⟨w, hs, hfg, hup, hnx, gv, p7⟩, rfl, p1, p2, p3, p8⟩
    have hk' : ¬ S.vb v + (hoursN S v : Int) ≤ S.last := by omega
    have rg := r1.mono (AHeap.subOf hs)
    simp only [rn0, rn1, rn2, rn3, rn4, rn5, rn6, rn7, rn8, if_true, if_false, Nat.le_refl, true_and, and_true, decide_true, decide_false, Bool.not_true, Bool.not_false, reduceIte, Nat.reduceEqDiff, Nat.reduceAdd, Nat.reduceMul, Nat.reduceSub, Nat.reduceLeDiff, Nat.reduceLT, p1, p2, p3, p7, p8, rg.ld, stg, Nat.zero_add, hk']
    exact ⟨gv.cells, fun i hi => by rw [hs i (by omega), hx1.old i hi], by omega, by omega, by omega⟩
/-! ### Good hours follow one another -/
theorem verd_one {S : MS} {v : Nat} {hh kk : Int} {L : List (Nat → Int)} (hL : L ≠ []) : verdS S v hh kk L = 1 ↔ ∀ t, t ∈ L → kindS S t v hh = kk := by
  obtain ⟨t, ht⟩ := List.exists_mem_of_ne_nil _ hL
  unfold verdS
  by_cases c1 : ∀ t, t ∈ L → kindS S t v hh ≠ kk
  · rw [if_pos c1]
    exact ⟨fun e => absurd e (by decide), fun q => absurd (q t ht) (c1 t ht)⟩
  · rw [if_neg c1]
    by_cases c2 : ∀ t, t ∈ L → kindS S t v hh = kk
    · rw [if_pos c2]; exact ⟨fun _ => c2, fun _ => rfl⟩
    · rw [if_neg c2]; exact ⟨fun e => absurd e (by decide), fun q => absurd q c2⟩
theorem kind_up {S : MS} {u : Nat → Int} (hG : Good S) (hu : InU S u) {v : Nat} (hv : v < S.nv) {i : Nat} : ∀ d, i + d < hoursN S v → kindS S u v (S.vb v + (i : Int)) ≤ kindS S u v (S.vb v + ((i + d : Nat) : Int))
  | 0, _ => Int.le_refl _
  | d + 1, hd => by
    have h1 := kind_up hG hu hv (i := i) d (by omega)
    have o1 := hour_at hG hv (i := i + d) (by omega)
    have o2 := hour_at hG hv (i := i + d + 1) (by omega)
    have ee : S.vb v + ((i + d + 1 : Nat) : Int) = S.vb v + ((i + d : Nat) : Int) + 1 := by omega
    have h2 := kind_next hG hu o1 (by rw [← ee]; exact o2)
    rw [← ee] at h2
    exact Int.le_trans h1 h2
/-- hours between two good ones are good -/
theorem good_mid {S : MS} (hG : Good S) {v : Nat} (hv : v < S.nv) {L : List (Nat → Int)} (hL : L ≠ []) (hin : ∀ t, t ∈ L → InU S t) {a b c : Nat} (h1 : a ≤ b) (h2 : b ≤ c) (h3 : c < hoursN S v) (ha : verdS S v (S.vb v + (a : Int)) 1 L = 1) (hc : verdS S v (S.vb v + (c : Int)) 1 L = 1) : verdS S v (S.vb v + (b : Int)) 1 L = 1 := by
  rw [verd_one hL] at ha hc ⊢
  intro t ht
  have k1 := kind_up hG (hin t ht) hv (i := a) (b - a) (by omega)
  have k2 := kind_up hG (hin t ht) hv (i := b) (c - b) (by omega)
  rw [show a + (b - a) = b by omega, ha t ht] at k1
  rw [show b + (c - b) = c by omega, hc t ht] at k2
  omega
/-- numbers that are picked without a gap -/
theorem pick_run {p : Nat → Prop} : ∀ (k : Nat), (∀ a b c, a ≤ b → b ≤ c → c < k → p a → p c → p b) → pickL p k ≠ [] → ∃ a, (∀ i, i < (pickL p k).length → atL (pickL p k) i = ((a + i : Nat) : Int)) ∧ a + (pickL p k).length ≤ k ∧ ∀ x, x < k → (p x ↔ a ≤ x ∧ x < a + (pickL p k).length)
  | 0, _, h => absurd rfl h
  | k + 1, hg, h => by
    by_cases c : p k
    · rw [pick_yes c] at h ⊢
      by_cases c0 : pickL p k = []
      · refine ⟨k, ?_, by rw [c0]; simp, ?_⟩
        · rw [c0]
          intro i hi
          simp only [List.nil_append, List.length_singleton] at hi
          obtain rfl : i = 0 := by omega
          rfl
        · rw [c0]
          intro x hx
          simp only [List.nil_append, List.length_singleton]
          constructor
          · intro hp
            by_cases e : x = k
            · omega
            · obtain ⟨i, i1, i2⟩ := pick_has (p := p) (k := k) (show x < k by omega) hp
              rw [c0] at i1
              exact absurd i1 (Nat.not_lt_zero _)
          · intro q
            obtain rfl : x = k := by omega
            exact c
      · obtain ⟨a, h1, h2, h3⟩ := pick_run k (fun a b c h1 h2 h3 => hg a b c h1 h2 (by omega)) c0
        have hpos : 0 < (pickL p k).length := List.length_pos_iff.2 c0
        have hpa : p a := (h3 a (by omega)).2 ⟨Nat.le_refl _, by omega⟩
        have hend : a + (pickL p k).length = k := by
          apply Classical.byContradiction
          intro hne
          have := (h3 (a + (pickL p k).length) (by omega)).1 (hg a _ k (by omega) (by omega) (by omega) hpa c)
          omega
        refine ⟨a, fun i hi => ?_, by rw [List.length_append, List.length_singleton]; omega, fun x hx => ?_⟩
        · rw [List.length_append, List.length_singleton] at hi
          by_cases e : i < (pickL p k).length
          · rw [at_append e, h1 i e]
          · obtain rfl : i = (pickL p k).length := by omega
            rw [at_last, hend]
        · rw [List.length_append, List.length_singleton]
          by_cases e : x = k
          · subst e
            exact ⟨fun _ => ⟨by omega, by omega⟩, fun _ => c⟩
          · rw [h3 x (by omega)]
            omega
    · rw [pick_no c] at h ⊢
      obtain ⟨a, h1, h2, h3⟩ := pick_run k (fun a b c h1 h2 h3 => hg a b c h1 h2 (by omega)) h
      refine ⟨a, h1, by omega, fun x hx => ?_⟩
      by_cases e : x = k
      · subst e
        exact ⟨fun q => absurd q c, fun q => by omega⟩
      · exact h3 x (by omega)
/-- the good hours of a vat are a range -/
theorem gAll_run {S : MS} (hG : Good S) {v : Nat} (hv : v < S.nv) (hz : truthsS S ≠ []) (hne : gAll S v ≠ []) : ∃ a : Nat, a + (gAll S v).length ≤ hoursN S v ∧ 0 < (gAll S v).length ∧ gLo (S.vb v) (gAll S v) = S.vb v + (a : Int) ∧ gHi (S.vb v) (gAll S v) = S.vb v + ((a + (gAll S v).length - 1 : Nat) : Int) ∧ ∀ x, x < hoursN S v → (verdS S v (S.vb v + (x : Int)) 1 (truthsS S) = 1 ↔ a ≤ x ∧ x < a + (gAll S v).length) := by
  obtain ⟨a, h1, h2, h3⟩ := pick_run (p := fun i => verdS S v (S.vb v + (i : Int)) 1 (truthsS S) = 1) (hoursN S v) (fun a b c k1 k2 k3 ha hc => good_mid hG hv hz (fun t ht => (truths_mem.1 ht).1.1) k1 k2 k3 ha hc) hne
  have e : pickL (fun i => verdS S v (S.vb v + (i : Int)) 1 (truthsS S) = 1) (hoursN S v) = gAll S v := rfl
  simp only [e] at h1 h2 h3
  have hpos : 0 < (gAll S v).length := List.length_pos_iff.2 hne
  refine ⟨a, h2, hpos, ?_, ?_, h3⟩
  · unfold gLo
    rw [if_neg hne, h1 0 hpos, Nat.add_zero]
  · unfold gHi
    rw [if_neg hne, h1 _ (by omega)]
    congr 2
    omega
end Go.Vm.St

namespace Go.Vm.St
open Go.Proofs Go.Vm.Vat
set_option linter.unusedSimpArgs false
set_option linter.unusedVariables false
set_option maxRecDepth 10000
variable {n : Nat} {h : AHeap}
end Go.Vm.St

namespace Go.Vm
variable {P : Program} {N : Nat} {f : Fr} {h : AHeap} {ty t u e : TypeId} {x y : Operand}
theorem plainF_eqlTwo {f0 f1 : Field} {a0 a1 b0 b1 : Int} (hx : valN N f x = .agg ⟨[.int .i64 a0, .int .i64 a1]⟩) (hy : valN N f y = .agg ⟨[.int .i64 b0, .int .i64 b1]⟩) (hg : P.eqGuardType P.depth t = false)
    (ht : P.underlying t = some (.struct #[f0, f1])) (hp : P.stoodInHeld t = false) (n0 : f0.name ≠ "_") (n1 : f1.name ≠ "_") (o0 : f0.offset = 0) (o1 : f1.offset = 1)
    (e0 : P.underlying f0.type = some (.int .i64)) (e1 : P.underlying f1.type = some (.int .i64)) :
    plainF P N (.binOp .eql t x y u) ty f h = some (.bool (decide (a0 = b0 ∧ a1 = b1)), h) := by
  unfold plainF
  have : allB (fun x => plainV (valN N f x)) (Op.binOp .eql t x y u).operands.toList = true := by simp [Op.operands, allB, hx, hy, plainV, plainE, plainCell]
  rw [this]
  have e : pureRun P (execOp (valN N f) (bare (.binOp .eql t x y u) ty)) = some (.value (.bool (decide (a0 = b0 ∧ a1 = b1)))) := by
    simp only [execOp, bare, hx, hy, pureRun_bind, pr_guard hg, Option.bind_some, binOp, Op.equal, Op.maxDepth, pr_eqTwo ht hp n0 n1 o0 o1 e0 e1, pr_pure]
  rw [e]
  rfl
theorem binA_eqlAgg {op : Op} {l r : Array Value} : binA P N .eql op ty (.agg l) (.agg r) f h = plainF P N op ty f h := id rfl
end Go.Vm
namespace Go.Vm.St
open Go.Proofs Go.Vm.Vat
set_option linter.unusedSimpArgs false
set_option linter.unusedVariables false
set_option maxRecDepth 10000
variable {n : Nat} {h : AHeap}
theorem eql39 {N : Nat} {f : Go.Vm.Fr} {x y : Operand} {ty u : TypeId} {a0 a1 b0 b1 : Int} (hx : valN N f x = .agg ⟨[.int .i64 a0, .int .i64 a1]⟩) (hy : valN N f y = .agg ⟨[.int .i64 b0, .int .i64 b1]⟩) :
    plainF Try.prog N (.binOp .eql 39 x y u) ty f h = some (.bool (decide (a0 = b0 ∧ a1 = b1)), h) :=
  plainF_eqlTwo hx hy (by kernel_rfl) (by rfl) (by kernel_rfl) (by decide) (by decide) rfl rfl (by rfl) (by rfl)
def s46 : SCode := (.seq (.ops [⟨(some 4), none, .alloc [(.int .i64 (0)), (.int .i64 (0))]⟩]) (.seq (.ops [⟨(some 5), none, .mov (T 0)⟩, ⟨(some 6), none, .mov (T 1)⟩, ⟨(some 7), none, .build #[(0, 1), (1, 1)] [(.int .i64 (0)), (.int .i64 (0))] [0, 1] [(T 5), (T 6)]⟩, ⟨none, none, .store 2 (T 4) (T 7)⟩]) .ret))
theorem fok46 : FnOk Try.prog 46 8 s46 [.cellN 4 2] := ⟨Try.f46, _, Try.func46, rfl, Try.ntmps46, by kernel_rfl, by kernel_rfl⟩
theorem between_c (hn : 1 ≤ n) (hr : h.next + 2 < far) (lo hi : Int) : call n (.func (.func 46) #[] #[]) [.int .i64 lo, .int .i64 hi] h = some (.agg ⟨[.int .i64 lo, .int .i64 hi]⟩, h) := by
  obtain ⟨n, rfl⟩ : ∃ p, n = p + 1 := ⟨n - 1, by omega⟩
  refine call_plain0 fok46 rfl rfl (by simp) rfl ?_
  have hr : h.shutAll.next + 2 < far := hr
  have hfl : h.shutAll.floor ≤ h.shutAll.next := Nat.le_refl _
  generalize h.shutAll = h at hr hfl
  simp only [s46, W_seq, W_ops]
  refine ops_alloc (by omega) rfl fun h2 hx2 => ?_
  have n2 := hx2.next
  have f2 := hx2.floor
  simp only [rn0, rn1, rn2, rn3, rn4, rn5, rn6, rn7, rn8, if_true, if_false, Nat.le_refl, true_and, and_true, decide_true, decide_false, Bool.not_true, Bool.not_false, reduceIte, Nat.reduceEqDiff, Nat.reduceAdd, Nat.reduceMul, Nat.reduceSub, Nat.reduceLeDiff, Nat.reduceLT, build_range]
  refine step_store (vs := [.int .i64 lo, .int .i64 hi]) rfl hx2.get (by omega) (by omega) rfl rfl rfl (by simp) fun h3 hs => ?_
  rw [splice2] at hs
  simp only [rn0, rn1, rn2, rn3, rn4, rn5, rn6, rn7, rn8, if_true, if_false, Nat.le_refl, true_and, and_true, decide_true, decide_false, Bool.not_true, Bool.not_false, reduceIte, Nat.reduceEqDiff, Nat.reduceAdd, Nat.reduceMul, Nat.reduceSub, Nat.reduceLeDiff, Nat.reduceLT, hs.row.whole (n := 2) rfl]
/-- asked with an error: the same error as that of a question on a vat -/
theorem asked_err {S : MS} {at_ : Int} {h' : AHeap} {v : Value} (ha : AskR h S (decide (0 ≤ at_ ∧ at_ ≤ (S.nv : Int) - 1)) v h') :
    (errV S at_ ≠ 0 ∧ v = .tuple ⟨[nilS, .int .i64 (errV S at_)]⟩) ∨ (errV S at_ = 0 ∧ faultS S = 0 ∧ InV S at_ ∧ truthsS S ≠ [] ∧ ∃ l, v = .tuple ⟨[l, .int .i64 0]⟩ ∧ oneCell l = true ∧ TruthsL h' l S (refTruths S)) := by
  obtain ⟨_, _, _, _, ha⟩ := ha
  rcases ha with ⟨hf, rfl⟩ | ⟨hf, hv, rfl⟩ | ⟨hf, hv, hz, rfl⟩ | ⟨hf, hv, hz, l, rfl, h2, h3⟩
  · exact .inl ⟨by rw [errV_1 hf]; exact hf, by rw [errV_1 hf]⟩
  · have hv' : ¬ (0 ≤ at_ ∧ at_ ≤ (S.nv : Int) - 1) := of_decide_eq_false hv
    have e := errV_2 (S := S) (at_ := at_) hf hv'
    exact .inl ⟨by rw [e]; decide, by rw [e]⟩
  · have hv' : 0 ≤ at_ ∧ at_ ≤ (S.nv : Int) - 1 := of_decide_eq_true hv
    have e := errV_3 (S := S) (at_ := at_) hf hv' hz
    exact .inl ⟨by rw [e]; decide, by rw [e]⟩
  · have hv' : 0 ≤ at_ ∧ at_ ≤ (S.nv : Int) - 1 := of_decide_eq_true hv
    exact .inr ⟨errV_4 hf hv' hz, hf, hv', hz, l, rfl, h2, h3⟩
def s6 : SCode := (.seq (.ops [⟨(some 2), none, .box (T 0)⟩, ⟨(some 4), none, .mov (.const (.bool false))⟩]) (.seq (.seq (.ops [⟨(some 10), none, .loadN 7 (T 2)⟩, ⟨(some 11), none, .call (.func 23) [(T 10)]⟩, ⟨(some 12), none, .not (T 11)⟩]) (.cond (T 12) (.seq (.ops [⟨(some 13), none, .call (.func 24) []⟩, ⟨(some 4), none, .mov (T 13)⟩]) .ret) .skip)) (.seq (.ops [⟨(some 15), none, .loadN 7 (T 2)⟩, ⟨(some 16), none, .call (.func 26) [(T 15)]⟩, ⟨(some 17), none, .mov (T 1)⟩, ⟨(some 18), none, .call (.func 44) [(T 16), (T 17)]⟩, ⟨(some 14), none, .mov (T 18)⟩, ⟨(some 19), none, .extract 0 (T 14)⟩, ⟨(some 20), none, .extract 1 (T 14)⟩, ⟨(some 5), none, .alloc [(.int .i64 (0)), (.int .i64 (0))]⟩, ⟨none, none, .store 2 (T 5) (T 19)⟩, ⟨(some 6), none, .mov (T 20)⟩]) (.seq (.draw [⟨.rd, ⟨(some 22), none, .loadN 7 (T 2)⟩⟩, ⟨.rd1, ⟨(some 23), none, .loadN 7 (T 2)⟩⟩, ⟨.free, ⟨(some 24), none, .mov (T 1)⟩⟩, ⟨.up, ⟨(some 25), none, .call (.func 37) [(T 23), (T 24)]⟩⟩, ⟨.any, ⟨(some 26), none, .call (.func 36) [(T 22), (T 25)]⟩⟩, ⟨.free, ⟨(some 21), none, .mov (T 26)⟩⟩, ⟨.free, ⟨(some 27), none, .extract 0 (T 21)⟩⟩, ⟨.free, ⟨(some 28), none, .extract 1 (T 21)⟩⟩, ⟨.free, ⟨(some 7), none, .mov (T 27)⟩⟩, ⟨.free, ⟨(some 8), none, .mov (T 28)⟩⟩]) (.seq (.seq (.ops [⟨(some 29), none, .mov (T 8)⟩, ⟨(some 30), none, .int2 .neq (T 29) (.const (.int .i64 (0)))⟩]) (.cond (T 30) (.seq (.ops [⟨(some 31), none, .mov (T 6)⟩, ⟨(some 32), none, .mov (T 8)⟩, ⟨(some 33), none, .int2 .eql (T 31) (T 32)⟩, ⟨(some 34), none, .mov (T 33)⟩, ⟨(some 35), (some (34, true)), .loadN 2 (T 5)⟩, ⟨(some 36), (some (34, true)), .build #[(0, 1), (1, 1)] [(.int .i64 (0)), (.int .i64 (0))] [] []⟩, ⟨(some 37), (some (34, true)), .bin .eql (.binOp .eql 39 (T 35) (T 36) 39) 4 (T 35) (T 36)⟩, ⟨(some 38), none, .pick (T 34) (T 37) (.const (.bool false))⟩, ⟨(some 39), none, .mov (T 38)⟩, ⟨(some 40), (some (39, true)), .call (.func 24) []⟩, ⟨(some 41), none, .pick (T 39) (T 40) (.const (.bool false))⟩, ⟨(some 4), none, .mov (T 41)⟩]) .ret) .skip)) (.seq (.ops [⟨(some 42), none, .loadN 7 (T 2)⟩, ⟨(some 43), none, .mov (T 7)⟩, ⟨(some 44), none, .mov (T 1)⟩, ⟨(some 45), none, .call (.func 45) [(T 42), (T 43), (T 44)]⟩, ⟨(some 9), none, .mov (T 45)⟩]) (.seq (.seq (.ops [⟨(some 46), none, .mov (T 9)⟩, ⟨(some 47), none, .len (T 46)⟩, ⟨(some 48), none, .int2 .eql (T 47) (.const (.int .i64 (0)))⟩]) (.cond (T 48) (.seq (.ops [⟨(some 49), none, .mov (T 6)⟩, ⟨(some 50), none, .int2 .eql (T 49) (.const (.int .i64 (10)))⟩, ⟨(some 51), none, .mov (T 50)⟩, ⟨(some 52), (some (51, true)), .loadN 2 (T 5)⟩, ⟨(some 53), (some (51, true)), .build #[(0, 1), (1, 1)] [(.int .i64 (0)), (.int .i64 (0))] [] []⟩, ⟨(some 54), (some (51, true)), .bin .eql (.binOp .eql 39 (T 52) (T 53) 39) 4 (T 52) (T 53)⟩, ⟨(some 55), none, .pick (T 51) (T 54) (.const (.bool false))⟩, ⟨(some 56), none, .mov (T 55)⟩, ⟨(some 57), (some (56, true)), .call (.func 24) []⟩, ⟨(some 58), none, .pick (T 56) (T 57) (.const (.bool false))⟩, ⟨(some 4), none, .mov (T 58)⟩]) .ret) .skip)) (.seq (.draw [⟨.free, ⟨(some 59), none, .mov (T 6)⟩⟩, ⟨.free, ⟨(some 60), none, .int2 .eql (T 59) (.const (.int .i64 (0)))⟩⟩, ⟨.free, ⟨(some 61), none, .mov (T 60)⟩⟩, ⟨.rd, ⟨(some 62), (some (61, true)), .loadN 2 (T 5)⟩⟩, ⟨.free, ⟨(some 63), (some (61, true)), .mov (T 9)⟩⟩, ⟨.free, ⟨(some 64), (some (61, true)), .idxSl 1 (T 63) (.const (.int .i64 (0)))⟩⟩, ⟨.rd1, ⟨(some 65), (some (61, true)), .load1 (T 64)⟩⟩, ⟨.free, ⟨(some 66), (some (61, true)), .mov (T 9)⟩⟩, ⟨.free, ⟨(some 67), (some (61, true)), .mov (T 9)⟩⟩, ⟨.free, ⟨(some 68), (some (61, true)), .len (T 67)⟩⟩, ⟨.free, ⟨(some 69), (some (61, true)), .int2 .sub (T 68) (.const (.int .i64 (1)))⟩⟩, ⟨.free, ⟨(some 70), (some (61, true)), .idxSl 1 (T 66) (T 69)⟩⟩, ⟨.rd1, ⟨(some 71), (some (61, true)), .load1 (T 70)⟩⟩, ⟨.up, ⟨(some 72), (some (61, true)), .call (.func 46) [(T 65), (T 71)]⟩⟩, ⟨.free, ⟨(some 73), (some (61, true)), .bin .eql (.binOp .eql 39 (T 62) (T 72) 39) 4 (T 62) (T 72)⟩⟩, ⟨.free, ⟨(some 74), none, .pick (T 61) (T 73) (.const (.bool false))⟩⟩, ⟨.free, ⟨(some 75), none, .mov (T 74)⟩⟩, ⟨.free, ⟨(some 76), (some (75, true)), .mov (T 9)⟩⟩, ⟨.free, ⟨(some 77), (some (75, true)), .len (T 76)⟩⟩, ⟨.free, ⟨(some 78), (some (75, true)), .fieldAddr 1 (T 5)⟩⟩, ⟨.rd1, ⟨(some 79), (some (75, true)), .load1 (T 78)⟩⟩, ⟨.free, ⟨(some 80), (some (75, true)), .fieldAddr 0 (T 5)⟩⟩, ⟨.rd1, ⟨(some 81), (some (75, true)), .load1 (T 80)⟩⟩, ⟨.free, ⟨(some 82), (some (75, true)), .int2 .sub (T 79) (T 81)⟩⟩, ⟨.free, ⟨(some 83), (some (75, true)), .int2 .add (T 82) (.const (.int .i64 (1)))⟩⟩, ⟨.free, ⟨(some 84), (some (75, true)), .int2 .eql (T 77) (T 83)⟩⟩, ⟨.free, ⟨(some 85), none, .pick (T 75) (T 84) (.const (.bool false))⟩⟩, ⟨.free, ⟨(some 86), none, .mov (T 85)⟩⟩, ⟨.any, ⟨(some 87), (some (86, true)), .call (.func 24) []⟩⟩, ⟨.free, ⟨(some 88), none, .pick (T 86) (T 87) (.const (.bool false))⟩⟩, ⟨.free, ⟨(some 4), none, .mov (T 88)⟩⟩]) .ret))))))))
theorem fok6 : FnOk Try.prog 6 89 s6 [.tmp 4] := ⟨Try.f6, _, Try.func6, rfl, Try.ntmps6, by kernel_rfl, by kernel_rfl⟩
set_option maxHeartbeats 2000000 in
theorem goodL_c (hn : 3000 ≤ n) (hr : h.next + 4000000 < far) (hfl : h.floor ≤ h.next) {wv vv sv : Value} {S : MS} (hy : SteepR h wv vv sv S) (a1 : Int) :
    ∃ v h', call n (.func (.func 6) #[] #[]) [.agg ⟨stL S wv vv sv⟩, .int .i64 a1] h = some (v, h') ∧ v = .bool true := by
  obtain ⟨n, rfl⟩ : ∃ p, n = p + 1 := ⟨n - 1, by omega⟩
  refine call_any0 fok6 rfl rfl (by simp) ?_
  simp only [s6, W_seq, W_ops]
  refine ops_box (cs := stL S wv vv sv) (by omega) rfl hy.one fun g1 hx1 => ?_
  have n1 := hx1.next
  have f1 := hx1.floor
  have hy1 := hy.mono hx1.sub
  have r1 := hx1.row
  have et := thin_c (n := n) (h := g1) (by omega) (by omega) hy1
  by_cases hth : ThinS S
  case neg =>
    simp only [rn0, rn1, rn2, rn3, rn4, rn5, rn6, rn7, rn8, if_true, if_false, Nat.le_refl, true_and, and_true, decide_true, decide_false, Bool.not_true, Bool.not_false, reduceIte, Nat.reduceEqDiff, Nat.reduceAdd, Nat.reduceMul, Nat.reduceSub, Nat.reduceLeDiff, Nat.reduceLT, r1.whole (n := 7) rfl, et, hth, awake_c (n := n) (h := g1) (by omega)]
  obtain ⟨w2, v2, s2, g2, e2, hy2, o2, u2, m2, f2⟩ := steepL_c (n := n) (h := g1) (by omega) (by omega) (by omega) hy1 hth
  have sub2 : Sub All g1 g2 := AHeap.subOf o2
  have eg := goodP_c (n := n) (h := g2) (by omega) (by omega) hy2 hth a1
  have r2 := r1.mono sub2
  simp only [rn0, rn1, rn2, rn3, rn4, rn5, rn6, rn7, rn8, if_true, if_false, Nat.le_refl, true_and, and_true, decide_true, decide_false, Bool.not_true, Bool.not_false, reduceIte, Nat.reduceEqDiff, Nat.reduceAdd, Nat.reduceMul, Nat.reduceSub, Nat.reduceLeDiff, Nat.reduceLT, r1.whole (n := 7) rfl, et, hth, e2, eg, ex0, ex1]
  refine step_new (vs := [.int .i64 (goodLo S a1), .int .i64 (goodHi S a1)]) (by omega) (by omega) rfl (by simp only [rn0, rn1, rn2, rn3, rn4, rn5, rn6, rn7, rn8, if_true, if_false, Nat.le_refl, true_and, and_true, decide_true, decide_false, Bool.not_true, Bool.not_false, reduceIte, Nat.reduceEqDiff, Nat.reduceAdd, Nat.reduceMul, Nat.reduceSub, Nat.reduceLeDiff, Nat.reduceLT]; rfl) rfl rfl rfl fun g3 hx3 => ?_
  have n3 := hx3.next
  have f3 := hx3.floor
  have sub3 := sub2.trans hx3.sub
  have hy3 := hy1.mono sub3
  have r3 := r1.mono sub3
  have t3 := hx3.row
  have ev := vatL_c (n := n) (h := g3) (by omega) (by omega) hy3 hth a1
  obtain ⟨av, g4, e4, ha⟩ := asked_c (n := n) (h := g3) (by omega) (by omega) (by omega) hy3 hth (ok := decide (0 ≤ a1 ∧ a1 ≤ (S.nv : Int) - 1))
  have o4 := ha.1
  have u4 := ha.2.1
  have m4 := ha.2.2.1
  have f4 := ha.2.2.2.1
  have sub4 : Sub All g3 g4 := AHeap.subOf o4
  have haw := awake_c (n := n) (h := g4) (by omega)
  have t4 := t3.mono sub4
  rcases asked_err ha with ⟨he, rfl⟩ | ⟨he, hf, hv, hz, l, rfl, hl1, hl⟩
  · obtain ⟨q1, q2, q3⟩ := good_err he
    rw [q2, q3] at t4
    rw [q1]
    have hq := fun (f : Go.Vm.Fr) (e1 : f 35 = .agg ⟨[.int .i64 0, .int .i64 0]⟩) (e2 : f 36 = .agg ⟨[.int .i64 0, .int .i64 0]⟩) => eql39 (h := g4) (N := 89) (f := f) (x := T 35) (y := T 36) (ty := 4) (u := 39) (by rw [valN_tmp (by omega)]; exact e1) (by rw [valN_tmp (by omega)]; exact e2)
    simp only [rn0, rn1, rn2, rn3, rn4, rn5, rn6, rn7, rn8, if_true, if_false, Nat.le_refl, true_and, and_true, decide_true, decide_false, Bool.not_true, Bool.not_false, reduceIte, Nat.reduceEqDiff, Nat.reduceAdd, Nat.reduceMul, Nat.reduceSub, Nat.reduceLeDiff, Nat.reduceLT]
    refine W_draw All ?_
    simp only [rn0, rn1, rn2, rn3, rn4, rn5, rn6, rn7, rn8, if_true, if_false, Nat.le_refl, true_and, and_true, decide_true, decide_false, Bool.not_true, Bool.not_false, reduceIte, Nat.reduceEqDiff, Nat.reduceAdd, Nat.reduceMul, Nat.reduceSub, Nat.reduceLeDiff, Nat.reduceLT, r3.whole (n := 7) rfl, hy3.self, ev, e4, ex0, ex1]
    first | refine ⟨by omega, ?_⟩ | skip
    simp only [rn0, rn1, rn2, rn3, rn4, rn5, rn6, rn7, rn8, if_true, if_false, Nat.le_refl, true_and, and_true, decide_true, decide_false, Bool.not_true, Bool.not_false, reduceIte, Nat.reduceEqDiff, Nat.reduceAdd, Nat.reduceMul, Nat.reduceSub, Nat.reduceLeDiff, Nat.reduceLT, he, t4.whole (n := 2) rfl, build_rng0, x_binA, binA_eqlAgg]
    rw [hq _ (by simp only [rn0, rn1, rn2, rn3, rn4, rn5, rn6, rn7, rn8, if_true, if_false, Nat.le_refl, true_and, and_true, decide_true, decide_false, Bool.not_true, Bool.not_false, reduceIte, Nat.reduceEqDiff, Nat.reduceAdd, Nat.reduceMul, Nat.reduceSub, Nat.reduceLeDiff, Nat.reduceLT]) (by simp only [rn0, rn1, rn2, rn3, rn4, rn5, rn6, rn7, rn8, if_true, if_false, Nat.le_refl, true_and, and_true, decide_true, decide_false, Bool.not_true, Bool.not_false, reduceIte, Nat.reduceEqDiff, Nat.reduceAdd, Nat.reduceMul, Nat.reduceSub, Nat.reduceLeDiff, Nat.reduceLT])]
    simp only [rn0, rn1, rn2, rn3, rn4, rn5, rn6, rn7, rn8, if_true, if_false, Nat.le_refl, true_and, and_true, decide_true, decide_false, Bool.not_true, Bool.not_false, reduceIte, Nat.reduceEqDiff, Nat.reduceAdd, Nat.reduceMul, Nat.reduceSub, Nat.reduceLeDiff, Nat.reduceLT, haw, and_self]
  · have hG := good_of hf
    obtain ⟨q1, q2, q3⟩ := good_ok he
    obtain ⟨va, hva⟩ : ∃ va : Nat, a1 = (va : Int) := ⟨a1.toNat, by unfold InV at hv; omega⟩
    subst hva
    have hvn : va < S.nv := by unfold InV at hv; omega
    simp only [Int.toNat_natCast] at q1 q2 q3
    have hy4 := hy3.mono sub4
    have r4 := r3.mono sub4
    obtain ⟨r, g5, e5, i5, o5, u5, m5, f5⟩ := goodRef_c (n := n) (h := g4) (by omega) (by omega) (by omega) hy4 hG hz hl hvn
    have sub5 : Sub All g4 g5 := AHeap.subOf o5
    have t5 := t4.mono sub5
    have haw5 := awake_c (n := n) (h := g5) (by omega)
    by_cases c : gAll S va = []
    · rw [if_pos c] at q1
      rw [c, gLo_nil] at q2
      rw [c, gHi_nil] at q3
      rw [q2, q3] at t5
      rw [q1]
      have hl0 : ((gAll S va).length : Int) = 0 := by rw [c]; rfl
      have hq := fun (f : Go.Vm.Fr) (e1 : f 52 = .agg ⟨[.int .i64 0, .int .i64 0]⟩) (e2 : f 53 = .agg ⟨[.int .i64 0, .int .i64 0]⟩) => eql39 (h := g5) (N := 89) (f := f) (x := T 52) (y := T 53) (ty := 4) (u := 39) (by rw [valN_tmp (by omega)]; exact e1) (by rw [valN_tmp (by omega)]; exact e2)
      simp only [rn0, rn1, rn2, rn3, rn4, rn5, rn6, rn7, rn8, if_true, if_false, Nat.le_refl, true_and, and_true, decide_true, decide_false, Bool.not_true, Bool.not_false, reduceIte, Nat.reduceEqDiff, Nat.reduceAdd, Nat.reduceMul, Nat.reduceSub, Nat.reduceLeDiff, Nat.reduceLT]
      refine W_draw All ?_
      simp only [rn0, rn1, rn2, rn3, rn4, rn5, rn6, rn7, rn8, if_true, if_false, Nat.le_refl, true_and, and_true, decide_true, decide_false, Bool.not_true, Bool.not_false, reduceIte, Nat.reduceEqDiff, Nat.reduceAdd, Nat.reduceMul, Nat.reduceSub, Nat.reduceLeDiff, Nat.reduceLT, r3.whole (n := 7) rfl, hy3.self, ev, e4, ex0, ex1]
      first | refine ⟨by omega, ?_⟩ | skip
      simp only [rn0, rn1, rn2, rn3, rn4, rn5, rn6, rn7, rn8, if_true, if_false, Nat.le_refl, true_and, and_true, decide_true, decide_false, Bool.not_true, Bool.not_false, reduceIte, Nat.reduceEqDiff, Nat.reduceAdd, Nat.reduceMul, Nat.reduceSub, Nat.reduceLeDiff, Nat.reduceLT, r4.whole (n := 7) rfl, e5, Cells.len i5, hl0, t5.whole (n := 2) rfl, build_rng0, x_binA, binA_eqlAgg]
      rw [hq _ (by simp only [rn0, rn1, rn2, rn3, rn4, rn5, rn6, rn7, rn8, if_true, if_false, Nat.le_refl, true_and, and_true, decide_true, decide_false, Bool.not_true, Bool.not_false, reduceIte, Nat.reduceEqDiff, Nat.reduceAdd, Nat.reduceMul, Nat.reduceSub, Nat.reduceLeDiff, Nat.reduceLT]) (by simp only [rn0, rn1, rn2, rn3, rn4, rn5, rn6, rn7, rn8, if_true, if_false, Nat.le_refl, true_and, and_true, decide_true, decide_false, Bool.not_true, Bool.not_false, reduceIte, Nat.reduceEqDiff, Nat.reduceAdd, Nat.reduceMul, Nat.reduceSub, Nat.reduceLeDiff, Nat.reduceLT])]
      simp only [rn0, rn1, rn2, rn3, rn4, rn5, rn6, rn7, rn8, if_true, if_false, Nat.le_refl, true_and, and_true, decide_true, decide_false, Bool.not_true, Bool.not_false, reduceIte, Nat.reduceEqDiff, Nat.reduceAdd, Nat.reduceMul, Nat.reduceSub, Nat.reduceLeDiff, Nat.reduceLT, haw5, and_self]
    · rw [if_neg c] at q1
      obtain ⟨a, l1, l2, l3, l4, _⟩ := gAll_run hG hvn hz c
      have hl0 : ¬ ((gAll S va).length : Int) = 0 := by omega
      obtain ⟨mh1, mh2, mh3⟩ := hoursN_ok hG hvn
      obtain ⟨⟨vb1, vb2⟩, _⟩ := hG.args.vat va hvn
      obtain ⟨zl0, zl5, _⟩ := hG.sizes
      have el0 : S.vb va + atL (gAll S va) 0 = goodLo S (va : Int) := by rw [q2]; unfold gLo; rw [if_neg c]
      have elN : S.vb va + atL (gAll S va) ((gAll S va).length - 1) = goodHi S (va : Int) := by rw [q3]; unfold gHi; rw [if_neg c]
      rw [l3] at q2
      rw [l4] at q3
      have hws : wrapF .i64 (((gAll S va).length : Int) - 1) = (((gAll S va).length - 1 : Nat) : Int) := by rw [wrap_in (by omega) (by omega)]; omega
      have hwd : wrapF .i64 (goodHi S (va : Int) - goodLo S (va : Int)) = ((gAll S va).length : Int) - 1 := by rw [wrap_in (by omega) (by omega)]; omega
      have hwe : wrapF .i64 (((gAll S va).length : Int) - 1 + 1) = ((gAll S va).length : Int) := by rw [wrap_in (by omega) (by omega)]; omega
      have i0 : indexSl 1 r (.int .i64 0) = some (ptrO r 1 0 0) := Cells.idx i5 l2
      have ld0 := Cells.ld i5 l2 Nat.zero_lt_one
      have idN := Cells.idx i5 (show (gAll S va).length - 1 < (gAll S va).length by omega)
      have ldN := Cells.ld i5 (show (gAll S va).length - 1 < (gAll S va).length by omega) Nat.zero_lt_one
      simp only [el0] at ld0
      simp only [elN] at ldN
      have eb := between_c (n := n) (h := g5) (by omega) (by omega) (goodLo S (va : Int)) (goodHi S (va : Int))
      generalize goodLo S (va : Int) = glo at *
      generalize goodHi S (va : Int) = ghi at *
      have hq := fun (f : Go.Vm.Fr) (e1 : f 62 = .agg ⟨[.int .i64 glo, .int .i64 ghi]⟩) (e2 : f 72 = .agg ⟨[.int .i64 glo, .int .i64 ghi]⟩) => eql39 (h := g5) (N := 89) (f := f) (x := T 62) (y := T 72) (ty := 4) (u := 39) (by rw [valN_tmp (by omega)]; exact e1) (by rw [valN_tmp (by omega)]; exact e2)
      rw [q1]
      simp only [rn0, rn1, rn2, rn3, rn4, rn5, rn6, rn7, rn8, if_true, if_false, Nat.le_refl, true_and, and_true, decide_true, decide_false, Bool.not_true, Bool.not_false, reduceIte, Nat.reduceEqDiff, Nat.reduceAdd, Nat.reduceMul, Nat.reduceSub, Nat.reduceLeDiff, Nat.reduceLT]
      refine W_draw All ?_
      simp only [rn0, rn1, rn2, rn3, rn4, rn5, rn6, rn7, rn8, if_true, if_false, Nat.le_refl, true_and, and_true, decide_true, decide_false, Bool.not_true, Bool.not_false, reduceIte, Nat.reduceEqDiff, Nat.reduceAdd, Nat.reduceMul, Nat.reduceSub, Nat.reduceLeDiff, Nat.reduceLT, r3.whole (n := 7) rfl, hy3.self, ev, e4, ex0, ex1]
      first | refine ⟨by omega, ?_⟩ | skip
      simp only [rn0, rn1, rn2, rn3, rn4, rn5, rn6, rn7, rn8, if_true, if_false, Nat.le_refl, true_and, and_true, decide_true, decide_false, Bool.not_true, Bool.not_false, reduceIte, Nat.reduceEqDiff, Nat.reduceAdd, Nat.reduceMul, Nat.reduceSub, Nat.reduceLeDiff, Nat.reduceLT, r4.whole (n := 7) rfl, e5, Cells.len i5, hl0]
      refine W_draw All ?_
      simp only [rn0, rn1, rn2, rn3, rn4, rn5, rn6, rn7, rn8, if_true, if_false, Nat.le_refl, true_and, and_true, decide_true, decide_false, Bool.not_true, Bool.not_false, reduceIte, Nat.reduceEqDiff, Nat.reduceAdd, Nat.reduceMul, Nat.reduceSub, Nat.reduceLeDiff, Nat.reduceLT, t5.whole (n := 2) rfl, self_two, i0, ld0, hws, idN, ldN, eb, t5.ld, Nat.zero_add, List.getElem?_cons_zero, List.getElem?_cons_succ, d_guard, dg_tt, dg_tf, dg_ft, dg_ff, Cells.len i5, hwd, hwe, haw5, x_binA, binA_eqlAgg]
      rw [hq _ (by simp only [rn0, rn1, rn2, rn3, rn4, rn5, rn6, rn7, rn8, if_true, if_false, Nat.le_refl, true_and, and_true, decide_true, decide_false, Bool.not_true, Bool.not_false, reduceIte, Nat.reduceEqDiff, Nat.reduceAdd, Nat.reduceMul, Nat.reduceSub, Nat.reduceLeDiff, Nat.reduceLT]) (by simp only [rn0, rn1, rn2, rn3, rn4, rn5, rn6, rn7, rn8, if_true, if_false, Nat.le_refl, true_and, and_true, decide_true, decide_false, Bool.not_true, Bool.not_false, reduceIte, Nat.reduceEqDiff, Nat.reduceAdd, Nat.reduceMul, Nat.reduceSub, Nat.reduceLeDiff, Nat.reduceLT])]
      simp only [rn0, rn1, rn2, rn3, rn4, rn5, rn6, rn7, rn8, if_true, if_false, Nat.le_refl, true_and, and_true, decide_true, decide_false, Bool.not_true, Bool.not_false, reduceIte, Nat.reduceEqDiff, Nat.reduceAdd, Nat.reduceMul, Nat.reduceSub, Nat.reduceLeDiff, Nat.reduceLT, t5.ld, Nat.zero_add, List.getElem?_cons_zero, List.getElem?_cons_succ, d_guard, dg_tt, dg_tf, dg_ft, dg_ff, Cells.len i5, hwd, hwe, haw5, and_self]
end Go.Vm.St
