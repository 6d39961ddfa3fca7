/- Texts of the proofs of this seat, put together: StLeaveP. -/
import Derived.Test.YtffgdpkogokdhaaPk15

namespace Go.Vm
open Go.Vm.Vat
open Classical in
/-- the first number that is so -/
noncomputable def fstP (p : Nat → Prop) : Nat → Option Nat
  | 0 => none
  | k + 1 => match fstP p k with
    | some v => some v
    | none => if p k then some k else none
section
variable {p : Nat → Prop}
open Classical in
theorem fstP_none : ∀ {k : Nat}, fstP p k = none ↔ ∀ i, i < k → ¬ p i
  | 0 => ⟨fun _ i hi => absurd hi (Nat.not_lt_zero _), fun _ => rfl⟩
  | k + 1 => by
    have ih := fstP_none (k := k)
    constructor
    · intro h i hi
      rw [fstP] at h
      cases e : fstP p k with
      | some v => rw [e] at h; cases h
      | none =>
        rw [e] at h
        by_cases c : i = k
        · subst c
          intro q
          simp only [if_pos q] at h
          cases h
        · exact ih.1 e i (by omega)
    · intro h
      rw [fstP, ih.2 fun i hi => h i (by omega)]
      exact if_neg (h k (by omega))
open Classical in
theorem fstP_at {k m : Nat} (hk : k < m) (h0 : ∀ i, i < k → ¬ p i) (h1 : p k) : fstP p m = some k := by
  have e0 := fstP_none.2 h0
  have up : ∀ d, fstP p (k + 1 + d) = some k := by
    intro d
    induction d with
    | zero => show fstP p (k + 1) = some k; rw [fstP, e0]; exact if_pos h1
    | succ d ih => show fstP p (k + 1 + d + 1) = some k; rw [fstP, ih]
  have := up (m - (k + 1))
  rw [show k + 1 + (m - (k + 1)) = m by omega] at this
  exact this
theorem pick_head : ∀ {N : Nat}, pickL p N ≠ [] → ∃ x : Nat, x < N ∧ atL (pickL p N) 0 = (x : Int) ∧ p x ∧ ∀ i, i < x → ¬ p i
  | 0, h => absurd rfl h
  | N + 1, h => by
    by_cases c : p N
    · rw [pick_yes c] at h ⊢
      by_cases c0 : pickL p N = []
      · refine ⟨N, by omega, by rw [c0]; rfl, c, fun i hi hp => ?_⟩
        obtain ⟨j, j1, _⟩ := pick_has (p := p) hi hp
        rw [c0] at j1
        exact absurd j1 (Nat.not_lt_zero _)
      · obtain ⟨x, x1, x2, x3⟩ := pick_head c0
        exact ⟨x, by omega, by rw [at_append (List.length_pos_iff.2 c0)]; exact x2, x3⟩
    · rw [pick_no c] at h ⊢
      obtain ⟨x, x1, x2, x3⟩ := pick_head h
      exact ⟨x, by omega, x2, x3⟩
end
end Go.Vm
namespace Go.Vm.St
open Go.Proofs Go.Vm.Vat
set_option linter.unusedSimpArgs false
set_option linter.unusedVariables false
set_option maxRecDepth 10000
variable {n : Nat} {h : AHeap}
/-! ### The first wrong smell -/
/-- the smells 0 to k are not all right in any truth -/
def blkS (S : MS) (k : Nat) : Prop := ∀ t, t ∈ allE S → ∃ i, i ≤ k ∧ i < S.ns ∧ wrS S t i
noncomputable def firstF (S : MS) : Option Nat := fstP (blkS S) S.ns
noncomputable def firstV (S : MS) : Int := if faultS S = 0 then optI (firstF S) 0 else 0
noncomputable def firstE (S : MS) : Int := if faultS S = 0 then (if firstF S = none then 7 else 0) else faultS S
def headM (L : List (List Int)) : Nat → Int
  | 0 => 0
  | j + 1 => max (headM L j) (atL (L.getD j []) 0)
theorem headM_le {L : List (List Int)} : ∀ {j i : Nat}, i < j → atL (L.getD i []) 0 ≤ headM L j
  | j + 1, i, hi => by
    simp only [headM]
    by_cases c : i = j
    · rw [c]; omega
    · have := headM_le (L := L) (show i < j by omega)
      omega
theorem headM_at {L : List (List Int)} : ∀ {j : Nat}, headM L j = 0 ∨ ∃ i, i < j ∧ headM L j = atL (L.getD i []) 0
  | 0 => .inl rfl
  | j + 1 => by
    simp only [headM]
    rcases Int.le_total (headM L j) (atL (L.getD j []) 0) with c | c
    · right
      exact ⟨j, by omega, by omega⟩
    · rw [show max (headM L j) (atL (L.getD j []) 0) = headM L j by omega]
      rcases headM_at (L := L) (j := j) with q | ⟨i, i1, i2⟩
      · exact .inl q
      · exact .inr ⟨i, by omega, i2⟩
theorem allW_at {S : MS} {j : Nat} (hj : j < (allW S).length) : ∃ t, t ∈ allE S ∧ (allW S).getD j [] = wrongL S t := by
  have hm : (allW S).getD j [] ∈ allW S := by
    rw [List.getD_eq_getElem?_getD, List.getElem?_eq_getElem hj]
    exact List.getElem_mem hj
  obtain ⟨t, ht, e⟩ := List.mem_map.1 hm
  exact ⟨t, ht, e.symm⟩
theorem allW_of {S : MS} {t : Nat → Int} (ht : t ∈ allE S) : ∃ j, j < (allW S).length ∧ (allW S).getD j [] = wrongL S t := by
  have hm : wrongL S t ∈ allW S := List.mem_map.2 ⟨t, ht, rfl⟩
  obtain ⟨j, hj, e⟩ := List.getElem_of_mem hm
  exact ⟨j, hj, by rw [List.getD_eq_getElem?_getD, List.getElem?_eq_getElem hj]; exact e⟩
theorem first_none {S : MS} {j : Nat} (hj : j < (allW S).length) (h0 : (allW S).getD j [] = []) : firstF S = none := by
  obtain ⟨t, ht, e⟩ := allW_at hj
  rw [h0] at e
  refine fstP_none.2 fun k hk hb => ?_
  obtain ⟨i, _, i2, i3⟩ := hb t ht
  obtain ⟨q, q1, _⟩ := pick_has (p := wrS S t) i2 i3
  have q1 : q < (wrongL S t).length := q1
  rw [← e] at q1
  exact absurd q1 (Nat.not_lt_zero _)
theorem first_some {S : MS} (hG : Good S) (hn : ∀ j, j < (allW S).length → (allW S).getD j [] ≠ []) : ∃ N : Nat, firstF S = some N ∧ headM (allW S) (allW S).length = (N : Int) := by
  have hpos : 0 < (allW S).length := by
    unfold allW
    rw [List.length_map]
    exact List.length_pos_iff.2 (allE_ne hG)
  have hhead : ∀ j, j < (allW S).length → ∃ t, t ∈ allE S ∧ ∃ x : Nat, x < S.ns ∧ atL ((allW S).getD j []) 0 = (x : Int) ∧ wrS S t x ∧ ∀ i, i < x → ¬ wrS S t i := fun j hj => by
    obtain ⟨t, ht, e⟩ := allW_at hj
    have hne := hn j hj
    rw [e] at hne
    obtain ⟨x, x1, x2, x3, x4⟩ := pick_head hne
    exact ⟨t, ht, x, x1, by rw [e]; exact x2, x3, x4⟩
  obtain ⟨N, hN, j0, hj0, hN0⟩ : ∃ N : Nat, headM (allW S) (allW S).length = (N : Int) ∧ ∃ j, j < (allW S).length ∧ atL ((allW S).getD j []) 0 = (N : Int) := by
    rcases headM_at (L := allW S) (j := (allW S).length) with q | ⟨j, j1, j2⟩
    · obtain ⟨t, _, x, x1, x2, _⟩ := hhead 0 hpos
      have := headM_le (L := allW S) hpos
      exact ⟨0, q, 0, hpos, by omega⟩
    · obtain ⟨t, _, x, x1, x2, _⟩ := hhead j j1
      exact ⟨x, by rw [j2, x2], j, j1, x2⟩
  refine ⟨N, ?_, hN⟩
  obtain ⟨t0, ht0, x0, x1, x2, x3, x4⟩ := hhead j0 hj0
  have hx0 : x0 = N := by omega
  subst hx0
  refine fstP_at x1 (fun i hi hb => ?_) (fun t ht => ?_)
  · obtain ⟨k, k1, k2, k3⟩ := hb t0 ht0
    exact x4 k (by omega) k3
  · obtain ⟨j, hj, e⟩ := allW_of ht
    have hne := hn j hj
    rw [e] at hne
    obtain ⟨x, y1, y2, y3, y4⟩ := pick_head hne
    have hle := headM_le (L := allW S) hj
    rw [e] at hle
    have y2 : atL (wrongL S t) 0 = (x : Int) := y2
    exact ⟨x, by omega, y1, y3⟩
def s51 : SCode := (.seq (.ops [⟨(some 1), none, .box (T 0)⟩, ⟨(some 2), none, .mov (.const (.int .i64 (0)))⟩, ⟨(some 3), none, .mov (.const (.int .i64 (0)))⟩]) (.seq (.seq (.ops [⟨(some 8), none, .loadN 7 (T 1)⟩, ⟨(some 9), none, .call (.func 30) [(T 8)]⟩, ⟨(some 4), none, .mov (T 9)⟩]) (.seq (.ops [⟨(some 10), none, .mov (T 4)⟩, ⟨(some 11), none, .int2 .neq (T 10) (.const (.int .i64 (0)))⟩]) (.cond (T 11) (.seq (.ops [⟨(some 12), none, .mov (T 4)⟩, ⟨(some 2), none, .mov (.const (.int .i64 (0)))⟩, ⟨(some 3), none, .mov (T 12)⟩]) .ret) .skip))) (.seq (.ops [⟨(some 5), none, .mov (.const (.int .i64 (0)))⟩]) (.seq (.seq (.ops [⟨(some 13), none, .loadN 7 (T 1)⟩, ⟨(some 14), none, .build #[(0, 7), (7, 1)] [(.int .i64 (0)), (.int .i64 (0)), (.slice none 0 0), (.int .i64 (0)), (.int .i64 (0)), (.slice none 0 0), (.slice none 0 0), (.slice none 0 0)] [0] [(T 13)]⟩, ⟨(some 15), none, .call (.func 96) [(T 14)]⟩, ⟨(some 16), none, .len (T 15)⟩, ⟨(some 17), none, .mov (.const (.int .i64 (0)))⟩]) (.block 0 (.loop (.seq (.ops [⟨(some 18), none, .int2 .lss (T 17) (T 16)⟩]) (.seq (.cond (T 18) .skip (.exit 0)) (.seq (.block 1 (.seq (.ops [⟨(some 19), none, .idxSl 1 (T 15) (T 17)⟩, ⟨(some 20), none, .load1 (T 19)⟩, ⟨(some 7), none, .mov (T 20)⟩]) (.seq (.seq (.ops [⟨(some 21), none, .mov (T 7)⟩, ⟨(some 22), none, .len (T 21)⟩, ⟨(some 23), none, .int2 .eql (T 22) (.const (.int .i64 (0)))⟩]) (.cond (T 23) (.seq (.ops [⟨(some 2), none, .mov (.const (.int .i64 (0)))⟩, ⟨(some 3), none, .mov (.const (.int .i64 (7)))⟩]) .ret) .skip)) (.ops [⟨(some 24), none, .mov (T 5)⟩, ⟨(some 25), none, .mov (T 7)⟩, ⟨(some 26), none, .idxSl 1 (T 25) (.const (.int .i64 (0)))⟩, ⟨(some 27), none, .load1 (T 26)⟩, ⟨(some 28), none, .plain (.call { callee := .builtin .max, args := #[(T 24), (T 27)], argTypes := #[3, 3] }) 3⟩, ⟨(some 5), none, .mov (T 28)⟩])))) (.ops [⟨(some 29), none, .int2 .add (T 17) (.const (.int .i64 (1)))⟩, ⟨(some 17), none, .mov (T 29)⟩]))))))) (.seq (.ops [⟨(some 30), none, .mov (T 5)⟩, ⟨(some 2), none, .mov (T 30)⟩, ⟨(some 3), none, .mov (.const (.int .i64 (0)))⟩]) .ret)))))
theorem fok51 : FnOk Try.prog 51 31 s51 [.tmp 2, .tmp 3] := ⟨Try.f51, _, Try.func51, rfl, Try.ntmps51, by kernel_rfl, by kernel_rfl⟩
set_option maxHeartbeats 2000000 in
theorem firstP_c (hn : 2600 ≤ n) (hr : h.next + 1200000 < far) {wv vv sv : Value} {S : MS} (hy : SteepR h wv vv sv S) (hT : ThinS S) :
    call n (.func (.func 51) #[] #[]) [.agg ⟨stL S wv vv sv⟩] h = some (.tuple ⟨[.int .i64 (firstV S), .int .i64 (firstE S)]⟩, h) := by
  obtain ⟨n, rfl⟩ : ∃ p, n = p + 1 := ⟨n - 1, by omega⟩
  refine call_plain0 fok51 rfl rfl (by simp) rfl ?_
  have hy := hy.shut
  have hr : h.shutAll.next + 1200000 < far := hr
  have hfl : h.shutAll.floor ≤ h.shutAll.next := Nat.le_refl _
  generalize h.shutAll = h at hy hr hfl
  simp only [s51, W_seq, W_ops]
  refine ops_box (cs := stL S wv vv sv) (by omega) rfl hy.one fun g1 hx1 => ?_
  have n1 := hx1.next
  have f1 := hx1.floor
  have hy1 := hy.mono hx1.sub
  have w1 := hx1.row.whole (n := 7) rfl
  have ec := check_c (n := n) (h := g1) (by omega) (by omega) hy1 hT
  by_cases hf : faultS S = 0
  case neg =>
    have q1 : firstV S = 0 := if_neg hf
    have q2 : firstE S = faultS S := if_neg hf
    rw [q1, q2]
    simp only [rn0, rn1, rn2, rn3, rn4, rn5, rn6, rn7, rn8, if_true, if_false, Nat.le_refl, true_and, and_true, decide_true, decide_false, Bool.not_true, Bool.not_false, reduceIte, Nat.reduceEqDiff, Nat.reduceAdd, Nat.reduceMul, Nat.reduceSub, Nat.reduceLeDiff, Nat.reduceLT, w1, ec, hf, ret_tt]
  have hG := good_of hf
  have q1 : firstV S = optI (firstF S) 0 := if_pos hf
  have q2 : firstE S = if firstF S = none then 7 else 0 := if_pos hf
  obtain ⟨_, _, _, _, _, z5, _⟩ := hG.sizes
  have hlenW : (allW S).length ≤ 2000 := by unfold allW; rw [List.length_map]; exact enum_len hG
  obtain ⟨av, g2, e2, ⟨R, hcR, hiR⟩, oav, o2, u2, m2, f2⟩ := wrongAll_c (n := n) (h := g1) (by omega) (by omega) (by omega) hy1 hG
  simp only [rn0, rn1, rn2, rn3, rn4, rn5, rn6, rn7, rn8, if_true, if_false, Nat.le_refl, true_and, and_true, decide_true, decide_false, Bool.not_true, Bool.not_false, reduceIte, Nat.reduceEqDiff, Nat.reduceAdd, Nat.reduceMul, Nat.reduceSub, Nat.reduceLeDiff, Nat.reduceLT, w1, ec, hf, build_wk, e2, Cells.len hcR]
  refine W_loop (allW S).length (fun j f g ms => (g = g2 ∧ ∀ i, i < j → (allW S).getD i [] ≠ []) ∧ ms = [] ∧ f 5 = .int .i64 (headM (allW S) j) ∧ f 15 = av ∧ f 16 = .int .i64 ((allW S).length : Int) ∧ f 17 = .int .i64 (j : Int)) (by simp; omega) ?_ ?_ ?_
  · simp only [rn0, rn1, rn2, rn3, rn4, rn5, rn6, rn7, rn8, if_true, if_false, Nat.le_refl, true_and, and_true, decide_true, decide_false, Bool.not_true, Bool.not_false, reduceIte, Nat.reduceEqDiff, Nat.reduceAdd, Nat.reduceMul, Nat.reduceSub, Nat.reduceLeDiff, Nat.reduceLT, headM]
    first | exact ⟨⟨rfl, fun i hi => absurd hi (Nat.not_lt_zero _)⟩, rfl⟩ | exact ⟨fun i hi => absurd hi (Nat.not_lt_zero _), rfl⟩ | exact fun i hi => absurd hi (Nat.not_lt_zero _)
  · rintro j f g ms hj ⟨⟨rfl, hno⟩, rfl, p5, p15, p16, p17⟩
    have hj' : (j : Int) < ((allW S).length : Int) := by omega
    have hwj : wrapF .i64 ((j : Int) + 1) = ((j + 1 : Nat) : Int) := by rw [wrap_in (by omega) (by omega)]; rfl
    have hij := hiR j hj
    by_cases c : (allW S).getD j [] = []
    · have hl0 : (((allW S).getD j []).length : Int) = 0 := by rw [c]; rfl
      have hN := first_none hj c
      have q3 : optI (firstF S) 0 = 0 := by rw [hN]; rfl
      rw [q1, q2, q3, if_pos hN]
      simp only [rn0, rn1, rn2, rn3, rn4, rn5, rn6, rn7, rn8, if_true, if_false, Nat.le_refl, true_and, and_true, decide_true, decide_false, Bool.not_true, Bool.not_false, reduceIte, Nat.reduceEqDiff, Nat.reduceAdd, Nat.reduceMul, Nat.reduceSub, Nat.reduceLeDiff, Nat.reduceLT, p5, p15, p16, p17, hj', Cells.idx hcR hj, Cells.ld hcR hj Nat.zero_lt_one, Cells.len hij, hl0, ret_tt]
    · have hlp : 0 < ((allW S).getD j []).length := List.length_pos_iff.2 c
      have hl0 : ¬ (((allW S).getD j []).length : Int) = 0 := by omega
      have i0 : indexSl 1 (R j) (.int .i64 0) = some (ptrO (R j) 1 0 0) := Cells.idx hij hlp
      have l0 := Cells.ld hij hlp Nat.zero_lt_one
      have hno2 : ∀ i, i < j + 1 → (allW S).getD i [] ≠ [] := fun i hi => by
        by_cases e : i = j
        · rw [e]; exact c
        · exact hno i (by omega)
      have hmx : max (headM (allW S) j) (atL ((allW S).getD j []) 0) = headM (allW S) (j + 1) := rfl
      simp only [rn0, rn1, rn2, rn3, rn4, rn5, rn6, rn7, rn8, if_true, if_false, Nat.le_refl, true_and, and_true, decide_true, decide_false, Bool.not_true, Bool.not_false, reduceIte, Nat.reduceEqDiff, Nat.reduceAdd, Nat.reduceMul, Nat.reduceSub, Nat.reduceLeDiff, Nat.reduceLT, p5, p15, p16, p17, hj', Cells.idx hcR hj, Cells.ld hcR hj Nat.zero_lt_one, Cells.len hij, hl0, i0, l0, valN_tmp, Nat.reduceLT, hmx, hwj]
      first | exact ⟨⟨rfl, hno2⟩, rfl⟩ | exact ⟨rfl, hno2⟩ | exact ⟨hno2, rfl⟩ | exact hno2
  · rintro f g ms ⟨⟨rfl, hno⟩, rfl, p5, p15, p16, p17⟩
    obtain ⟨N, hN, hM⟩ := first_some hG hno
    have q3 : optI (firstF S) 0 = (N : Int) := by rw [hN]; rfl
    have q4 : (if firstF S = none then (7 : Int) else 0) = 0 := by rw [hN]; rfl
    rw [q1, q2, q3, q4]
    rw [hM] at p5
    simp only [rn0, rn1, rn2, rn3, rn4, rn5, rn6, rn7, rn8, if_true, if_false, Nat.le_refl, true_and, and_true, decide_true, decide_false, Bool.not_true, Bool.not_false, reduceIte, Nat.reduceEqDiff, Nat.reduceAdd, Nat.reduceMul, Nat.reduceSub, Nat.reduceLeDiff, Nat.reduceLT, p5, p15, p16, p17, Int.lt_irrefl, ret_tt]
/-- what 'Leave' answers -/
def LeaveR (h : AHeap) (S : MS) (v : Value) (h' : AHeap) : Prop := (∀ i, i < h.next → h'.get i = h.get i) ∧ h.next ≤ h'.next ∧ h'.next ≤ h.next + 1000010 ∧ h'.floor = h.floor ∧
  ((faultS S ≠ 0 ∧ v = .tuple ⟨[nilS, .int .i64 (faultS S)]⟩) ∨ (faultS S = 0 ∧ ∃ l, v = .tuple ⟨[l, .int .i64 0]⟩ ∧ Ints h' l (leaveS S).length (atL (leaveS S)) ∧ oneCell l = true))
def s52 : SCode := (.seq (.ops [⟨(some 1), none, .box (T 0)⟩, ⟨(some 2), none, .mov (.const (.slice none 0 0))⟩, ⟨(some 3), none, .mov (.const (.int .i64 (0)))⟩]) (.seq (.seq (.ops [⟨(some 5), none, .loadN 7 (T 1)⟩, ⟨(some 6), none, .call (.func 30) [(T 5)]⟩, ⟨(some 4), none, .mov (T 6)⟩]) (.seq (.ops [⟨(some 7), none, .mov (T 4)⟩, ⟨(some 8), none, .int2 .neq (T 7) (.const (.int .i64 (0)))⟩]) (.cond (T 8) (.seq (.ops [⟨(some 9), none, .mov (T 4)⟩, ⟨(some 2), none, .mov (.const (.slice none 0 0))⟩, ⟨(some 3), none, .mov (T 9)⟩]) .ret) .skip))) (.seq (.ops [⟨(some 10), none, .loadN 7 (T 1)⟩, ⟨(some 11), none, .build #[(0, 7), (7, 1)] [(.int .i64 (0)), (.int .i64 (0)), (.slice none 0 0), (.int .i64 (0)), (.int .i64 (0)), (.slice none 0 0), (.slice none 0 0), (.slice none 0 0)] [0] [(T 10)]⟩, ⟨(some 12), none, .call (.func 97) [(T 11)]⟩, ⟨(some 2), none, .mov (T 12)⟩, ⟨(some 3), none, .mov (.const (.int .i64 (0)))⟩]) .ret)))
theorem fok52 : FnOk Try.prog 52 13 s52 [.tmp 2, .tmp 3] := ⟨Try.f52, _, Try.func52, rfl, Try.ntmps52, by kernel_rfl, by kernel_rfl⟩
theorem leaveP_c (hn : 2700 ≤ n) (hr : h.next + 1300000 < far) (hfl : h.floor ≤ h.next) {wv vv sv : Value} {S : MS} (hy : SteepR h wv vv sv S) (hT : ThinS S) :
    ∃ v h', call n (.func (.func 52) #[] #[]) [.agg ⟨stL S wv vv sv⟩] h = some (v, h') ∧ LeaveR h S v h' := by
  obtain ⟨n, rfl⟩ : ∃ p, n = p + 1 := ⟨n - 1, by omega⟩
  refine call_any0 fok52 rfl rfl (by simp) ?_
  simp only [s52, W_seq, W_ops]
  refine ops_box (cs := stL S wv vv sv) (by omega) rfl hy.one fun g1 hx1 => ?_
  have n1 := hx1.next
  have f1 := hx1.floor
  have hy1 := hy.mono hx1.sub
  have w1 := hx1.row.whole (n := 7) rfl
  have ec := check_c (n := n) (h := g1) (by omega) (by omega) hy1 hT
  by_cases hf : faultS S = 0
  case neg =>
    simp only [rn0, rn1, rn2, rn3, rn4, rn5, rn6, rn7, rn8, if_true, if_false, Nat.le_refl, true_and, and_true, decide_true, decide_false, Bool.not_true, Bool.not_false, reduceIte, Nat.reduceEqDiff, Nat.reduceAdd, Nat.reduceMul, Nat.reduceSub, Nat.reduceLeDiff, Nat.reduceLT, w1, ec, hf, ret_tt]
    exact ⟨fun i hi => hx1.old i hi, by omega, by omega, by omega, .inl ⟨hf, rfl⟩⟩
  have hG := good_of hf
  obtain ⟨v, g2, e2, i2, ov, o2, u2, m2, f2⟩ := smallest_c (n := n) (h := g1) (by omega) (by omega) (by omega) hy1 hG
  simp only [rn0, rn1, rn2, rn3, rn4, rn5, rn6, rn7, rn8, if_true, if_false, Nat.le_refl, true_and, and_true, decide_true, decide_false, Bool.not_true, Bool.not_false, reduceIte, Nat.reduceEqDiff, Nat.reduceAdd, Nat.reduceMul, Nat.reduceSub, Nat.reduceLeDiff, Nat.reduceLT, w1, ec, hf, build_wk, e2, ret_tt]
  exact ⟨fun i hi => by rw [o2 i (by omega), hx1.old i hi], by omega, by omega, by omega, .inr ⟨hf, v, rfl, i2, ov⟩⟩
/-! ### .. by the reference -/
theorem can_blk {S : MS} {k : Nat} (hk : k < S.ns) : CanB S (2 ^ (k + 1) - 1) ↔ ¬ blkS S k := by
  constructor
  · rintro ⟨t, ht, hr⟩ hb
    obtain ⟨i, i1, i2, i3⟩ := hb t ht
    exact i3 (hr i i2 (low_bits.2 (by omega)))
  · intro hb
    apply Classical.byContradiction
    intro hn
    refine hb fun t ht => ?_
    apply Classical.byContradiction
    intro hno
    refine hn ⟨t, ht, fun x hx hbx => ?_⟩
    have hxk := low_bits.1 hbx
    apply Classical.byContradiction
    intro hw
    exact hno ⟨x, by omega, hx, hw⟩
def s56 : SCode := (.seq (.ops [⟨(some 2), none, .box (T 0)⟩, ⟨(some 4), none, .mov (.const (.int .i64 (0)))⟩]) (.seq (.seq (.ops [⟨(some 5), none, .mov (.const (.int .i64 (0)))⟩]) (.block 0 (.loop (.seq (.seq (.ops [⟨(some 6), none, .mov (T 5)⟩, ⟨(some 7), none, .fieldAddr 6 (T 2)⟩, ⟨(some 8), none, .load1 (T 7)⟩, ⟨(some 9), none, .len (T 8)⟩, ⟨(some 10), none, .int2 .lss (T 6) (T 9)⟩]) (.cond (T 10) .skip (.exit 0))) (.seq (.block 1 (.seq (.ops [⟨(some 13), none, .mov (T 1)⟩, ⟨(some 14), none, .mov (T 5)⟩, ⟨(some 15), none, .plain (.convert 3 114 (T 14)) 114⟩, ⟨(some 16), none, .plain (.binOp .shl 3 (.const (.int .i64 (2))) (T 15) 114) 3⟩, ⟨(some 17), none, .int2 .sub (T 16) (.const (.int .i64 (1)))⟩, ⟨(some 18), none, .call (.func 98) [(T 13), (T 17)]⟩, ⟨(some 19), none, .not (T 18)⟩]) (.cond (T 19) (.seq (.ops [⟨(some 20), none, .mov (T 5)⟩, ⟨(some 4), none, .mov (T 20)⟩]) .ret) .skip))) (.ops [⟨(some 11), none, .mov (T 5)⟩, ⟨(some 12), none, .int2 .add (T 11) (.const (.int .i64 (1)))⟩, ⟨(some 5), none, .mov (T 12)⟩])))))) (.seq (.ops [⟨(some 4), none, .mov (.const (.int .i64 (-1)))⟩]) .ret)))
theorem fok56 : FnOk Try.prog 56 21 s56 [.tmp 4] := ⟨Try.f56, _, Try.func56, rfl, Try.ntmps56, by kernel_rfl, by kernel_rfl⟩
theorem firstRef_c (hn : 3020 ≤ n) (hr : h.next + 10 < far) {wv vv sv va : Value} {S : MS} (hy : SteepR h wv vv sv S) (hG : Good S) (ha : Ints h va (manyS S).toNat (allAt S)) :
    call n (.func (.func 56) #[] #[]) [.agg ⟨stL S wv vv sv⟩, va] h = some (.int .i64 (optI (firstF S) (-1)), h) := by
  obtain ⟨n, rfl⟩ : ∃ p, n = p + 1 := ⟨n - 1, by omega⟩
  obtain ⟨_, _, zw, z6, z4, z5, _⟩ := hG.sizes
  refine call_plain0 fok56 rfl rfl (by simp) rfl ?_
  have hy := hy.shut
  have ha : Ints h.shutAll va (manyS S).toNat (allAt S) := Cells.shut ha
  have hr : h.shutAll.next + 10 < far := hr
  generalize h.shutAll = h at hy ha hr
  simp only [s56, W_seq, W_ops]
  refine ops_box (cs := stL S wv vv sv) (by omega) rfl hy.one fun g1 hx1 => ?_
  have n1 := hx1.next
  have hy1 := hy.mono hx1.sub
  have ha1 := Cells.mono ha hx1.sub
  have r1 := hx1.row
  simp only [rn0, rn1, rn2, rn3, rn4, rn5, rn6, rn7, rn8, if_true, if_false, Nat.le_refl, true_and, and_true, decide_true, decide_false, Bool.not_true, Bool.not_false, reduceIte, Nat.reduceEqDiff, Nat.reduceAdd, Nat.reduceMul, Nat.reduceSub, Nat.reduceLeDiff, Nat.reduceLT]
  refine W_loop S.ns (fun k f g ms => (∀ i, i < k → ¬ blkS S i) ∧ g = g1 ∧ ms = [] ∧ f 1 = va ∧ f 2 = .pointer (some ⟨h.next, 0, none⟩) ∧ f 5 = .int .i64 (k : Int)) (by simp; omega) ?_ ?_ ?_
  · simp only [rn0, rn1, rn2, rn3, rn4, rn5, rn6, rn7, rn8, if_true, if_false, Nat.le_refl, true_and, and_true, decide_true, decide_false, Bool.not_true, Bool.not_false, reduceIte, Nat.reduceEqDiff, Nat.reduceAdd, Nat.reduceMul, Nat.reduceSub, Nat.reduceLeDiff, Nat.reduceLT]
    first | exact ⟨fun i hi => absurd hi (Nat.not_lt_zero _), rfl⟩ | exact fun i hi => absurd hi (Nat.not_lt_zero _)
  · rintro k f g ms hk ⟨he, rfl, rfl, p1, p2, p5⟩
    have hk' : (k : Int) < (S.ns : Int) := by omega
    have hw : wrapF .i64 ((k : Int) + 1) = ((k + 1 : Nat) : Int) := by rw [wrap_in (by omega) (by omega)]; rfl
    have hpw : (2 ^ (k + 1) : Nat) ≤ 2 ^ S.ns := Nat.pow_le_pow_right (by omega) (by omega)
    have hs5 : (2 ^ S.ns : Nat) ≤ 2 ^ 5 := Nat.pow_le_pow_right (by omega) z5
    have hp0 : 0 < (2 ^ (k + 1) : Nat) := Nat.pow_pos (by omega)
    obtain ⟨s, hsd⟩ : ∃ s, s = 2 ^ (k + 1) - 1 := ⟨_, rfl⟩
    have hw1 : wrapF .i64 (((2 ^ (k + 1) : Nat) : Int) - 1) = (s : Int) := by
      generalize (2 ^ (k + 1) : Nat) = z at hpw hp0 hsd
      rw [wrap_in (by omega) (by omega)]; omega
    have ec := canRef_c (n := n) (h := g) (s := s) (by omega) hG ha1 (by omega)
    have hcb := can_blk hk
    rw [← hsd] at hcb
    by_cases hb : blkS S k
    · have hc : ¬ CanB S s := fun q => hcb.1 q hb
      have hN : firstF S = some k := fstP_at hk he hb
      have q3 : optI (firstF S) (-1) = (k : Int) := by rw [hN]; rfl
      rw [decide_eq_false hc] at ec
      rw [q3]
      simp only [rn0, rn1, rn2, rn3, rn4, rn5, rn6, rn7, rn8, if_true, if_false, Nat.le_refl, true_and, and_true, decide_true, decide_false, Bool.not_true, Bool.not_false, reduceIte, Nat.reduceEqDiff, Nat.reduceAdd, Nat.reduceMul, Nat.reduceSub, Nat.reduceLeDiff, Nat.reduceLT, p1, p2, p5, r1.ld, stg, Nat.zero_add, Cells.len hy1.s, hk', p_uint, r_conv (k := k) (by omega), r_shl2 (k := k) (by omega), valN_tmp, valN_const, Nat.reduceLT, hw1, ec, hw]
    · rw [decide_eq_true (hcb.2 hb)] at ec
      simp only [rn0, rn1, rn2, rn3, rn4, rn5, rn6, rn7, rn8, if_true, if_false, Nat.le_refl, true_and, and_true, decide_true, decide_false, Bool.not_true, Bool.not_false, reduceIte, Nat.reduceEqDiff, Nat.reduceAdd, Nat.reduceMul, Nat.reduceSub, Nat.reduceLeDiff, Nat.reduceLT, p1, p2, p5, r1.ld, stg, Nat.zero_add, Cells.len hy1.s, hk', p_uint, r_conv (k := k) (by omega), r_shl2 (k := k) (by omega), valN_tmp, valN_const, Nat.reduceLT, hw1, ec, hw]
      intro i hi
      by_cases e : i = k
      · rw [e]; exact hb
      · exact he i (by omega)
  · rintro f g ms ⟨he, rfl, rfl, p1, p2, p5⟩
    have hN : firstF S = none := fstP_none.2 he
    have q3 : optI (firstF S) (-1) = -1 := by rw [hN]; rfl
    rw [q3]
    simp only [rn0, rn1, rn2, rn3, rn4, rn5, rn6, rn7, rn8, if_true, if_false, Nat.le_refl, true_and, and_true, decide_true, decide_false, Bool.not_true, Bool.not_false, reduceIte, Nat.reduceEqDiff, Nat.reduceAdd, Nat.reduceMul, Nat.reduceSub, Nat.reduceLeDiff, Nat.reduceLT, p1, p2, p5, r1.ld, stg, Nat.zero_add, Cells.len hy1.s, Int.lt_irrefl]
def SetB (S : MS) (l : List Int) (b : Nat) : Prop := b < 2 ^ S.ns ∧ CanB S (offN (2 ^ S.ns - 1) b) ∧ l = pickL (Bit b) S.ns
theorem off_bit {S : MS} (hns : S.ns ≤ 5) {b x : Nat} (hx : x < S.ns) : Bit (offN (2 ^ S.ns - 1) b) x ↔ ¬ Bit b x := by
  have hp : (2 ^ S.ns : Nat) < 2 ^ 62 := Nat.pow_lt_pow_right (by omega) (by omega)
  rw [bit_test, bit_test, offN_bit (by omega) (by omega), Nat.testBit_two_pow_sub_one]
  simp [hx]
/-- without these bits some truth has all right: some truth has wrong among these alone -/
theorem can_off {S : MS} (hns : S.ns ≤ 5) {b : Nat} : CanB S (offN (2 ^ S.ns - 1) b) ↔ ∃ t, t ∈ allE S ∧ ∀ x, x < S.ns → wrS S t x → Bit b x := by
  constructor
  · rintro ⟨t, ht, hr⟩
    refine ⟨t, ht, fun x hx hw => ?_⟩
    apply Classical.byContradiction
    intro hb
    exact hw (hr x hx ((off_bit hns hx).2 hb))
  · rintro ⟨t, ht, hw⟩
    refine ⟨t, ht, fun x hx hb => ?_⟩
    apply Classical.byContradiction
    intro hr
    exact (off_bit hns hx).1 hb (hw x hx hr)
theorem left_g {S : MS} (hG : Good S) {b : Nat} (hc : CanB S (offN (2 ^ S.ns - 1) b)) : ¬ SL (pickL (Bit b) S.ns) (leaveS S) := by
  intro hs
  obtain ⟨_, _, _, _, _, z5, _⟩ := hG.sizes
  obtain ⟨t, ht, hw⟩ := (can_off z5).1 hc
  have hno := (leaveS_min hG).2 t ht
  obtain ⟨h1, h2⟩ := pick_sub (p := wrS S t) (q := Bit b) S.ns hw
  by_cases e : (pickL (wrS S t) S.ns).length = (pickL (Bit b) S.ns).length
  · have := h2 e
    unfold wrongL at hno
    rw [this] at hno
    exact hno hs
  · apply hno
    unfold wrongL
    rcases hs with hs | hs
    · exact .inl (by omega)
    · exact .inl (by omega)
theorem leave_bits {S : MS} (hG : Good S) : pickL (Bit (bitsOf (leaveS S) (leaveS S).length)) S.ns = leaveS S := by
  obtain ⟨⟨t, _, hl⟩, _⟩ := leaveS_min hG
  have hp : leaveS S = pickL (wrS S t) S.ns := hl
  refine Eq.trans (pick_congr fun j hj => ?_) hp.symm
  rw [bit_test, bitsOf_test, hp]
  constructor
  · rintro ⟨i, h1, h2⟩
    obtain ⟨x, x1, x2, x3⟩ := pick_at h1
    rw [x2] at h2
    have : x = j := by simpa using h2
    rw [← this]; exact x3
  · intro h
    obtain ⟨i, h1, h2⟩ := pick_has hj h
    exact ⟨i, h1, by rw [h2]; simp⟩
theorem leave_at {S : MS} (hG : Good S) {i : Nat} (hi : i < (leaveS S).length) : ∃ j : Nat, j < S.ns ∧ atL (leaveS S) i = (j : Int) := by
  obtain ⟨⟨t, _, hl⟩, _⟩ := leaveS_min hG
  have hp : leaveS S = pickL (wrS S t) S.ns := hl
  rw [hp] at hi ⊢
  obtain ⟨j, j1, j2, _⟩ := pick_at hi
  exact ⟨j, j1, j2⟩
theorem leave_bits_lt {S : MS} (hG : Good S) : bitsOf (leaveS S) (leaveS S).length < 2 ^ S.ns := by
  have : ∀ k, k ≤ (leaveS S).length → bitsOf (leaveS S) k < 2 ^ S.ns := by
    intro k
    induction k with
    | zero => intro _; exact Nat.pow_pos (by omega)
    | succ k ih =>
      intro hk
      rw [bitsOf]
      obtain ⟨j, j1, j2⟩ := leave_at hG (i := k) (by omega)
      exact Nat.or_lt_two_pow (ih (by omega)) (Nat.pow_lt_pow_right (by omega) (by rw [j2]; simpa using j1))
  exact this _ (Nat.le_refl _)
theorem left_f {S : MS} (hG : Good S) : CanB S (offN (2 ^ S.ns - 1) (bitsOf (leaveS S) (leaveS S).length)) := by
  obtain ⟨_, _, _, _, _, z5, _⟩ := hG.sizes
  obtain ⟨⟨t, ht, hl⟩, _⟩ := leaveS_min hG
  have hp : leaveS S = pickL (wrS S t) S.ns := hl
  refine (can_off z5).2 ⟨t, ht, fun x hx hw => ?_⟩
  rw [bit_test, bitsOf_test]
  obtain ⟨i, i1, i2⟩ := pick_has hx hw
  exact ⟨i, by rw [hp]; exact i1, by rw [hp, i2]; simp⟩
/-- what the reference has found among the first k sets -/
def BestK (S : MS) (k : Nat) (l : List Int) : Prop := (∃ b, SetB S l b) ∧ ∀ b, b < k → CanB S (offN (2 ^ S.ns - 1) b) → ¬ SL (pickL (Bit b) S.ns) l
theorem best_all {S : MS} (hG : Good S) {l : List Int} (hb : BestK S (2 ^ S.ns) l) : l = leaveS S := by
  obtain ⟨⟨b, b1, b2, b3⟩, h2⟩ := hb
  refine sl_eq ?_ ?_
  · rw [b3]; exact left_g hG b2
  · have := h2 _ (leave_bits_lt hG) (left_f hG)
    rw [leave_bits hG] at this; exact this
def s55 : SCode := (.seq (.ops [⟨(some 2), none, .box (T 0)⟩, ⟨(some 4), none, .mov (.const (.slice none 0 0))⟩]) (.seq (.ops [⟨(some 8), none, .loadN 7 (T 2)⟩, ⟨(some 9), none, .call (.func 72) [(T 8)]⟩, ⟨(some 10), none, .call (.func 74) [(T 9)]⟩, ⟨(some 5), none, .mov (T 10)⟩]) (.seq (.seq (.ops [⟨(some 6), none, .mov (.const (.int .i64 (0)))⟩]) (.block 0 (.loop (.seq (.seq (.ops [⟨(some 11), none, .mov (T 6)⟩, ⟨(some 12), none, .loadN 7 (T 2)⟩, ⟨(some 13), none, .call (.func 72) [(T 12)]⟩, ⟨(some 14), none, .int2 .leq (T 11) (T 13)⟩]) (.cond (T 14) .skip (.exit 0))) (.seq (.block 1 (.seq (.ops [⟨(some 17), none, .mov (T 6)⟩, ⟨(some 18), none, .call (.func 74) [(T 17)]⟩, ⟨(some 7), none, .mov (T 18)⟩]) (.seq (.ops [⟨(some 19), none, .mov (T 7)⟩, ⟨(some 20), none, .mov (T 5)⟩, ⟨(some 21), none, .call (.func 73) [(T 19), (T 20)]⟩, ⟨(some 22), none, .mov (T 21)⟩, ⟨(some 23), (some (22, true)), .mov (T 1)⟩, ⟨(some 24), (some (22, true)), .loadN 7 (T 2)⟩, ⟨(some 25), (some (22, true)), .call (.func 72) [(T 24)]⟩, ⟨(some 26), (some (22, true)), .mov (T 6)⟩, ⟨(some 27), (some (22, true)), .plain (.binOp .andNot 3 (T 25) (T 26) 3) 3⟩, ⟨(some 28), (some (22, true)), .call (.func 98) [(T 23), (T 27)]⟩, ⟨(some 29), none, .pick (T 22) (T 28) (.const (.bool false))⟩]) (.cond (T 29) (.ops [⟨(some 30), none, .mov (T 7)⟩, ⟨(some 5), none, .mov (T 30)⟩]) .skip)))) (.ops [⟨(some 15), none, .mov (T 6)⟩, ⟨(some 16), none, .int2 .add (T 15) (.const (.int .i64 (1)))⟩, ⟨(some 6), none, .mov (T 16)⟩])))))) (.seq (.ops [⟨(some 31), none, .mov (T 5)⟩, ⟨(some 4), none, .mov (T 31)⟩]) .ret))))
theorem fok55 : FnOk Try.prog 55 32 s55 [.tmp 4] := ⟨Try.f55, _, Try.func55, rfl, Try.ntmps55, by kernel_rfl, by kernel_rfl⟩
set_option maxHeartbeats 1000000 in
theorem leaveRef_c (hn : 3100 ≤ n) (hr : h.next + 4000 < far) (hfl : h.floor ≤ h.next) {wv vv sv va : Value} {S : MS} (hy : SteepR h wv vv sv S) (hG : Good S) (ha : Ints h va (manyS S).toNat (allAt S)) :
    ∃ v h', call n (.func (.func 55) #[] #[]) [.agg ⟨stL S wv vv sv⟩, va] h = some (v, h') ∧ Ints h' v (leaveS S).length (atL (leaveS S)) ∧ Sub All h h' ∧ h.next ≤ h'.next ∧ h'.next ≤ h.next + 2000 ∧ h'.floor = h.floor := by
  obtain ⟨n, rfl⟩ : ∃ p, n = p + 1 := ⟨n - 1, by omega⟩
  obtain ⟨_, _, zw, z6, z4, z3, _⟩ := hG.sizes
  have hs5 : (2 ^ S.ns : Nat) ≤ 2 ^ 5 := Nat.pow_le_pow_right (by omega) z3
  have hp0 : 0 < (2 ^ S.ns : Nat) := Nat.pow_pos (by omega)
  obtain ⟨Fu, hFu⟩ : ∃ F, F = 2 ^ S.ns - 1 := ⟨_, rfl⟩
  refine call_any0 fok55 rfl rfl (by simp) ?_
  simp only [s55, W_seq, W_ops]
  refine ops_box (cs := stL S wv vv sv) (by omega) rfl hy.one fun g1 hx1 => ?_
  have n1 := hx1.next
  have f1 := hx1.floor
  have hy1 := hy.mono hx1.sub
  have x1 := hx1.row.whole (n := 7) rfl
  have ef1 := full_c (n := n) (h := g1) (by omega) (by omega) hy1 (by omega)
  rw [← hFu] at ef1
  obtain ⟨v0, g2, eb0, hv0, ho0, n2, u2, f2⟩ := bits_c (n := n) (h := g1) (b := Fu) (B := S.ns) (by omega) (by omega) (by omega) (by omega) (by omega)
  have r2 : Sub All h g2 := hx1.sub.trans (AHeap.subOf ho0)
  simp only [rn0, rn1, rn2, rn3, rn4, rn5, rn6, rn7, rn8, if_true, if_false, Nat.le_refl, true_and, and_true, decide_true, decide_false, Bool.not_true, Bool.not_false, reduceIte, Nat.reduceEqDiff, Nat.reduceAdd, Nat.reduceMul, Nat.reduceSub, Nat.reduceLeDiff, Nat.reduceLT, x1, ef1, eb0]
  refine W_loop (2 ^ S.ns) (fun k f g ms => (∃ v l, BestK S k l ∧ Ints g v l.length (atL l) ∧ f 5 = v ∧ Sub All g1 g ∧ g.floor = h.floor ∧ h.next < g.next ∧ g.next ≤ h.next + 51 + 50 * k) ∧ ms = [] ∧ f 1 = va ∧ f 2 = .pointer (some ⟨h.next, 0, none⟩) ∧ f 6 = .int .i64 (k : Int)) (by simp; omega) ?_ ?_ ?_
  · have hb0 : BestK S 0 (pickL (Bit Fu) S.ns) := ⟨⟨Fu, by omega, by
      obtain ⟨t, ht⟩ := List.exists_mem_of_ne_nil _ (allE_ne hG)
      refine (can_off z3).2 ⟨t, ht, fun x hx _ => ?_⟩
      rw [bit_test, hFu, Nat.testBit_two_pow_sub_one]
      simp [hx], rfl⟩, fun b hb => by omega⟩
    simp only [rn0, rn1, rn2, rn3, rn4, rn5, rn6, rn7, rn8, if_true, if_false, Nat.le_refl, true_and, and_true, decide_true, decide_false, Bool.not_true, Bool.not_false, reduceIte, Nat.reduceEqDiff, Nat.reduceAdd, Nat.reduceMul, Nat.reduceSub, Nat.reduceLeDiff, Nat.reduceLT]
    first | exact ⟨⟨_, _, hb0, hv0, rfl, AHeap.subOf ho0, by omega, by omega, by omega⟩, rfl⟩ | exact ⟨_, _, hb0, hv0, rfl, AHeap.subOf ho0, by omega, by omega, by omega⟩
  · rintro k f g ms hk ⟨⟨v, l, hbest, hv, p5, sg, fg, ug, ng⟩, rfl, p1, p2, p6⟩
    have hk' : (k : Int) ≤ (Fu : Int) := by omega
    have hw : wrapF .i64 ((k : Int) + 1) = ((k + 1 : Nat) : Int) := by rw [wrap_in (by omega) (by omega)]; rfl
    have hyg := hy1.mono sg
    have xg := (hx1.row.mono sg).whole (n := 7) rfl
    have efg := full_c (n := n) (h := g) (by omega) (by omega) hyg (by omega)
    rw [← hFu] at efg
    obtain ⟨bs, g3, eb3, hb3, ho3, n3, u3, f3⟩ := bits_c (n := n) (h := g) (b := k) (B := S.ns) (by omega) (by omega) (by omega) hk (by omega)
    have s3 : Sub All g g3 := AHeap.subOf ho3
    have hv3 := Cells.mono hv s3
    have hy3 := hyg.mono s3
    have x3 := ((hx1.row.mono sg).mono s3).whole (n := 7) rfl
    have ef3 := full_c (n := n) (h := g3) (by omega) (by omega) hy3 (by omega)
    rw [← hFu] at ef3
    have hpl := pick_len (p := Bit k) S.ns
    have hll : l.length ≤ 5 := by
      obtain ⟨⟨b, _, _, e⟩, _⟩ := hbest
      rw [e]; have := pick_len (p := Bit b) S.ns; omega
    have esh := shorter_c (n := n) (h := g3) (by omega) (by omega) (by omega) hb3 hv3
    have hoff := offN_le (a := Fu) (b := k) (by omega)
    have ec := canRef_c (n := n) (h := g3) (s := offN Fu k) (by omega) hG (Cells.mono ha ((hx1.sub.trans sg).trans s3)) (by omega)
    by_cases c1 : Shortlex (atL (pickL (Bit k) S.ns)) (pickL (Bit k) S.ns).length (atL l) l.length
    · rw [decide_eq_true c1] at esh
      by_cases c2 : CanB S (offN Fu k)
      · rw [decide_eq_true c2] at ec
        simp only [rn0, rn1, rn2, rn3, rn4, rn5, rn6, rn7, rn8, if_true, if_false, Nat.le_refl, true_and, and_true, decide_true, decide_false, Bool.not_true, Bool.not_false, reduceIte, Nat.reduceEqDiff, Nat.reduceAdd, Nat.reduceMul, Nat.reduceSub, Nat.reduceLeDiff, Nat.reduceLT, p1, p2, p5, p6, xg, efg, hk', eb3, esh, x3, ef3, p_andNot, r_andNot (a := Fu) (b := k) (by omega), valN_tmp, Nat.reduceLT, ec, hw]
        refine ⟨_, _, ⟨⟨k, hk, by rw [← hFu]; exact c2, rfl⟩, fun b hb hc => ?_⟩, hb3, rfl, sg.trans s3, by omega, by omega, by omega⟩
        by_cases e : b = k
        · subst e; exact sl_irr
        · exact fun hs => hbest.2 b (by omega) hc (sl_trans hs c1)
      · rw [decide_eq_false c2] at ec
        simp only [rn0, rn1, rn2, rn3, rn4, rn5, rn6, rn7, rn8, if_true, if_false, Nat.le_refl, true_and, and_true, decide_true, decide_false, Bool.not_true, Bool.not_false, reduceIte, Nat.reduceEqDiff, Nat.reduceAdd, Nat.reduceMul, Nat.reduceSub, Nat.reduceLeDiff, Nat.reduceLT, p1, p2, p5, p6, xg, efg, hk', eb3, esh, x3, ef3, p_andNot, r_andNot (a := Fu) (b := k) (by omega), valN_tmp, Nat.reduceLT, ec, hw]
        refine ⟨_, _, ⟨hbest.1, fun b hb hc => ?_⟩, hv3, rfl, sg.trans s3, by omega, by omega, by omega⟩
        by_cases e : b = k
        · subst e; rw [← hFu] at hc; exact absurd hc c2
        · exact hbest.2 b (by omega) hc
    · rw [decide_eq_false c1] at esh
      simp only [rn0, rn1, rn2, rn3, rn4, rn5, rn6, rn7, rn8, if_true, if_false, Nat.le_refl, true_and, and_true, decide_true, decide_false, Bool.not_true, Bool.not_false, reduceIte, Nat.reduceEqDiff, Nat.reduceAdd, Nat.reduceMul, Nat.reduceSub, Nat.reduceLeDiff, Nat.reduceLT, p1, p2, p5, p6, xg, efg, hk', eb3, esh, x3, ef3, hw]
      refine ⟨_, _, ⟨hbest.1, fun b hb hc => ?_⟩, hv3, rfl, sg.trans s3, by omega, by omega, by omega⟩
      by_cases e : b = k
      · subst e; exact c1
      · exact hbest.2 b (by omega) hc
  · rintro f g ms ⟨⟨v, l, hbest, hv, p5, sg, fg, ug, ng⟩, rfl, p1, p2, p6⟩
    have hyg := hy1.mono sg
    have xg := (hx1.row.mono sg).whole (n := 7) rfl
    have efg := full_c (n := n) (h := g) (by omega) (by omega) hyg (by omega)
    rw [← hFu] at efg
    have hk' : ¬ ((2 ^ S.ns : Nat) : Int) ≤ (Fu : Int) := by omega
    have hl := best_all hG hbest
    subst hl
    simp only [rn0, rn1, rn2, rn3, rn4, rn5, rn6, rn7, rn8, if_true, if_false, Nat.le_refl, true_and, and_true, decide_true, decide_false, Bool.not_true, Bool.not_false, reduceIte, Nat.reduceEqDiff, Nat.reduceAdd, Nat.reduceMul, Nat.reduceSub, Nat.reduceLeDiff, Nat.reduceLT, p1, p2, p5, p6, xg, efg, hk']
    exact ⟨hv, hx1.sub.trans sg, by omega, by omega, by omega⟩
def s9 : SCode := (.seq (.ops [⟨(some 1), none, .box (T 0)⟩, ⟨(some 2), none, .mov (.const (.bool false))⟩]) (.seq (.seq (.ops [⟨(some 10), none, .loadN 7 (T 1)⟩, ⟨(some 11), none, .call (.func 23) [(T 10)]⟩, ⟨(some 12), none, .not (T 11)⟩]) (.cond (T 12) (.seq (.ops [⟨(some 13), none, .call (.func 24) []⟩, ⟨(some 2), none, .mov (T 13)⟩]) .ret) .skip)) (.seq (.ops [⟨(some 15), none, .loadN 7 (T 1)⟩, ⟨(some 16), none, .call (.func 26) [(T 15)]⟩, ⟨(some 17), none, .call (.func 51) [(T 16)]⟩, ⟨(some 14), none, .mov (T 17)⟩, ⟨(some 18), none, .extract 0 (T 14)⟩, ⟨(some 19), none, .extract 1 (T 14)⟩, ⟨(some 3), none, .mov (T 18)⟩, ⟨(some 4), none, .mov (T 19)⟩]) (.seq (.ops [⟨(some 21), none, .loadN 7 (T 1)⟩, ⟨(some 22), none, .call (.func 26) [(T 21)]⟩, ⟨(some 23), none, .call (.func 52) [(T 22)]⟩, ⟨(some 20), none, .mov (T 23)⟩, ⟨(some 24), none, .extract 0 (T 20)⟩, ⟨(some 25), none, .extract 1 (T 20)⟩, ⟨(some 5), none, .mov (T 24)⟩, ⟨(some 6), none, .mov (T 25)⟩]) (.seq (.seq (.ops [⟨(some 26), none, .loadN 7 (T 1)⟩, ⟨(some 27), none, .call (.func 29) [(T 26)]⟩, ⟨(some 7), none, .mov (T 27)⟩]) (.seq (.ops [⟨(some 28), none, .mov (T 7)⟩, ⟨(some 29), none, .int2 .neq (T 28) (.const (.int .i64 (0)))⟩]) (.cond (T 29) (.seq (.ops [⟨(some 30), none, .mov (T 4)⟩, ⟨(some 31), none, .mov (T 7)⟩, ⟨(some 32), none, .int2 .eql (T 30) (T 31)⟩, ⟨(some 33), none, .mov (T 32)⟩, ⟨(some 34), (some (33, true)), .mov (T 6)⟩, ⟨(some 35), (some (33, true)), .mov (T 7)⟩, ⟨(some 36), (some (33, true)), .int2 .eql (T 34) (T 35)⟩, ⟨(some 37), none, .pick (T 33) (T 36) (.const (.bool false))⟩, ⟨(some 38), none, .mov (T 37)⟩, ⟨(some 39), (some (38, true)), .mov (T 3)⟩, ⟨(some 40), (some (38, true)), .int2 .eql (T 39) (.const (.int .i64 (0)))⟩, ⟨(some 41), none, .pick (T 38) (T 40) (.const (.bool false))⟩, ⟨(some 42), none, .mov (T 41)⟩, ⟨(some 43), (some (42, true)), .mov (T 5)⟩, ⟨(some 44), (some (42, true)), .len (T 43)⟩, ⟨(some 45), (some (42, true)), .int2 .eql (T 44) (.const (.int .i64 (0)))⟩, ⟨(some 46), none, .pick (T 42) (T 45) (.const (.bool false))⟩, ⟨(some 47), none, .mov (T 46)⟩, ⟨(some 48), (some (47, true)), .call (.func 24) []⟩, ⟨(some 49), none, .pick (T 47) (T 48) (.const (.bool false))⟩, ⟨(some 2), none, .mov (T 49)⟩]) .ret) .skip))) (.seq (.ops [⟨(some 50), none, .loadN 7 (T 1)⟩, ⟨(some 51), none, .call (.func 53) [(T 50)]⟩, ⟨(some 8), none, .mov (T 51)⟩]) (.seq (.seq (.ops [⟨(some 52), none, .mov (T 6)⟩, ⟨(some 53), none, .int2 .neq (T 52) (.const (.int .i64 (0)))⟩, ⟨(some 54), none, .mov (T 53)⟩, ⟨(some 55), (some (54, false)), .mov (T 5)⟩, ⟨(some 56), (some (54, false)), .loadN 7 (T 1)⟩, ⟨(some 57), (some (54, false)), .mov (T 8)⟩, ⟨(some 58), (some (54, false)), .call (.func 55) [(T 56), (T 57)]⟩, ⟨(some 59), (some (54, false)), .call (.func 54) [(T 55), (T 58)]⟩, ⟨(some 60), (some (54, false)), .not (T 59)⟩, ⟨(some 61), none, .pick (T 54) (.const (.bool true)) (T 60)⟩]) (.cond (T 61) (.seq (.ops [⟨(some 2), none, .mov (.const (.bool false))⟩]) .ret) .skip)) (.seq (.seq (.ops [⟨(some 62), none, .loadN 7 (T 1)⟩, ⟨(some 63), none, .mov (T 8)⟩, ⟨(some 64), none, .call (.func 56) [(T 62), (T 63)]⟩, ⟨(some 9), none, .mov (T 64)⟩]) (.seq (.ops [⟨(some 65), none, .mov (T 9)⟩, ⟨(some 66), none, .int2 .geq (T 65) (.const (.int .i64 (0)))⟩]) (.cond (T 66) (.seq (.ops [⟨(some 67), none, .mov (T 4)⟩, ⟨(some 68), none, .int2 .eql (T 67) (.const (.int .i64 (0)))⟩, ⟨(some 69), none, .mov (T 68)⟩, ⟨(some 70), (some (69, true)), .mov (T 3)⟩, ⟨(some 71), (some (69, true)), .mov (T 9)⟩, ⟨(some 72), (some (69, true)), .int2 .eql (T 70) (T 71)⟩, ⟨(some 73), none, .pick (T 69) (T 72) (.const (.bool false))⟩, ⟨(some 74), none, .mov (T 73)⟩, ⟨(some 75), (some (74, true)), .call (.func 24) []⟩, ⟨(some 76), none, .pick (T 74) (T 75) (.const (.bool false))⟩, ⟨(some 2), none, .mov (T 76)⟩]) .ret) .skip))) (.seq (.ops [⟨(some 77), none, .mov (T 4)⟩, ⟨(some 78), none, .int2 .eql (T 77) (.const (.int .i64 (7)))⟩, ⟨(some 79), none, .mov (T 78)⟩, ⟨(some 80), (some (79, true)), .mov (T 3)⟩, ⟨(some 81), (some (79, true)), .int2 .eql (T 80) (.const (.int .i64 (0)))⟩, ⟨(some 82), none, .pick (T 79) (T 81) (.const (.bool false))⟩, ⟨(some 83), none, .mov (T 82)⟩, ⟨(some 84), (some (83, true)), .call (.func 24) []⟩, ⟨(some 85), none, .pick (T 83) (T 84) (.const (.bool false))⟩, ⟨(some 2), none, .mov (T 85)⟩]) .ret)))))))))
theorem fok9 : FnOk Try.prog 9 86 s9 [.tmp 2] := ⟨Try.f9, _, Try.func9, rfl, Try.ntmps9, by kernel_rfl, by kernel_rfl⟩
set_option maxHeartbeats 2000000 in
theorem leavesL_c (hn : 3300 ≤ n) (hr : h.next + 6000000 < far) (hfl : h.floor ≤ h.next) {wv vv sv : Value} {S : MS} (hy : SteepR h wv vv sv S) :
    ∃ v h', call n (.func (.func 9) #[] #[]) [.agg ⟨stL S wv vv sv⟩] h = some (v, h') ∧ v = .bool true := by
  obtain ⟨n, rfl⟩ : ∃ p, n = p + 1 := ⟨n - 1, by omega⟩
  refine call_any0 fok9 rfl rfl (by simp) ?_
  simp only [s9, W_seq, W_ops]
  refine ops_box (cs := stL S wv vv sv) (by omega) rfl hy.one fun g1 hx1 => ?_
  have n1 := hx1.next
  have f1 := hx1.floor
  have hy1 := hy.mono hx1.sub
  have r1 := hx1.row
  have et := thin_c (n := n) (h := g1) (by omega) (by omega) hy1
  by_cases hth : ThinS S
  case neg =>
    simp only [rn0, rn1, rn2, rn3, rn4, rn5, rn6, rn7, rn8, if_true, if_false, Nat.le_refl, true_and, and_true, decide_true, decide_false, Bool.not_true, Bool.not_false, reduceIte, Nat.reduceEqDiff, Nat.reduceAdd, Nat.reduceMul, Nat.reduceSub, Nat.reduceLeDiff, Nat.reduceLT, r1.whole (n := 7) rfl, et, hth, awake_c (n := n) (h := g1) (by omega)]
  obtain ⟨wv2, vv2, sv2, g2, e2, hy2, o2, u2, m2, f2⟩ := steepL_c (n := n) (h := g1) (by omega) (by omega) (by omega) hy1 hth
  have sub2 : Sub All g1 g2 := AHeap.subOf o2
  have ef := firstP_c (n := n) (h := g2) (by omega) (by omega) hy2 hth
  have r2 := r1.mono sub2
  obtain ⟨wv3, vv3, sv3, g3, e3, hy3, o3, u3, m3, f3⟩ := steepL_c (n := n) (h := g2) (by omega) (by omega) (by omega) (hy1.mono sub2) hth
  have sub3 : Sub All g2 g3 := AHeap.subOf o3
  obtain ⟨lv, g4, el, o4, u4, m4, f4, hL⟩ := leaveP_c (n := n) (h := g3) (by omega) (by omega) (by omega) hy3 hth
  have sub4 : Sub All g3 g4 := AHeap.subOf o4
  have s14 : Sub All g1 g4 := sub2.trans (sub3.trans sub4)
  have hy4 := hy1.mono s14
  have r4 := r1.mono s14
  have efl := faultL_c (n := n) (h := g4) (by omega) (by omega) hy4 hth
  by_cases hf : faultS S = 0
  case neg =>
    have haw := awake_c (n := n) (h := g4) (by omega)
    have q1 : firstV S = 0 := if_neg hf
    have q2 : firstE S = faultS S := if_neg hf
    rw [q1, q2] at ef
    rcases hL with ⟨_, rfl⟩ | ⟨h0, _⟩
    · simp only [rn0, rn1, rn2, rn3, rn4, rn5, rn6, rn7, rn8, if_true, if_false, Nat.le_refl, true_and, and_true, decide_true, decide_false, Bool.not_true, Bool.not_false, reduceIte, Nat.reduceEqDiff, Nat.reduceAdd, Nat.reduceMul, Nat.reduceSub, Nat.reduceLeDiff, Nat.reduceLT, r1.whole (n := 7) rfl, et, hth, e2, ef, ex0, ex1, r2.whole (n := 7) rfl, e3, el, r4.whole (n := 7) rfl, efl, hf, len_slice, Int.natCast_zero, haw]
    · exact absurd h0 hf
  rcases hL with ⟨h0, _⟩ | ⟨_, l, rfl, hl, ol⟩
  · exact absurd hf h0
  have hG := good_of hf
  have hll := leaveS_len hG
  obtain ⟨_, _, _, _, _, z5, _⟩ := hG.sizes
  obtain ⟨va, g5, ea, ha, o5, u5, m5, f5⟩ := all_c (n := n) (h := g4) (by omega) (by omega) (by omega) hy4 hG
  have sub5 : Sub All g4 g5 := AHeap.subOf o5
  have hy5 := hy4.mono sub5
  have r5 := r4.mono sub5
  obtain ⟨vb, g6, eb, hb, sub6, u6, m6, f6⟩ := leaveRef_c (n := n) (h := g5) (by omega) (by omega) (by omega) hy5 hG ha
  have hy6 := hy5.mono sub6
  have r6 := r5.mono sub6
  have es := intsL_c (n := n) (h := g6) (by omega) (by omega) (Cells.mono (Cells.mono hl sub5) sub6) hb
  have hs : ((leaveS S).length = (leaveS S).length ∧ ∀ k, k < (leaveS S).length → atL (leaveS S) k = atL (leaveS S) k) := ⟨rfl, fun _ _ => rfl⟩
  rw [decide_eq_true hs] at es
  have er := firstRef_c (n := n) (h := g6) (by omega) (by omega) hy6 hG (Cells.mono ha sub6)
  have haw := awake_c (n := n) (h := g6) (by omega)
  have q1 : firstV S = optI (firstF S) 0 := if_pos hf
  have q2 : firstE S = if firstF S = none then 7 else 0 := if_pos hf
  rw [q1, q2] at ef
  cases hN : firstF S with
  | none =>
    rw [hN] at ef er
    have hm : ¬ (0 : Int) ≤ optI none (-1) := by decide
    have hm1 : optI none 0 = 0 := rfl
    simp only [rn0, rn1, rn2, rn3, rn4, rn5, rn6, rn7, rn8, if_true, if_false, Nat.le_refl, true_and, and_true, decide_true, decide_false, Bool.not_true, Bool.not_false, reduceIte, Nat.reduceEqDiff, Nat.reduceAdd, Nat.reduceMul, Nat.reduceSub, Nat.reduceLeDiff, Nat.reduceLT, r1.whole (n := 7) rfl, et, hth, e2, ef, ex0, ex1, r2.whole (n := 7) rfl, e3, el, r4.whole (n := 7) rfl, efl, hf, ea, r5.whole (n := 7) rfl, eb, es, r6.whole (n := 7) rfl, er, hm, hm1, haw]
  | some v =>
    rw [hN] at ef er
    have hm : (0 : Int) ≤ (v : Int) := by omega
    have hm1 : ∀ d, optI (some v) d = (v : Int) := fun _ => rfl
    have hs : ¬ (some v = none) := by simp
    simp only [rn0, rn1, rn2, rn3, rn4, rn5, rn6, rn7, rn8, if_true, if_false, Nat.le_refl, true_and, and_true, decide_true, decide_false, Bool.not_true, Bool.not_false, reduceIte, Nat.reduceEqDiff, Nat.reduceAdd, Nat.reduceMul, Nat.reduceSub, Nat.reduceLeDiff, Nat.reduceLT, r1.whole (n := 7) rfl, et, hth, e2, ef, ex0, ex1, r2.whole (n := 7) rfl, e3, el, r4.whole (n := 7) rfl, efl, hf, ea, r5.whole (n := 7) rfl, eb, es, r6.whole (n := 7) rfl, er, hm1, hm, hs, haw]
end Go.Vm.St
