/- Texts of the proofs of this seat, put together: StSmall2, StRef4, StLeaveP, StSome, StFirstL, StLeftL. -/
import Derived.Test.YtffgdpkogokdhaaPk15

namespace Go.Vm.St
open Go.Proofs Go.Vm.Vat
set_option linter.unusedSimpArgs false
set_option linter.unusedVariables false
set_option maxRecDepth 10000
variable {n : Nat} {h : AHeap}
/-! ### The smallest set -/
theorem dec_ex {p : Prop} {i : Decidable p} {F : Bool → Prop} (h : F (@decide p i)) : ∃ b : Bool, (b = true ↔ p) ∧ F b := ⟨_, @decide_eq_true_iff p i, h⟩
def CovS (S : MS) (l : List Int) : Prop := CovP (allE S) (wrS S) S.ns l
noncomputable def leaveS (S : MS) : List Int := (leaveN S.ns (CovS S) (S.ns + 1)).getD []
theorem allE_ne {S : MS} (hG : Good S) : allE S ≠ [] := by
  have h1 := enumB_pos (lo := uLo S) (hi := uHi S) (numU S) 0 (fun _ => 0) fun k _ hk => (hG.u k (by omega)).2.1
  intro e
  have : (allE S).length = 0 := by rw [e]; rfl
  unfold allE at this
  omega
theorem leaveS_is {S : MS} (hG : Good S) : leaveN S.ns (CovS S) (S.ns + 1) = some (leaveS S) := by
  obtain ⟨l, hl⟩ := leave_ex (E := allE S) (wr := wrS S) (N := S.ns) (allE_ne hG)
  have hl : leaveN S.ns (CovS S) (S.ns + 1) = some l := hl
  unfold leaveS
  rw [hl]
  rfl
theorem leaveS_min {S : MS} (hG : Good S) : (∃ t, t ∈ allE S ∧ leaveS S = wrongL S t) ∧ ∀ t, t ∈ allE S → ¬ SL (wrongL S t) (leaveS S) := leave_min (leaveS_is hG)
theorem leaveS_len {S : MS} (hG : Good S) : (leaveS S).length ≤ S.ns := by
  obtain ⟨⟨t, _, e⟩, _⟩ := leaveS_min hG
  rw [e]
  exact wrong_len
/-- the list that covers what is wrong in the j-th -/
def CovJ (S : MS) (l : List Int) (j : Nat) : Prop := ∀ i, i < ((allW S).getD j []).length → ∃ i', i' < l.length ∧ atL ((allW S).getD j []) i = atL l i'
theorem mem_at {l : List Int} {x : Int} : x ∈ l ↔ ∃ i, i < l.length ∧ x = atL l i := by
  constructor
  · intro hx
    obtain ⟨i, hi, e⟩ := List.getElem_of_mem hx
    exact ⟨i, hi, by rw [← e]; unfold atL; rw [List.getD_eq_getElem?_getD, List.getElem?_eq_getElem hi]; rfl⟩
  · rintro ⟨i, hi, rfl⟩
    unfold atL
    rw [List.getD_eq_getElem?_getD, List.getElem?_eq_getElem hi]
    exact List.getElem_mem hi
theorem cov_iff {S : MS} {l : List Int} : CovS S l ↔ ∃ j, j < (allW S).length ∧ CovJ S l j := by
  have hget : ∀ j, j < (allW S).length → ∃ t, t ∈ allE S ∧ (allW S).getD j [] = wrongL S t := fun j hj => by
    have hm : (allW S).getD j [] ∈ allW S := by
      rw [List.getD_eq_getElem?_getD, List.getElem?_eq_getElem hj]
      exact List.getElem_mem hj
    obtain ⟨t, ht, e⟩ := List.mem_map.1 hm
    exact ⟨t, ht, e.symm⟩
  constructor
  · rintro ⟨t, ht, hc⟩
    have hm : wrongL S t ∈ allW S := List.mem_map.2 ⟨t, ht, rfl⟩
    obtain ⟨j, hj, e⟩ := List.getElem_of_mem hm
    have e' : (allW S).getD j [] = wrongL S t := by rw [List.getD_eq_getElem?_getD, List.getElem?_eq_getElem hj]; exact e
    refine ⟨j, hj, fun i hi => ?_⟩
    rw [e'] at hi ⊢
    obtain ⟨x, x1, x2, x3⟩ := pick_at (p := wrS S t) (k := S.ns) hi
    have hx : (x : Int) ∈ l := hc x x1 x3
    obtain ⟨i', i1, i2⟩ := mem_at.1 hx
    exact ⟨i', i1, x2.trans i2⟩
  · rintro ⟨j, hj, hc⟩
    obtain ⟨t, ht, e⟩ := hget j hj
    refine ⟨t, ht, fun x hx hw => ?_⟩
    obtain ⟨i, i1, i2⟩ := pick_has (p := wrS S t) hx hw
    obtain ⟨i', k1, k2⟩ := hc i (by rw [e]; exact i1)
    rw [e] at k2
    rw [← i2]
    exact mem_at.2 ⟨i', k1, k2⟩
theorem bnd_le : ∀ M, M ≤ 5 → bndS 10 M ≤ 60000 := by
  intro M hM
  have : M = 0 ∨ M = 1 ∨ M = 2 ∨ M = 3 ∨ M = 4 ∨ M = 5 := by omega
  rcases this with rfl | rfl | rfl | rfl | rfl | rfl <;> simp [bndS]
noncomputable def s97 : SCode := (.seq (.ops [⟨(some 1), none, .box (T 0)⟩, ⟨(some 2), none, .mov (.const (.slice none 0 0))⟩]) (.seq (.ops [⟨(some 10), none, .loadN 8 (T 1)⟩, ⟨(some 11), none, .call (.func 96) [(T 10)]⟩, ⟨(some 3), none, .alloc [(.slice none 0 0)]⟩, ⟨none, none, .store 1 (T 3) (T 11)⟩]) (.seq (.ops [⟨(some 4), none, .alloc [(.slice none 0 0)]⟩]) (.seq .skip (.seq (.seq (.ops [⟨(some 12), none, .fieldAddr 0 (T 1)⟩, ⟨(some 13), none, .fieldAddr 6 (T 12)⟩, ⟨(some 14), none, .load1 (T 13)⟩, ⟨(some 15), none, .len (T 14)⟩, ⟨(some 16), none, .int2 .add (T 15) (.const (.int .i64 (1)))⟩, ⟨(some 17), none, .mov (.const (.int .i64 (0)))⟩]) (.block 0 (.loop (.seq (.ops [⟨(some 18), none, .int2 .lss (T 17) (T 16)⟩]) (.seq (.cond (T 18) .skip (.exit 0)) (.seq (.block 1 (.seq (.ops [⟨(some 19), none, .mov (T 17)⟩, ⟨(some 5), none, .mov (T 19)⟩]) (.seq (.ops [⟨(some 20), none, .fieldAddr 0 (T 1)⟩, ⟨(some 21), none, .fieldAddr 6 (T 20)⟩, ⟨(some 22), none, .load1 (T 21)⟩, ⟨(some 23), none, .len (T 22)⟩, ⟨(some 24), none, .mov (T 5)⟩, ⟨(some 25), none, .call (.func 124) [(T 23), (T 24)]⟩]) (.block 2 (.range (T 25) #[26] (rangeOf Try.f97 0).1 (rangeOf Try.f97 0).2))))) (.ops [⟨(some 39), none, .int2 .add (T 17) (.const (.int .i64 (1)))⟩, ⟨(some 17), none, .mov (T 39)⟩]))))))) (.seq (.ops [⟨(some 40), none, .load1 (T 4)⟩, ⟨(some 2), none, .mov (T 40)⟩]) .ret))))))
theorem fok97 : FnOk Try.prog 97 41 s97 [.tmp 2] := ⟨Try.f97, _, Try.func97, rfl, Try.ntmps97, by kernel_rfl, by kernel_rfl⟩
def ra97_0 : SCode := (.ops [⟨(some 6), none, .alloc [(.slice none 0 0)]⟩, ⟨none, none, .store 1 (T 6) (T 26)⟩])
theorem raok97_0 : compCode Try.prog 41 (rangeOf Try.f97 0).1 = some ra97_0 := by kernel_rfl
def rb97_0 : SCode := (.block 3 (.seq (.ops [⟨(some 27), none, .mkfunc 125 [] [(T 6)]⟩, ⟨(some 7), none, .mov (T 27)⟩]) (.seq (.ops [⟨(some 28), none, .load1 (T 3)⟩, ⟨(some 29), none, .len (T 28)⟩, ⟨(some 30), none, .mov (.const (.int .i64 (0)))⟩]) (.block 4 (.loop (.seq (.ops [⟨(some 31), none, .int2 .lss (T 30) (T 29)⟩]) (.seq (.cond (T 31) .skip (.exit 4)) (.seq (.block 5 (.seq (.ops [⟨(some 32), none, .idxSl 1 (T 28) (T 30)⟩, ⟨(some 33), none, .load1 (T 32)⟩, ⟨(some 9), none, .mov (T 33)⟩]) (.seq (.ops [⟨(some 34), none, .mov (T 9)⟩, ⟨(some 35), none, .mov (T 7)⟩, ⟨(some 36), none, .call (.func 120) [(T 34), (T 35)]⟩]) (.cond (T 36) (.seq (.ops [⟨(some 37), none, .load1 (T 6)⟩, ⟨none, none, .store 1 (T 4) (T 37)⟩]) (.exit 0)) .skip)))) (.ops [⟨(some 38), none, .int2 .add (T 30) (.const (.int .i64 (1)))⟩, ⟨(some 30), none, .mov (T 38)⟩])))))))))
theorem rbok97_0 : compCode Try.prog 41 (rangeOf Try.f97 0).2 = some rb97_0 := by kernel_rfl
open Classical in
set_option maxHeartbeats 4000000 in
theorem smallest_c (hn : 2600 ≤ n) (hr : h.next + 1200000 < far) (hfl : h.floor ≤ h.next) {wv vv sv : Value} {S : MS} (hy : SteepR h wv vv sv S) (hG : Good S) :
    ∃ v h', call n (.func (.func 97) #[] #[]) [.agg ⟨wkL S wv vv sv nilS⟩] h = some (v, h') ∧ Ints h' v (leaveS S).length (atL (leaveS S)) ∧ oneCell v = true ∧ (∀ i, i < h.next → h'.get i = h.get i) ∧ h.next ≤ h'.next ∧ h'.next ≤ h.next + 1000000 ∧ h'.floor = h.floor := by
  obtain ⟨n, rfl⟩ : ∃ p, n = p + 1 := ⟨n - 1, by omega⟩
  refine call_any0 fok97 rfl rfl (by simp) ?_
  obtain ⟨_, _, _, _, _, z5, _⟩ := hG.sizes
  have hlenW : (allW S).length ≤ 2000 := by unfold allW; rw [List.length_map]; exact enum_len hG
  have hns1 : wrapF .i64 ((S.ns : Int) + 1) = ((S.ns + 1 : Nat) : Int) := by rw [wrap_in (by omega) (by omega)]; rfl
  simp only [s97, W_seq, W_ops]
  refine ops_box (cs := wkL S wv vv sv nilS) (by omega) rfl (wk_one hy rfl) fun g1 hx1 => ?_
  have n1 := hx1.next
  have f1 := hx1.floor
  have hy1 := hy.mono hx1.sub
  obtain ⟨av, g2, e2, hall, oav, o2, u2, m2, f2⟩ := wrongAll_c (n := n) (h := g1) (by omega) (by omega) (by omega) hy1 hG
  simp only [rn0, rn1, rn2, rn3, rn4, rn5, rn6, rn7, rn8, if_true, if_false, Nat.le_refl, true_and, and_true, decide_true, decide_false, Bool.not_true, Bool.not_false, reduceIte, Nat.reduceEqDiff, Nat.reduceAdd, Nat.reduceMul, Nat.reduceSub, Nat.reduceLeDiff, Nat.reduceLT, hx1.row.whole (n := 8) rfl, e2]
  refine step_new (vs := [av]) (by omega) (by omega) rfl (by simp only [rn0, rn1, rn2, rn3, rn4, rn5, rn6, rn7, rn8, if_true, if_false, Nat.le_refl, true_and, and_true, decide_true, decide_false, Bool.not_true, Bool.not_false, reduceIte, Nat.reduceEqDiff, Nat.reduceAdd, Nat.reduceMul, Nat.reduceSub, Nat.reduceLeDiff, Nat.reduceLT]; exact cells1 oav) (by simp [allB, oav]) rfl rfl fun g3 hx3 => ?_
  have n3 := hx3.next
  have f3 := hx3.floor
  simp only [rn0, rn1, rn2, rn3, rn4, rn5, rn6, rn7, rn8, if_true, if_false, Nat.le_refl, true_and, and_true, decide_true, decide_false, Bool.not_true, Bool.not_false, reduceIte, Nat.reduceEqDiff, Nat.reduceAdd, Nat.reduceMul, Nat.reduceSub, Nat.reduceLeDiff, Nat.reduceLT]
  refine step_row (cs := [nilS]) (by omega) rfl rfl fun g4 hx4 => ?_
  have n4 := hx4.next
  have f4 := hx4.floor
  have old4 : ∀ i, i < g1.next → g4.get i = g1.get i := fun i hi => by rw [hx4.old i (by omega), hx3.old i (by omega), o2 i hi]
  have sub4 : Sub All g1 g4 := AHeap.subOf old4
  have hy4 := hy1.mono sub4
  have r4 := hx1.row.mono sub4
  have ra4 := hx3.row.mono hx4.sub
  have hall4 : AllR g4 av (allW S) := hall.mono (hx3.sub.trans hx4.sub)
  have rp4 : g4.get g3.next = some (.row [nilS] true 0) := hx4.get
  obtain ⟨C, hC⟩ : ∃ C, C = 60020 := ⟨_, rfl⟩
  have hC6 : 6 * C ≤ 400000 := by omega
  simp only [rn0, rn1, rn2, rn3, rn4, rn5, rn6, rn7, rn8, if_true, if_false, Nat.le_refl, true_and, and_true, decide_true, decide_false, Bool.not_true, Bool.not_false, reduceIte, Nat.reduceEqDiff, Nat.reduceAdd, Nat.reduceMul, Nat.reduceSub, Nat.reduceLeDiff, Nat.reduceLT, r4.ld, wkg, Nat.zero_add, Nat.add_zero, Cells.len hy4.s, hns1]
  refine W_loop (S.ns + 1) (fun k f g ms => ((∀ i, i < g4.next → g.get i = g4.get i) ∧ g4.next ≤ g.next ∧ g.next ≤ g4.next + k * C ∧ g.floor = g4.floor ∧ MarksR g4.next ms g ∧ leaveN S.ns (CovS S) k = none) ∧ f 1 = .pointer (some ⟨h.next, 0, none⟩) ∧ f 3 = .pointer (some ⟨g2.next, 0, none⟩) ∧ f 4 = .pointer (some ⟨g3.next, 0, none⟩) ∧ f 16 = .int .i64 ((S.ns + 1 : Nat) : Int) ∧ f 17 = .int .i64 (k : Int)) (by simp; omega) ?_ ?_ ?_
  · simp only [rn0, rn1, rn2, rn3, rn4, rn5, rn6, rn7, rn8, if_true, if_false, Nat.le_refl, true_and, and_true, decide_true, decide_false, Bool.not_true, Bool.not_false, reduceIte, Nat.reduceEqDiff, Nat.reduceAdd, Nat.reduceMul, Nat.reduceSub, Nat.reduceLeDiff, Nat.reduceLT, Nat.zero_mul, Nat.add_zero]
    have hm0 : MarksR g4.next [] g4 := ⟨List.nodup_nil, fun d hd => by cases hd⟩
    first | exact ⟨⟨fun _ _ => trivial, hm0, rfl⟩, rfl⟩ | exact ⟨fun _ _ => trivial, hm0, rfl⟩ | exact ⟨⟨fun _ _ => trivial, hm0, rfl⟩, rfl, rfl⟩ | trace_state
  · rintro k f g ms hk ⟨⟨hold, hup, hnx, hfg, hmk, hno⟩, p1, p3, p4, p16, p17⟩
    have hk' : (k : Int) < ((S.ns + 1 : Nat) : Int) := by omega
    have hw : wrapF .i64 ((k : Int) + 1) = ((k + 1 : Nat) : Int) := by rw [wrap_in (by omega) (by omega)]; rfl
    have hkC : k * C + C ≤ 400000 := by
      rw [← Nat.succ_mul]
      exact Nat.le_trans (Nat.mul_le_mul_right _ (by omega)) hC6
    have hk1 : (k + 1) * C = k * C + C := Nat.succ_mul _ _
    generalize k * C = kC at hnx hkC hk1
    have sg : Sub All g4 g := AHeap.subOf hold
    have hyg := hy4.mono sg
    have rg := r4.mono sg
    obtain ⟨g5, e5, ra5, rb5, o5, n5, f5⟩ := allSets_c (n := n) (h := g) (by omega) (by omega) (S.ns : Int) (k : Int)
    simp only [rn0, rn1, rn2, rn3, rn4, rn5, rn6, rn7, rn8, if_true, if_false, Nat.le_refl, true_and, and_true, decide_true, decide_false, Bool.not_true, Bool.not_false, reduceIte, Nat.reduceEqDiff, Nat.reduceAdd, Nat.reduceMul, Nat.reduceSub, Nat.reduceLeDiff, Nat.reduceLT, p1, p3, p4, p16, p17, hk', rg.ld, wkg, Nat.zero_add, Nat.add_zero, Cells.len hyg.s, e5]
    refine W_range' rfl (by omega) (by simp only [rn0, rn1, rn2, rn3, rn4, rn5, rn6, rn7, rn8, if_true, if_false, Nat.le_refl, true_and, and_true, decide_true, decide_false, Bool.not_true, Bool.not_false, reduceIte, Nat.reduceEqDiff, Nat.reduceAdd, Nat.reduceMul, Nat.reduceSub, Nat.reduceLeDiff, Nat.reduceLT, p1, p3, p4, p16, p17]; rfl) fun f0 hf0 ts hv h2 hl => ?_
    have c1 : f0 1 = .pointer (some ⟨h.next, 0, none⟩) := by rw [hf0]; simp only [rn0, rn1, rn2, rn3, rn4, rn5, rn6, rn7, rn8, if_true, if_false, Nat.le_refl, true_and, and_true, decide_true, decide_false, Bool.not_true, Bool.not_false, reduceIte, Nat.reduceEqDiff, Nat.reduceAdd, Nat.reduceMul, Nat.reduceSub, Nat.reduceLeDiff, Nat.reduceLT, p1, p3, p4, p16, p17]
    have c3 : f0 3 = .pointer (some ⟨g2.next, 0, none⟩) := by rw [hf0]; simp only [rn0, rn1, rn2, rn3, rn4, rn5, rn6, rn7, rn8, if_true, if_false, Nat.le_refl, true_and, and_true, decide_true, decide_false, Bool.not_true, Bool.not_false, reduceIte, Nat.reduceEqDiff, Nat.reduceAdd, Nat.reduceMul, Nat.reduceSub, Nat.reduceLeDiff, Nat.reduceLT, p1, p3, p4, p16, p17]
    have c4 : f0 4 = .pointer (some ⟨g3.next, 0, none⟩) := by rw [hf0]; simp only [rn0, rn1, rn2, rn3, rn4, rn5, rn6, rn7, rn8, if_true, if_false, Nat.le_refl, true_and, and_true, decide_true, decide_false, Bool.not_true, Bool.not_false, reduceIte, Nat.reduceEqDiff, Nat.reduceAdd, Nat.reduceMul, Nat.reduceSub, Nat.reduceLeDiff, Nat.reduceLT, p1, p3, p4, p16, p17]
    have c16 : f0 16 = .int .i64 ((S.ns + 1 : Nat) : Int) := by rw [hf0]; simp only [rn0, rn1, rn2, rn3, rn4, rn5, rn6, rn7, rn8, if_true, if_false, Nat.le_refl, true_and, and_true, decide_true, decide_false, Bool.not_true, Bool.not_false, reduceIte, Nat.reduceEqDiff, Nat.reduceAdd, Nat.reduceMul, Nat.reduceSub, Nat.reduceLeDiff, Nat.reduceLT, p1, p3, p4, p16, p17]
    have c17 : f0 17 = .int .i64 (k : Int) := by rw [hf0]; simp only [rn0, rn1, rn2, rn3, rn4, rn5, rn6, rn7, rn8, if_true, if_false, Nat.le_refl, true_and, and_true, decide_true, decide_false, Bool.not_true, Bool.not_false, reduceIte, Nat.reduceEqDiff, Nat.reduceAdd, Nat.reduceMul, Nat.reduceSub, Nat.reduceLeDiff, Nat.reduceLT, p1, p3, p4, p16, p17]
    clear hf0
    have nl := hl.next
    have fl := hl.floor
    have oldh : ∀ i, i < g.next → h2.get i = g.get i := fun i hi => by rw [hl.old i (by omega), o5 i hi]
    have oldh4 : ∀ i, i < g4.next → h2.get i = g4.get i := fun i hi => by rw [oldh i (by omega), hold i hi]
    have hrm : Row h2 (g.next + 1) [.int .i64 (k : Int)] := rb5.mono hl.sub
    have hrn : Row h2 g.next [.int .i64 (S.ns : Int)] := ra5.mono hl.sub
    have hloop := hl.loop
    have hmark := hl.mark
    generalize hr0 : loopO _ ts _ _ _ _ = r at hloop ⊢
    have r1 : r.state = .ready := by rw [← hr0]; rfl
    have r2 : View 41 r.tmps f0 := by rw [← hr0]; exact hv
    have r3 : r.params = #[26] := by rw [← hr0]; rfl
    have r4' : compCode Try.prog 41 r.assign = some ra97_0 := by rw [← hr0]; exact raok97_0
    have r5 : compCode Try.prog 41 r.body = some rb97_0 := by rw [← hr0]; exact rbok97_0
    have r6 : leftBy r .norm = r := by rw [← hr0]; rfl
    clear hr0 hl hv
    have hb10 := bnd_le k (by omega)
    obtain ⟨rs, hrs⟩ : ∃ rs, rs = (combs S.ns k 0).find? (fun l => decide (CovS S l)) := ⟨_, rfl⟩
    have hlv : leaveN S.ns (CovS S) (k + 1) = rs := by
      rw [leaveN, hno, hrs]
    have hit := setsIter_c (P := CovS S) (N := S.ns) (M := k) (K := 10) (N0 := 2100) (pm := g.next + 1) (pn := g.next) (yv := .func (.yield (g5.next + 1)) #[] #[]) (g := h2) (n := n) (r := rs)
      (fun l g' => (∃ v', g'.get g3.next = some (.row [v'] true 0) ∧ Ints g' v' l.length (atL l) ∧ oneCell v' = true ∧ ∀ x q c, v' = .slice (some x) q c → h2.next ≤ x.block) ∧ (∀ i, i < h2.next → i ≠ g3.next → i ≠ g5.next + 1 → g'.get i = h2.get i) ∧ g'.get (g5.next + 1) = some (.loop (leftBy r (.exit 0)))) hrs
      z5 (by omega) hrm hrn rfl (by simp [eqV, eqCell]) (by omega) (by omega) (by omega)
      (fun m g1' l v hm hi ho hb hlen hbase hup1 hfg1 hr1 => by
        obtain ⟨m, rfl⟩ : ∃ p, m = p + 1 := ⟨m - 1, by omega⟩
        rw [call_yield]
        have hloop1 : g1'.get (g5.next + 1) = some (.loop r) := by rw [hbase _ (by omega)]; exact hloop
        have hll : l.length ≤ 40 := by omega
        suffices key : ∃ e g', roundA Try.prog (call m) m (g5.next + 1) [v] g1' = some (.bool (goesOn e), g') ∧ ((CovS S l → e = .exit 0 ∧ (∃ v', g'.get g3.next = some (.row [v'] true 0) ∧ Ints g' v' l.length (atL l) ∧ oneCell v' = true ∧ ∀ x q c, v' = .slice (some x) q c → h2.next ≤ x.block) ∧ (∀ i, i < h2.next → i ≠ g3.next → i ≠ g5.next + 1 → g'.get i = h2.get i) ∧ g'.get (g5.next + 1) = some (.loop (leftBy r (.exit 0)))) ∧ (¬ CovS S l → e = .norm ∧ ∀ i, i < g1'.next → g'.get i = g1'.get i) ∧ g'.floor = h2.floor ∧ g1'.next ≤ g'.next ∧ g'.next ≤ g1'.next + 10) by
          obtain ⟨e, g', k1, k2, k3, k4, k5, k6⟩ := key
          constructor
          · intro hc
            obtain ⟨rfl, q⟩ := k2 hc
            exact ⟨g', k1, q, k4, k5, k6⟩
          · intro hc
            obtain ⟨rfl, q⟩ := k3 hc
            exact ⟨g', k1, q, k4, k5, k6⟩
        refine round_run (f := f0) hloop1 r1 r2 (by rw [r3]; rfl) (by omega) r4' r5 ?_
        have hset : setFr f0 r.params.toList [v] = upd f0 26 v := by rw [r3]; rfl
        rw [hset]
        simp only [rn0, rn1, rn2, rn3, rn4, rn5, rn6, rn7, rn8, if_true, if_false, Nat.le_refl, true_and, and_true, decide_true, decide_false, Bool.not_true, Bool.not_false, reduceIte, Nat.reduceEqDiff, Nat.reduceAdd, Nat.reduceMul, Nat.reduceSub, Nat.reduceLeDiff, Nat.reduceLT, ra97_0]
        refine step_new (vs := [v]) (by omega) (by omega) rfl (by simp only [rn0, rn1, rn2, rn3, rn4, rn5, rn6, rn7, rn8, if_true, if_false, Nat.le_refl, true_and, and_true, decide_true, decide_false, Bool.not_true, Bool.not_false, reduceIte, Nat.reduceEqDiff, Nat.reduceAdd, Nat.reduceMul, Nat.reduceSub, Nat.reduceLeDiff, Nat.reduceLT]; exact cells1 ho) (by simp [allB, ho]) rfl rfl fun ga hxa => ?_
        have na := hxa.next
        have fa := hxa.floor
        simp only [rn0, rn1, rn2, rn3, rn4, rn5, rn6, rn7, rn8, if_true, if_false, Nat.le_refl, true_and, and_true, decide_true, decide_false, Bool.not_true, Bool.not_false, reduceIte, Nat.reduceEqDiff, Nat.reduceAdd, Nat.reduceMul, Nat.reduceSub, Nat.reduceLeDiff, Nat.reduceLT]
        refine ⟨by rw [hxa.old _ (by omega)]; exact hloop1, by omega, fun gb hpb => ?_⟩
        have nb := hpb.next
        have fb := hpb.floor
        have gbold : ∀ i, i < g1'.next → i ≠ g5.next + 1 → gb.get i = g1'.get i := fun i hi hne => by rw [hpb.old i hne, hxa.old i hi]
        have gb4 : ∀ i, i < g4.next → gb.get i = g4.get i := fun i hi => by rw [gbold i (by omega) (by omega), hbase i (by omega), oldh4 i hi]
        have sub4b : Sub All g4 gb := AHeap.subOf gb4
        have rab := ra4.mono sub4b
        have hallb := hall4.mono sub4b
        obtain ⟨R, hcR, hiR⟩ := hallb
        have rc : Row gb g1'.next [v] := by
          obtain ⟨w, gr, e⟩ := hxa.row
          exact ⟨w, gr, by rw [hpb.old _ (by omega)]; exact e⟩
        have hib : Ints gb v l.length (atL l) := cells_at hi fun a q c e hlt => gbold _ hlt (by have := (hb a q c e).1; omega)
        have lb : gb.get (g5.next + 1) = some (.loop { r with state := .busy }) := hpb.get
        have epb : gb.get g3.next = some (.row [nilS] true 0) := by rw [gb4 _ (by omega)]; exact rp4
        simp only [rn0, rn1, rn2, rn3, rn4, rn5, rn6, rn7, rn8, if_true, if_false, Nat.le_refl, true_and, and_true, decide_true, decide_false, Bool.not_true, Bool.not_false, reduceIte, Nat.reduceEqDiff, Nat.reduceAdd, Nat.reduceMul, Nat.reduceSub, Nat.reduceLeDiff, Nat.reduceLT, rb97_0, c1, c3, c4, rab.ld, Nat.zero_add, List.getElem?_cons_zero, Cells.len hcR]
        refine W_loop (allW S).length (fun j f g' ms => (g' = gb ∧ ∀ j', j' < j → ¬ CovJ S l j') ∧ ms = [] ∧ f 3 = .pointer (some ⟨g2.next, 0, none⟩) ∧ f 4 = .pointer (some ⟨g3.next, 0, none⟩) ∧ f 6 = .pointer (some ⟨g1'.next, 0, none⟩) ∧ f 7 = .func (.func 125) ⟨[]⟩ ⟨[.pointer (some ⟨g1'.next, 0, none⟩)]⟩ ∧ f 28 = av ∧ f 29 = .int .i64 ((allW S).length : Int) ∧ f 30 = .int .i64 (j : Int)) (by simp; omega) ?_ ?_ ?_
        · simp only [rn0, rn1, rn2, rn3, rn4, rn5, rn6, rn7, rn8, if_true, if_false, Nat.le_refl, true_and, and_true, decide_true, decide_false, Bool.not_true, Bool.not_false, reduceIte, Nat.reduceEqDiff, Nat.reduceAdd, Nat.reduceMul, Nat.reduceSub, Nat.reduceLeDiff, Nat.reduceLT, c1, c3, c4]
          first | exact ⟨⟨rfl, fun i hi => absurd hi (Nat.not_lt_zero _)⟩, rfl⟩ | exact ⟨fun i hi => absurd hi (Nat.not_lt_zero _), rfl⟩ | exact fun i hi => absurd hi (Nat.not_lt_zero _) | trace_state
        · rintro j f g' ms hj ⟨⟨rfl, hno'⟩, rfl, p3, p4, p6, p7, p28, p29, p30⟩
          have hj' : (j : Int) < ((allW S).length : Int) := by omega
          have hwj : wrapF .i64 ((j : Int) + 1) = ((j + 1 : Nat) : Int) := by rw [wrap_in (by omega) (by omega)]; rfl
          have hwl : ((allW S).getD j []).length ≤ 40 := by
            have hm : (allW S).getD j [] ∈ allW S := by
              rw [List.getD_eq_getElem?_getD, List.getElem?_eq_getElem hj]
              exact List.getElem_mem hj
            obtain ⟨t, _, e⟩ := List.mem_map.1 hm
            rw [← e]
            exact Nat.le_trans wrong_len (by omega)
          have eev := everyI_c (n := m) (h := g') (v := R j) (ok := .func (.func 125) ⟨[]⟩ ⟨[.pointer (some ⟨g1'.next, 0, none⟩)]⟩) (p := fun i => ∃ i', i' < l.length ∧ atL ((allW S).getD j []) i = atL l i') (by omega) (by omega) hwl (hiR j hj) fun g hs hg i hi => by
            have q := isLeft_c (n := m - 1) (h := g) (by omega) (by omega) (rc.mono hs) (Cells.mono hib hs) hll (atL ((allW S).getD j []) i)
            rw [q]
            have e : ∀ (i1 i2 : Decidable (∃ i', i' < l.length ∧ atL ((allW S).getD j []) i = atL l i')), @decide _ i1 = @decide _ i2 := fun i1 i2 => by rw [Subsingleton.elim i1 i2]
            exact congrArg (fun b => some (Value.bool b, g)) (e _ _)
          obtain ⟨bb, hbb, eev⟩ := dec_ex (F := fun b => call m (.func (.func 120) #[] #[]) [R j, .func (.func 125) ⟨[]⟩ ⟨[.pointer (some ⟨g1'.next, 0, none⟩)]⟩] g' = some (.bool b, g')) eev
          have hbb : bb = true ↔ CovJ S l j := hbb
          by_cases c : CovJ S l j
          · have hcov : CovS S l := cov_iff.2 ⟨j, hj, c⟩
            rw [hbb.2 c] at eev
            simp only [rn0, rn1, rn2, rn3, rn4, rn5, rn6, rn7, rn8, if_true, if_false, Nat.le_refl, true_and, and_true, decide_true, decide_false, Bool.not_true, Bool.not_false, reduceIte, Nat.reduceEqDiff, Nat.reduceAdd, Nat.reduceMul, Nat.reduceSub, Nat.reduceLeDiff, Nat.reduceLT, p3, p4, p6, p7, p28, p29, p30, hj', Cells.idx hcR hj, Cells.ld hcR hj Nat.zero_lt_one, eev, rc.ld, Nat.zero_add, List.getElem?_cons_zero]
            refine step_store (b := g3.next) (off := 0) (vs := [v]) rfl epb (by omega) (by omega) (by cases v <;> first | rfl | cases ho) (by simp [allB, ho]) rfl (by simp) fun gc hsc => ?_
            rw [splice1] at hsc
            have nc := hsc.next
            have fc := hsc.floor
            simp only [rn0, rn1, rn2, rn3, rn4, rn5, rn6, rn7, rn8, if_true, if_false, Nat.le_refl, true_and, and_true, decide_true, decide_false, Bool.not_true, Bool.not_false, reduceIte, Nat.reduceEqDiff, Nat.reduceAdd, Nat.reduceMul, Nat.reduceSub, Nat.reduceLeDiff, Nat.reduceLT]
            refine ⟨by rw [hsc.old _ (by omega)]; exact lb, by omega, by omega, fun gd hpd => ⟨fun _ => ⟨⟨v, ?_, ?_, ho, fun x q c e => by have := (hb x q c e).1; omega⟩, fun i hi a1 a2 => ?_, hpd.get⟩, fun hn => absurd hcov hn, by rw [hpd.floor]; omega, by rw [hpd.next]; omega, by rw [hpd.next]; omega⟩⟩
            · rw [hpd.old _ (by omega)]; exact hsc.get
            · exact cells_at hib fun a q c e hlt => by
                have := (hb a q c e).1
                rw [hpd.old _ (by omega), hsc.old _ (by omega)]
            · rw [hpd.old i a2, hsc.old i a1, gbold i (by omega) a2, hbase i hi]
          · have hbf : bb = false := by
              cases bb with
              | false => rfl
              | true => exact absurd (hbb.1 rfl) c
            rw [hbf] at eev
            have hno2 : ∀ j', j' < j + 1 → ¬ CovJ S l j' := fun j' hj1 => by
              by_cases e : j' = j
              · rw [e]; exact c
              · exact hno' j' (by omega)
            simp only [rn0, rn1, rn2, rn3, rn4, rn5, rn6, rn7, rn8, if_true, if_false, Nat.le_refl, true_and, and_true, decide_true, decide_false, Bool.not_true, Bool.not_false, reduceIte, Nat.reduceEqDiff, Nat.reduceAdd, Nat.reduceMul, Nat.reduceSub, Nat.reduceLeDiff, Nat.reduceLT, p3, p4, p6, p7, p28, p29, p30, hj', Cells.idx hcR hj, Cells.ld hcR hj Nat.zero_lt_one, eev, hwj]
            first | exact ⟨⟨rfl, hno2⟩, rfl⟩ | exact ⟨hno2, rfl⟩ | exact hno2
        · rintro f g' ms ⟨⟨rfl, hno'⟩, rfl, p3, p4, p6, p7, p28, p29, p30⟩
          have hncov : ¬ CovS S l := fun q => by
            obtain ⟨j, j1, j2⟩ := cov_iff.1 q
            exact hno' j j1 j2
          simp only [rn0, rn1, rn2, rn3, rn4, rn5, rn6, rn7, rn8, if_true, if_false, Nat.le_refl, true_and, and_true, decide_true, decide_false, Bool.not_true, Bool.not_false, reduceIte, Nat.reduceEqDiff, Nat.reduceAdd, Nat.reduceMul, Nat.reduceSub, Nat.reduceLeDiff, Nat.reduceLT, p3, p4, p6, p7, p28, p29, p30, Int.lt_irrefl]
          refine ⟨lb, by omega, by omega, fun gd hpd => ⟨fun hc => absurd hc hncov, fun _ => fun i hi => ?_, by rw [hpd.floor]; omega, by rw [hpd.next]; omega, by rw [hpd.next]; omega⟩⟩
          by_cases e : i = g5.next + 1
          · subst e; rw [hpd.get, r6]; exact hloop1.symm
          · rw [hpd.old i e, gbold i hi e])
      (by omega)
    obtain ⟨v6, g6, e6, f6, u6, m6, k6, q6⟩ := hit
    cases hrr : rs with
    | some l =>
      obtain ⟨⟨v', t1, t2, t3, t4⟩, t5, t6⟩ := k6 l hrr
      have hls : leaveS S = l := by
        have h1 := leaveS_is hG
        have h2 := leaveN_up (hlv.trans hrr) (S.ns - k)
        rw [show k + 1 + (S.ns - k) = S.ns + 1 by omega, h1] at h2
        exact Option.some.inj h2
      refine ⟨v6, g6, .exit 0, e6, by omega, by omega, t6, fun g7 hp7 => ?_⟩
      have n7 := hp7.next
      have f7 := hp7.floor
      have t7 : Row g7 g3.next [v'] := ⟨true, 0, by rw [hp7.old _ (by omega)]; exact t1⟩
      simp only [rn0, rn1, rn2, rn3, rn4, rn5, rn6, rn7, rn8, if_true, if_false, Nat.le_refl, true_and, and_true, decide_true, decide_false, Bool.not_true, Bool.not_false, reduceIte, Nat.reduceEqDiff, Nat.reduceAdd, Nat.reduceMul, Nat.reduceSub, Nat.reduceLeDiff, Nat.reduceLT, c4, t7.ld, Nat.zero_add, List.getElem?_cons_zero]
      refine ret_marks (ms := g5.next :: ms) (List.nodup_cons.2 ⟨fun q => by have := (hmk.2 _ q).2.1; omega, hmk.1⟩) (fun d hd => ?_) (by omega) fun g8 ho8 n8 f8 => ?_
      · rcases List.mem_cons.1 hd with rfl | hd
        · exact ⟨by omega, by rw [hp7.old _ (by omega), t5 _ (by omega) (by omega) (by omega)]; exact hmark⟩
        · obtain ⟨d1, d2, d3⟩ := hmk.2 d hd
          exact ⟨by omega, by rw [hp7.old _ (by omega), t5 _ (by omega) (by omega) (by omega), oldh _ d2]; exact d3⟩
      · have nin : ∀ i, i < g4.next ∨ h2.next ≤ i → i ∉ g5.next :: ms := fun i hi q => by
          rcases List.mem_cons.1 q with rfl | q
          · omega
          · have := hmk.2 i q; omega
        simp only [rn0, rn1, rn2, rn3, rn4, rn5, rn6, rn7, rn8, if_true, if_false, Nat.le_refl, true_and, and_true, decide_true, decide_false, Bool.not_true, Bool.not_false, reduceIte, Nat.reduceEqDiff, Nat.reduceAdd, Nat.reduceMul, Nat.reduceSub, Nat.reduceLeDiff, Nat.reduceLT]
        rw [hls]
        refine ⟨cells_at t2 fun a q c e hlt => ?_, t3, fun i hi => ?_, by omega, by omega, by omega⟩
        · have := t4 a q c e
          rw [ho8 _ (nin _ (by omega)), hp7.old _ (by omega)]
        · rw [ho8 _ (nin _ (by omega)), hp7.old _ (by omega), t5 _ (by omega) (by omega) (by omega), oldh4 _ (by omega), old4 _ (by omega), hx1.old i hi]
    | none =>
      have hq := q6 hrr
      refine ⟨v6, g6, .norm, e6, by omega, by omega, by rw [r6, hq _ (by omega)]; exact hloop, fun g7 hp7 => ?_⟩
      have n7 := hp7.next
      have f7 := hp7.floor
      have low7 : ∀ i, i < h2.next → i ≠ g5.next + 1 → g7.get i = h2.get i := fun i hi hne => by rw [hp7.old i hne, hq i hi]
      simp only [rn0, rn1, rn2, rn3, rn4, rn5, rn6, rn7, rn8, if_true, if_false, Nat.le_refl, true_and, and_true, decide_true, decide_false, Bool.not_true, Bool.not_false, reduceIte, Nat.reduceEqDiff, Nat.reduceAdd, Nat.reduceMul, Nat.reduceSub, Nat.reduceLeDiff, Nat.reduceLT, c1, c3, c4, c16, c17, hw]
      have hmk7 : MarksR g4.next (g5.next :: ms) g7 := by
        refine ⟨List.nodup_cons.2 ⟨fun q => by have := (hmk.2 _ q).2.1; omega, hmk.1⟩, fun d hd => ?_⟩
        rcases List.mem_cons.1 hd with rfl | hd
        · exact ⟨by omega, by omega, by rw [low7 _ (by omega) (by omega)]; exact hmark⟩
        · obtain ⟨d1, d2, d3⟩ := hmk.2 d hd
          exact ⟨by omega, by omega, by rw [low7 _ (by omega) (by omega), oldh _ d2]; exact d3⟩
      rw [hk1]
      have hfin := And.intro (show ∀ i, i < g4.next → g7.get i = g4.get i from fun i hi => by rw [low7 i (by omega) (by omega), oldh4 i hi]) (And.intro (show g4.next ≤ g7.next by omega) (And.intro (show g7.next ≤ g4.next + (kC + C) by omega) (And.intro (show g7.floor = g4.floor by omega) (And.intro hmk7 (hlv.trans hrr)))))
      first | exact hfin | exact ⟨hfin, rfl⟩ | exact ⟨hfin, rfl, rfl⟩ | trace_state
  · rintro f g ms ⟨⟨hold, hup, hnx, hfg, hmk, hno⟩, p1, p3, p4, p16, p17⟩
    rw [leaveS_is hG] at hno
    cases hno
end Go.Vm.St

namespace Go.Vm.St
open Go.Proofs Go.Vm.Vat
set_option linter.unusedSimpArgs false
set_option linter.unusedVariables false
set_option maxRecDepth 10000
variable {n : Nat} {h : AHeap}
/-! ### The reference's sets -/
def s74 : SCode := (.seq (.ops [⟨(some 2), none, .mov (.const (.slice none 0 0))⟩]) (.seq (.ops [⟨(some 3), none, .mov (.const (.slice none 0 0))⟩]) (.seq (.seq (.ops [⟨(some 4), none, .mov (.const (.int .i64 (0)))⟩]) (.block 0 (.loop (.seq (.seq (.ops [⟨(some 5), none, .mov (T 0)⟩, ⟨(some 6), none, .mov (T 4)⟩, ⟨(some 7), none, .plain (.convert 3 114 (T 6)) 114⟩, ⟨(some 8), none, .plain (.binOp .shr 3 (T 5) (T 7) 114) 3⟩, ⟨(some 9), none, .int2 .gtr (T 8) (.const (.int .i64 (0)))⟩]) (.cond (T 9) .skip (.exit 0))) (.seq (.block 1 (.seq (.ops [⟨(some 12), none, .mov (T 0)⟩, ⟨(some 13), none, .mov (T 4)⟩, ⟨(some 14), none, .plain (.convert 3 114 (T 13)) 114⟩, ⟨(some 15), none, .plain (.binOp .shr 3 (T 12) (T 14) 114) 3⟩, ⟨(some 16), none, .plain (.binOp .rem 3 (T 15) (.const (.int .i64 (2))) 3) 3⟩, ⟨(some 17), none, .int2 .eql (T 16) (.const (.int .i64 (1)))⟩]) (.cond (T 17) (.ops [⟨(some 18), none, .mov (T 3)⟩, ⟨(some 19), none, .mov (T 4)⟩, ⟨(some 20), none, .bslice 1 1 [(.int .i64 (0))] [0] [(T 19)]⟩, ⟨(some 21), none, .append 1 8 (T 18) (T 20)⟩, ⟨(some 3), none, .mov (T 21)⟩]) .skip))) (.ops [⟨(some 10), none, .mov (T 4)⟩, ⟨(some 11), none, .int2 .add (T 10) (.const (.int .i64 (1)))⟩, ⟨(some 4), none, .mov (T 11)⟩])))))) (.seq (.ops [⟨(some 22), none, .mov (T 3)⟩, ⟨(some 2), none, .mov (T 22)⟩]) .ret))))
theorem fok74 : FnOk Try.prog 74 23 s74 [.tmp 2] := ⟨Try.f74, _, Try.func74, rfl, Try.ntmps74, by kernel_rfl, by kernel_rfl⟩
theorem bits_c (hn : 110 ≤ n) (hr : h.next + 100 < far) (hfl : h.floor ≤ h.next) {b B : Nat} (hb : b < 2 ^ B) (hB : B ≤ 10) :
    ∃ v h', call n (.func (.func 74) #[] #[]) [.int .i64 (b : Int)] h = some (v, h') ∧ Ints h' v (pickL (Bit b) B).length (atL (pickL (Bit b) B)) ∧ (∀ i, i < h.next → h'.get i = h.get i) ∧ h'.next ≤ h.next + 50 ∧ h.next ≤ h'.next ∧ h'.floor = h.floor := by
  obtain ⟨n, rfl⟩ : ∃ p, n = p + 1 := ⟨n - 1, by omega⟩
  obtain ⟨M, hM, hpos, hz⟩ := bits_top B hb
  have hBM : pickL (Bit b) B = pickL (Bit b) M := by
    have := pick_more (p := Bit b) (M := M) (B - M) (top_none hz)
    rw [show M + (B - M) = B by omega] at this; exact this
  rw [hBM]
  refine call_any0 fok74 rfl rfl (by simp) ?_
  simp only [rn0, rn1, rn2, rn3, rn4, rn5, rn6, rn7, rn8, if_true, if_false, Nat.le_refl, true_and, and_true, decide_true, decide_false, Bool.not_true, Bool.not_false, reduceIte, Nat.reduceEqDiff, Nat.reduceAdd, Nat.reduceMul, Nat.reduceSub, Nat.reduceLeDiff, Nat.reduceLT, s74]
  refine W_loop M (fun k f g ms => (∃ v, (∀ i, i < h.next → g.get i = h.get i) ∧ g.floor = h.floor ∧ h.next ≤ g.next ∧ g.next ≤ h.next + 4 * k ∧ GrowC h.next g v 1 (pickL (Bit b) k).length (fun i _ => .int .i64 (atL (pickL (Bit b) k) i)) ∧ f 3 = v) ∧ ms = [] ∧ f 0 = .int .i64 (b : Int) ∧ f 4 = .int .i64 (k : Int)) (by simp; omega) ?_ ?_ ?_
  · simp only [rn0, rn1, rn2, rn3, rn4, rn5, rn6, rn7, rn8, if_true, if_false, Nat.le_refl, true_and, and_true, decide_true, decide_false, Bool.not_true, Bool.not_false, reduceIte, Nat.reduceEqDiff, Nat.reduceAdd, Nat.reduceMul, Nat.reduceSub, Nat.reduceLeDiff, Nat.reduceLT]
    first | exact ⟨_, fun _ _ => trivial, by omega, .nil, rfl⟩ | exact ⟨⟨_, fun _ _ => trivial, by omega, .nil, rfl⟩, rfl⟩ | exact ⟨⟨_, fun _ _ => rfl, rfl, by omega, by omega, .nil, rfl⟩, rfl⟩
  · rintro k f g ms hk ⟨⟨v, ho, hfg, hup, hnx, gv, p3⟩, rfl, p0, p4⟩
    have hw : wrapF .i64 ((k : Int) + 1) = ((k + 1 : Nat) : Int) := by rw [wrap_in (by omega) (by omega)]; rfl
    have hp := hpos k hk
    have hp' : (0 : Int) < ((b / 2 ^ k : Nat) : Int) := by omega
    have hm2 : ((b / 2 ^ k : Nat) : Int).tmod 2 = ((b / 2 ^ k % 2 : Nat) : Int) := rfl
    have z2 : ¬ (2 : Int) = 0 := by decide
    have hlk := pick_len (p := Bit b) k
    by_cases hb1 : Bit b k
    · have hb' : ((b / 2 ^ k % 2 : Nat) : Int) = 1 := by unfold Bit at hb1; omega
      simp only [rn0, rn1, rn2, rn3, rn4, rn5, rn6, rn7, rn8, if_true, if_false, Nat.le_refl, true_and, and_true, decide_true, decide_false, Bool.not_true, Bool.not_false, reduceIte, Nat.reduceEqDiff, Nat.reduceAdd, Nat.reduceMul, Nat.reduceSub, Nat.reduceLeDiff, Nat.reduceLT, p0, p3, p4, p_uint, r_conv (k := k) (by omega), p_shr, r_shr (a := b) (k := k) (by omega), valN_tmp, valN_const, Nat.reduceLT, r_rem z2, hm2, hb', hp', sl_int]
      refine step_slice (by omega) rfl fun g4 hx4 => ?_
      have n4 := hx4.next
      have f4 := hx4.floor
      have gv4 : GrowC h.next g4 v 1 (pickL (Bit b) k).length (fun i _ => .int .i64 (atL (pickL (Bit b) (k + 1)) i)) := (gv.sub hx4.sub).congr fun i j hi hj => by rw [pick_yes hb1, at_append hi]
      obtain ⟨v', g5, e5, ev, gv5, hk5⟩ := gv4.append (bytes := 8) (cap := 1) (by omega) (by omega) (by omega) hx4.get rfl rfl (fun j hj => by
        obtain rfl : j = 0 := by omega
        rw [pick_yes hb1, at_last]; rfl) (by simp [maxBytes]; omega) (by simp [maxBytes]; omega)
      have n5 := hk5.next
      have f5 := hk5.floor
      have hlen : (pickL (Bit b) (k + 1)).length = (pickL (Bit b) k).length + 1 := by rw [pick_yes hb1, List.length_append, List.length_singleton]
      simp only [rn0, rn1, rn2, rn3, rn4, rn5, rn6, rn7, rn8, if_true, if_false, Nat.le_refl, true_and, and_true, decide_true, decide_false, Bool.not_true, Bool.not_false, reduceIte, Nat.reduceEqDiff, Nat.reduceAdd, Nat.reduceMul, Nat.reduceSub, Nat.reduceLeDiff, Nat.reduceLT, p0, p3, p4, e5, hw]
      rw [hlen]
      exact ⟨_, fun i hi => by rw [hk5.old i (by omega) fun bb kk qq e => by have := (gv4.block e).1; omega, hx4.old i (by omega), ho i hi], by omega, by omega, by omega, gv5, rfl⟩
    · have hb' : ¬ ((b / 2 ^ k % 2 : Nat) : Int) = 1 := by unfold Bit at hb1; omega
      simp only [rn0, rn1, rn2, rn3, rn4, rn5, rn6, rn7, rn8, if_true, if_false, Nat.le_refl, true_and, and_true, decide_true, decide_false, Bool.not_true, Bool.not_false, reduceIte, Nat.reduceEqDiff, Nat.reduceAdd, Nat.reduceMul, Nat.reduceSub, Nat.reduceLeDiff, Nat.reduceLT, p0, p3, p4, p_uint, r_conv (k := k) (by omega), p_shr, r_shr (a := b) (k := k) (by omega), valN_tmp, valN_const, Nat.reduceLT, r_rem z2, hm2, hb', hp', hw]
      rw [pick_no hb1]
      exact ⟨_, ho, by omega, by omega, by omega, gv, rfl⟩
  · rintro f g ms ⟨⟨v, ho, hfg, hup, hnx, gv, p3⟩, rfl, p0, p4⟩
    have hz' : ¬ (0 : Int) < ((b / 2 ^ M : Nat) : Int) := by rw [hz]; omega
    simp only [rn0, rn1, rn2, rn3, rn4, rn5, rn6, rn7, rn8, if_true, if_false, Nat.le_refl, true_and, and_true, decide_true, decide_false, Bool.not_true, Bool.not_false, reduceIte, Nat.reduceEqDiff, Nat.reduceAdd, Nat.reduceMul, Nat.reduceSub, Nat.reduceLeDiff, Nat.reduceLT, p0, p3, p4, p_uint, r_conv (k := M) (by omega), p_shr, r_shr (a := b) (k := M) (by omega), valN_tmp, valN_const, Nat.reduceLT, hz']
    exact ⟨gv.cells, ho, by omega, by omega, hfg⟩
def s101 : SCode := (.seq (.ops [⟨(some 4), none, .mov (.const (.bool false))⟩]) (.seq (.seq (.ops [⟨(some 5), none, .mov (.const (.int .i64 (0)))⟩]) (.block 0 (.loop (.seq (.seq (.ops [⟨(some 6), none, .mov (T 5)⟩, ⟨(some 7), none, .mov (T 0)⟩, ⟨(some 8), none, .len (T 7)⟩, ⟨(some 9), none, .int2 .lss (T 6) (T 8)⟩, ⟨(some 10), none, .mov (T 9)⟩, ⟨(some 11), (some (10, true)), .mov (T 5)⟩, ⟨(some 12), (some (10, true)), .mov (T 1)⟩, ⟨(some 13), (some (10, true)), .len (T 12)⟩, ⟨(some 14), (some (10, true)), .int2 .lss (T 11) (T 13)⟩, ⟨(some 15), none, .pick (T 10) (T 14) (.const (.bool false))⟩]) (.cond (T 15) .skip (.exit 0))) (.seq (.block 1 (.seq (.draw [⟨.free, ⟨(some 18), none, .mov (T 0)⟩⟩, ⟨.free, ⟨(some 19), none, .mov (T 5)⟩⟩, ⟨.free, ⟨(some 20), none, .idxSl 1 (T 18) (T 19)⟩⟩, ⟨.rd1, ⟨(some 21), none, .load1 (T 20)⟩⟩, ⟨.free, ⟨(some 22), none, .mov (T 1)⟩⟩, ⟨.free, ⟨(some 23), none, .mov (T 5)⟩⟩, ⟨.free, ⟨(some 24), none, .idxSl 1 (T 22) (T 23)⟩⟩, ⟨.rd1, ⟨(some 25), none, .load1 (T 24)⟩⟩, ⟨.free, ⟨(some 26), none, .int2 .neq (T 21) (T 25)⟩⟩]) (.cond (T 26) (.seq (.draw [⟨.free, ⟨(some 27), none, .mov (T 0)⟩⟩, ⟨.free, ⟨(some 28), none, .mov (T 5)⟩⟩, ⟨.free, ⟨(some 29), none, .idxSl 1 (T 27) (T 28)⟩⟩, ⟨.rd1, ⟨(some 30), none, .load1 (T 29)⟩⟩, ⟨.free, ⟨(some 31), none, .mov (T 1)⟩⟩, ⟨.free, ⟨(some 32), none, .mov (T 5)⟩⟩, ⟨.free, ⟨(some 33), none, .idxSl 1 (T 31) (T 32)⟩⟩, ⟨.rd1, ⟨(some 34), none, .load1 (T 33)⟩⟩, ⟨.free, ⟨(some 35), none, .int2 .lss (T 30) (T 34)⟩⟩, ⟨.free, ⟨(some 4), none, .mov (T 35)⟩⟩]) .ret) .skip))) (.ops [⟨(some 16), none, .mov (T 5)⟩, ⟨(some 17), none, .int2 .add (T 16) (.const (.int .i64 (1)))⟩, ⟨(some 5), none, .mov (T 17)⟩])))))) (.seq (.ops [⟨(some 36), none, .mov (T 0)⟩, ⟨(some 37), none, .len (T 36)⟩, ⟨(some 38), none, .mov (T 1)⟩, ⟨(some 39), none, .len (T 38)⟩, ⟨(some 40), none, .int2 .lss (T 37) (T 39)⟩, ⟨(some 4), none, .mov (T 40)⟩]) .ret)))
theorem fok101 : FnOk Try.prog 101 41 s101 [.tmp 4] := ⟨Try.f101, _, Try.func101, rfl, Try.ntmps101, by kernel_rfl, by kernel_rfl⟩
theorem before_c {m : Nat} (hn : m + 3 ≤ n) (hm : m ≤ 1000) {va vb : Value} {a b : Nat → Int} (ha : Ints h va m a) (hb : Ints h vb m b) : call n (.func (.func 101) #[] #[]) [va, vb] h = some (.bool (decide (LexLt a b m)), h) := by
  obtain ⟨n, rfl⟩ : ∃ p, n = p + 1 := ⟨n - 1, by omega⟩
  refine call_plain0 fok101 rfl rfl (by simp) rfl ?_
  have ha : Ints h.shutAll va m a := Cells.shut ha
  have hb : Ints h.shutAll vb m b := Cells.shut hb
  generalize h.shutAll = h at ha hb
  simp only [rn0, rn1, rn2, rn3, rn4, rn5, rn6, rn7, rn8, if_true, if_false, Nat.le_refl, true_and, and_true, decide_true, decide_false, Bool.not_true, Bool.not_false, reduceIte, Nat.reduceEqDiff, Nat.reduceAdd, Nat.reduceMul, Nat.reduceSub, Nat.reduceLeDiff, Nat.reduceLT, s101]
  refine W_loop m (fun k f g ms => (∀ i, i < k → a i = b i) ∧ g = h ∧ ms = [] ∧ f 0 = va ∧ f 1 = vb ∧ f 5 = .int .i64 (k : Int)) (by simp; omega) ?_ ?_ ?_
  · simp only [rn0, rn1, rn2, rn3, rn4, rn5, rn6, rn7, rn8, if_true, if_false, Nat.le_refl, true_and, and_true, decide_true, decide_false, Bool.not_true, Bool.not_false, reduceIte, Nat.reduceEqDiff, Nat.reduceAdd, Nat.reduceMul, Nat.reduceSub, Nat.reduceLeDiff, Nat.reduceLT]
    exact ⟨fun i hi => by omega, rfl⟩
  · rintro k f g ms hk ⟨he, rfl, rfl, p0, p1, p5⟩
    have hk' : (k : Int) < (m : Int) := by omega
    have hw : wrapF .i64 ((k : Int) + 1) = ((k + 1 : Nat) : Int) := by rw [wrap_in (by omega) (by omega)]; rfl
    have la := Cells.ld ha hk Nat.zero_lt_one
    have lb := Cells.ld hb hk Nat.zero_lt_one
    simp only [rn0, rn1, rn2, rn3, rn4, rn5, rn6, rn7, rn8, if_true, if_false, Nat.le_refl, true_and, and_true, decide_true, decide_false, Bool.not_true, Bool.not_false, reduceIte, Nat.reduceEqDiff, Nat.reduceAdd, Nat.reduceMul, Nat.reduceSub, Nat.reduceLeDiff, Nat.reduceLT, p0, p1, p5, Cells.len ha, Cells.len hb, hk']
    refine W_draw All ?_
    by_cases c : a k = b k
    · simp only [rn0, rn1, rn2, rn3, rn4, rn5, rn6, rn7, rn8, if_true, if_false, Nat.le_refl, true_and, and_true, decide_true, decide_false, Bool.not_true, Bool.not_false, reduceIte, Nat.reduceEqDiff, Nat.reduceAdd, Nat.reduceMul, Nat.reduceSub, Nat.reduceLeDiff, Nat.reduceLT, p0, p1, p5, Cells.idx ha hk, Cells.idx hb hk, la, lb, c, hw]
      intro i hi
      by_cases e : i = k
      · subst e; exact c
      · exact he i (by omega)
    · have hd : decide (a k < b k) = decide (LexLt a b m) := decide_eq_decide.2 ⟨fun h => ⟨k, hk, he, h⟩, fun ⟨j, j1, j2, j3⟩ => by
        by_cases e : j = k
        · subst e; exact j3
        · by_cases e2 : j < k
          · have := he j e2; omega
          · exact absurd (j2 k (by omega)) c⟩
      simp only [rn0, rn1, rn2, rn3, rn4, rn5, rn6, rn7, rn8, if_true, if_false, Nat.le_refl, true_and, and_true, decide_true, decide_false, Bool.not_true, Bool.not_false, reduceIte, Nat.reduceEqDiff, Nat.reduceAdd, Nat.reduceMul, Nat.reduceSub, Nat.reduceLeDiff, Nat.reduceLT, p0, p1, p5, Cells.idx ha hk, Cells.idx hb hk, la, lb, c]
      refine W_draw All ?_
      simp only [rn0, rn1, rn2, rn3, rn4, rn5, rn6, rn7, rn8, if_true, if_false, Nat.le_refl, true_and, and_true, decide_true, decide_false, Bool.not_true, Bool.not_false, reduceIte, Nat.reduceEqDiff, Nat.reduceAdd, Nat.reduceMul, Nat.reduceSub, Nat.reduceLeDiff, Nat.reduceLT, p0, p1, p5, Cells.idx ha hk, Cells.idx hb hk, la, lb, hd]
  · rintro f g ms ⟨he, rfl, rfl, p0, p1, p5⟩
    have hd : decide (LexLt a b m) = false := decide_eq_false fun ⟨j, j1, j2, j3⟩ => by have := he j j1; omega
    simp only [rn0, rn1, rn2, rn3, rn4, rn5, rn6, rn7, rn8, if_true, if_false, Nat.le_refl, true_and, and_true, decide_true, decide_false, Bool.not_true, Bool.not_false, reduceIte, Nat.reduceEqDiff, Nat.reduceAdd, Nat.reduceMul, Nat.reduceSub, Nat.reduceLeDiff, Nat.reduceLT, p0, p1, p5, Cells.len ha, Cells.len hb, Int.lt_irrefl, hd]
def s73 : SCode := (.seq (.ops [⟨(some 4), none, .mov (.const (.bool false))⟩]) (.seq (.ops [⟨(some 5), none, .mov (T 0)⟩, ⟨(some 6), none, .len (T 5)⟩, ⟨(some 7), none, .mov (T 1)⟩, ⟨(some 8), none, .len (T 7)⟩, ⟨(some 9), none, .int2 .lss (T 6) (T 8)⟩, ⟨(some 10), none, .mov (T 9)⟩, ⟨(some 11), (some (10, false)), .mov (T 0)⟩, ⟨(some 12), (some (10, false)), .len (T 11)⟩, ⟨(some 13), (some (10, false)), .mov (T 1)⟩, ⟨(some 14), (some (10, false)), .len (T 13)⟩, ⟨(some 15), (some (10, false)), .int2 .eql (T 12) (T 14)⟩, ⟨(some 16), (some (10, false)), .mov (T 15)⟩, ⟨(some 17), (some (16, true)), .mov (T 0)⟩, ⟨(some 18), (some (16, true)), .mov (T 1)⟩, ⟨(some 19), (some (16, true)), .call (.func 101) [(T 17), (T 18)]⟩, ⟨(some 20), (some (10, false)), .pick (T 16) (T 19) (.const (.bool false))⟩, ⟨(some 21), none, .pick (T 10) (.const (.bool true)) (T 20)⟩, ⟨(some 4), none, .mov (T 21)⟩]) .ret))
theorem fok73 : FnOk Try.prog 73 22 s73 [.tmp 4] := ⟨Try.f73, _, Try.func73, rfl, Try.ntmps73, by kernel_rfl, by kernel_rfl⟩
theorem shorter_c {m k : Nat} (hn : 1010 ≤ n) (hm : m ≤ 1000) (hk : k ≤ 1000) {va vb : Value} {a b : Nat → Int} (ha : Ints h va m a) (hb : Ints h vb k b) : call n (.func (.func 73) #[] #[]) [va, vb] h = some (.bool (decide (Shortlex a m b k)), h) := by
  obtain ⟨n, rfl⟩ : ∃ p, n = p + 1 := ⟨n - 1, by omega⟩
  refine call_plain0 fok73 rfl rfl (by simp) rfl ?_
  have ha : Ints h.shutAll va m a := Cells.shut ha
  have hb : Ints h.shutAll vb k b := Cells.shut hb
  generalize h.shutAll = h at ha hb
  by_cases c1 : m < k
  · have c1' : (m : Int) < (k : Int) := by omega
    have hd : decide (Shortlex a m b k) = true := decide_eq_true (.inl c1)
    simp only [rn0, rn1, rn2, rn3, rn4, rn5, rn6, rn7, rn8, if_true, if_false, Nat.le_refl, true_and, and_true, decide_true, decide_false, Bool.not_true, Bool.not_false, reduceIte, Nat.reduceEqDiff, Nat.reduceAdd, Nat.reduceMul, Nat.reduceSub, Nat.reduceLeDiff, Nat.reduceLT, s73, Cells.len ha, Cells.len hb, c1', hd, g_un]
  have c1' : ¬ (m : Int) < (k : Int) := by omega
  by_cases c : m = k
  · subst c
    have ec := before_c (n := n) (h := h) (by omega) hm ha hb
    have hd : decide (LexLt a b m) = decide (Shortlex a m b m) := decide_eq_decide.2 ⟨fun e => .inr ⟨rfl, e⟩, fun e => by
      rcases e with e | e
      · omega
      · exact e.2⟩
    rw [hd] at ec
    simp only [rn0, rn1, rn2, rn3, rn4, rn5, rn6, rn7, rn8, if_true, if_false, Nat.le_refl, true_and, and_true, decide_true, decide_false, Bool.not_true, Bool.not_false, reduceIte, Nat.reduceEqDiff, Nat.reduceAdd, Nat.reduceMul, Nat.reduceSub, Nat.reduceLeDiff, Nat.reduceLT, s73, Cells.len ha, Cells.len hb, c1', ec, Int.lt_irrefl]
  · have c' : ¬ (m : Int) = (k : Int) := by omega
    have hd : decide (Shortlex a m b k) = false := decide_eq_false fun e => by rcases e with e | e <;> omega
    simp only [rn0, rn1, rn2, rn3, rn4, rn5, rn6, rn7, rn8, if_true, if_false, Nat.le_refl, true_and, and_true, decide_true, decide_false, Bool.not_true, Bool.not_false, reduceIte, Nat.reduceEqDiff, Nat.reduceAdd, Nat.reduceMul, Nat.reduceSub, Nat.reduceLeDiff, Nat.reduceLT, s73, Cells.len ha, Cells.len hb, c1', c', hd]
def CanB (S : MS) (s : Nat) : Prop := ∃ c, c ∈ allE S ∧ ∀ x, x < S.ns → Bit s x → RightS S c x
noncomputable instance (S : MS) (s : Nat) : Decidable (CanB S s) := Classical.propDecidable _
end Go.Vm.St

namespace Go.Vm
open Go.Vm.Vat
section
variable {p : Nat → Prop}
end
end Go.Vm
namespace Go.Vm.St
open Go.Proofs Go.Vm.Vat
set_option linter.unusedSimpArgs false
set_option linter.unusedVariables false
set_option maxRecDepth 10000
variable {n : Nat} {h : AHeap}
/-- what 'Leave' answers -/
def LeaveR (h : AHeap) (S : MS) (v : Value) (h' : AHeap) : Prop := (∀ i, i < h.next → h'.get i = h.get i) ∧ h.next ≤ h'.next ∧ h'.next ≤ h.next + 1000010 ∧ h'.floor = h.floor ∧
  ((faultS S ≠ 0 ∧ v = .tuple ⟨[nilS, .int .i64 (faultS S)]⟩) ∨ (faultS S = 0 ∧ ∃ l, v = .tuple ⟨[l, .int .i64 0]⟩ ∧ Ints h' l (leaveS S).length (atL (leaveS S)) ∧ oneCell l = true))
def s52 : SCode := (.seq (.ops [⟨(some 1), none, .box (T 0)⟩, ⟨(some 2), none, .mov (.const (.slice none 0 0))⟩, ⟨(some 3), none, .mov (.const (.int .i64 (0)))⟩]) (.seq (.seq (.ops [⟨(some 5), none, .loadN 7 (T 1)⟩, ⟨(some 6), none, .call (.func 30) [(T 5)]⟩, ⟨(some 4), none, .mov (T 6)⟩]) (.seq (.ops [⟨(some 7), none, .mov (T 4)⟩, ⟨(some 8), none, .int2 .neq (T 7) (.const (.int .i64 (0)))⟩]) (.cond (T 8) (.seq (.ops [⟨(some 9), none, .mov (T 4)⟩, ⟨(some 2), none, .mov (.const (.slice none 0 0))⟩, ⟨(some 3), none, .mov (T 9)⟩]) .ret) .skip))) (.seq (.ops [⟨(some 10), none, .loadN 7 (T 1)⟩, ⟨(some 11), none, .build #[(0, 7), (7, 1)] [(.int .i64 (0)), (.int .i64 (0)), (.slice none 0 0), (.int .i64 (0)), (.int .i64 (0)), (.slice none 0 0), (.slice none 0 0), (.slice none 0 0)] [0] [(T 10)]⟩, ⟨(some 12), none, .call (.func 97) [(T 11)]⟩, ⟨(some 2), none, .mov (T 12)⟩, ⟨(some 3), none, .mov (.const (.int .i64 (0)))⟩]) .ret)))
theorem fok52 : FnOk Try.prog 52 13 s52 [.tmp 2, .tmp 3] := ⟨Try.f52, _, Try.func52, rfl, Try.ntmps52, by kernel_rfl, by kernel_rfl⟩
theorem leaveP_c (hn : 2700 ≤ n) (hr : h.next + 1300000 < far) (hfl : h.floor ≤ h.next) {wv vv sv : Value} {S : MS} (hy : SteepR h wv vv sv S) (hT : ThinS S) :
    ∃ v h', call n (.func (.func 52) #[] #[]) [.agg ⟨stL S wv vv sv⟩] h = some (v, h') ∧ LeaveR h S v h' := by
  obtain ⟨n, rfl⟩ : ∃ p, n = p + 1 := ⟨n - 1, by omega⟩
  refine call_any0 fok52 rfl rfl (by simp) ?_
  simp only [s52, W_seq, W_ops]
  refine ops_box (cs := stL S wv vv sv) (by omega) rfl hy.one fun g1 hx1 => ?_
  have n1 := hx1.next
  have f1 := hx1.floor
  have hy1 := hy.mono hx1.sub
  have w1 := hx1.row.whole (n := 7) rfl
  have ec := check_c (n := n) (h := g1) (by omega) (by omega) hy1 hT
  by_cases hf : faultS S = 0
  case neg =>
    simp only [rn0, rn1, rn2, rn3, rn4, rn5, rn6, rn7, rn8, if_true, if_false, Nat.le_refl, true_and, and_true, decide_true, decide_false, Bool.not_true, Bool.not_false, reduceIte, Nat.reduceEqDiff, Nat.reduceAdd, Nat.reduceMul, Nat.reduceSub, Nat.reduceLeDiff, Nat.reduceLT, w1, ec, hf, ret_tt]
    exact ⟨fun i hi => hx1.old i hi, by omega, by omega, by omega, .inl ⟨hf, rfl⟩⟩
  have hG := good_of hf
  obtain ⟨v, g2, e2, i2, ov, o2, u2, m2, f2⟩ := smallest_c (n := n) (h := g1) (by omega) (by omega) (by omega) hy1 hG
  simp only [rn0, rn1, rn2, rn3, rn4, rn5, rn6, rn7, rn8, if_true, if_false, Nat.le_refl, true_and, and_true, decide_true, decide_false, Bool.not_true, Bool.not_false, reduceIte, Nat.reduceEqDiff, Nat.reduceAdd, Nat.reduceMul, Nat.reduceSub, Nat.reduceLeDiff, Nat.reduceLT, w1, ec, hf, build_wk, e2, ret_tt]
  exact ⟨fun i hi => by rw [o2 i (by omega), hx1.old i hi], by omega, by omega, by omega, .inr ⟨hf, v, rfl, i2, ov⟩⟩
theorem off_bit {S : MS} (hns : S.ns ≤ 5) {b x : Nat} (hx : x < S.ns) : Bit (offN (2 ^ S.ns - 1) b) x ↔ ¬ Bit b x := by
  have hp : (2 ^ S.ns : Nat) < 2 ^ 62 := Nat.pow_lt_pow_right (by omega) (by omega)
  rw [bit_test, bit_test, offN_bit (by omega) (by omega), Nat.testBit_two_pow_sub_one]
  simp [hx]
/-- without these bits some truth has all right: some truth has wrong among these alone -/
theorem can_off {S : MS} (hns : S.ns ≤ 5) {b : Nat} : CanB S (offN (2 ^ S.ns - 1) b) ↔ ∃ t, t ∈ allE S ∧ ∀ x, x < S.ns → wrS S t x → Bit b x := by
  constructor
  · rintro ⟨t, ht, hr⟩
    refine ⟨t, ht, fun x hx hw => ?_⟩
    apply Classical.byContradiction
    intro hb
    exact hw (hr x hx ((off_bit hns hx).2 hb))
  · rintro ⟨t, ht, hw⟩
    refine ⟨t, ht, fun x hx hb => ?_⟩
    apply Classical.byContradiction
    intro hr
    exact (off_bit hns hx).1 hb (hw x hx hr)
theorem left_g {S : MS} (hG : Good S) {b : Nat} (hc : CanB S (offN (2 ^ S.ns - 1) b)) : ¬ SL (pickL (Bit b) S.ns) (leaveS S) := by
  intro hs
  obtain ⟨_, _, _, _, _, z5, _⟩ := hG.sizes
  obtain ⟨t, ht, hw⟩ := (can_off z5).1 hc
  have hno := (leaveS_min hG).2 t ht
  obtain ⟨h1, h2⟩ := pick_sub (p := wrS S t) (q := Bit b) S.ns hw
  by_cases e : (pickL (wrS S t) S.ns).length = (pickL (Bit b) S.ns).length
  · have := h2 e
    unfold wrongL at hno
    rw [this] at hno
    exact hno hs
  · apply hno
    unfold wrongL
    rcases hs with hs | hs
    · exact .inl (by omega)
    · exact .inl (by omega)
theorem leave_at {S : MS} (hG : Good S) {i : Nat} (hi : i < (leaveS S).length) : ∃ j : Nat, j < S.ns ∧ atL (leaveS S) i = (j : Int) := by
  obtain ⟨⟨t, _, hl⟩, _⟩ := leaveS_min hG
  have hp : leaveS S = pickL (wrS S t) S.ns := hl
  rw [hp] at hi ⊢
  obtain ⟨j, j1, j2, _⟩ := pick_at hi
  exact ⟨j, j1, j2⟩
theorem left_f {S : MS} (hG : Good S) : CanB S (offN (2 ^ S.ns - 1) (bitsOf (leaveS S) (leaveS S).length)) := by
  obtain ⟨_, _, _, _, _, z5, _⟩ := hG.sizes
  obtain ⟨⟨t, ht, hl⟩, _⟩ := leaveS_min hG
  have hp : leaveS S = pickL (wrS S t) S.ns := hl
  refine (can_off z5).2 ⟨t, ht, fun x hx hw => ?_⟩
  rw [bit_test, bitsOf_test]
  obtain ⟨i, i1, i2⟩ := pick_has hx hw
  exact ⟨i, by rw [hp]; exact i1, by rw [hp, i2]; simp⟩
end Go.Vm.St

namespace Go.Vm.St
open Go.Proofs Go.Vm.Vat
set_option linter.unusedSimpArgs false
set_option linter.unusedVariables false
set_option maxRecDepth 10000
variable {n : Nat} {h : AHeap}
/-! ### A steep with some of its smells -/
def pickedS (S : MS) (bits : Nat) : MS := { S with ns := (selTo bits S.ns).length, sv := fun k => S.sv ((selTo bits S.ns).getD k 0), sh := fun k => S.sh ((selTo bits S.ns).getD k 0), sk := fun k => S.sk ((selTo bits S.ns).getD k 0) }
def smC (S : MS) (l : List Nat) (k j : Nat) : Value := .int .i64 (if j = 0 then S.sv (l.getD k 0) else if j = 1 then S.sh (l.getD k 0) else S.sk (l.getD k 0))
def zr7 : List Value := [.int .i64 0, .int .i64 0, nilS, .int .i64 0, .int .i64 0, nilS, nilS]
def s71 : SCode := (.seq (.ops [⟨(some 2), none, .box (T 0)⟩, ⟨(some 4), none, .alloc [(.int .i64 (0)), (.int .i64 (0)), (.slice none 0 0), (.int .i64 (0)), (.int .i64 (0)), (.slice none 0 0), (.slice none 0 0)]⟩]) (.seq (.ops [⟨(some 7), none, .loadN 7 (T 2)⟩, ⟨(some 5), none, .alloc [(.int .i64 (0)), (.int .i64 (0)), (.slice none 0 0), (.int .i64 (0)), (.int .i64 (0)), (.slice none 0 0), (.slice none 0 0)]⟩, ⟨none, none, .store 7 (T 5) (T 7)⟩]) (.seq (.ops [⟨(some 8), none, .fieldAddr 6 (T 5)⟩, ⟨none, none, .store 1 (T 8) (.const (.slice none 0 0))⟩]) (.seq (.seq (.ops [⟨(some 6), none, .mov (.const (.int .i64 (0)))⟩]) (.block 0 (.loop (.seq (.seq (.ops [⟨(some 9), none, .mov (T 6)⟩, ⟨(some 10), none, .fieldAddr 6 (T 2)⟩, ⟨(some 11), none, .load1 (T 10)⟩, ⟨(some 12), none, .len (T 11)⟩, ⟨(some 13), none, .int2 .lss (T 9) (T 12)⟩]) (.cond (T 13) .skip (.exit 0))) (.seq (.block 1 (.seq (.ops [⟨(some 16), none, .mov (T 1)⟩, ⟨(some 17), none, .mov (T 6)⟩, ⟨(some 18), none, .plain (.convert 3 114 (T 17)) 114⟩, ⟨(some 19), none, .plain (.binOp .shr 3 (T 16) (T 18) 114) 3⟩, ⟨(some 20), none, .plain (.binOp .rem 3 (T 19) (.const (.int .i64 (2))) 3) 3⟩, ⟨(some 21), none, .int2 .eql (T 20) (.const (.int .i64 (1)))⟩]) (.cond (T 21) (.draw [⟨.free, ⟨(some 22), none, .fieldAddr 6 (T 5)⟩⟩, ⟨.rd, ⟨(some 23), none, .load1 (T 22)⟩⟩, ⟨.free, ⟨(some 24), none, .fieldAddr 6 (T 2)⟩⟩, ⟨.rd1, ⟨(some 25), none, .load1 (T 24)⟩⟩, ⟨.free, ⟨(some 26), none, .mov (T 6)⟩⟩, ⟨.free, ⟨(some 27), none, .idxSl 3 (T 25) (T 26)⟩⟩, ⟨.rd1, ⟨(some 28), none, .loadN 3 (T 27)⟩⟩, ⟨.up, ⟨(some 29), none, .bslice 3 1 [(.int .i64 (0)), (.int .i64 (0)), (.int .i64 (0))] [0] [(T 28)]⟩⟩, ⟨.any, ⟨(some 30), none, .append 3 24 (T 23) (T 29)⟩⟩, ⟨.free, ⟨(some 31), none, .fieldAddr 6 (T 5)⟩⟩, ⟨.any, ⟨none, none, .store 1 (T 31) (T 30)⟩⟩]) .skip))) (.ops [⟨(some 14), none, .mov (T 6)⟩, ⟨(some 15), none, .int2 .add (T 14) (.const (.int .i64 (1)))⟩, ⟨(some 6), none, .mov (T 15)⟩])))))) (.seq (.ops [⟨(some 32), none, .loadN 7 (T 5)⟩, ⟨none, none, .store 7 (T 4) (T 32)⟩]) .ret)))))
theorem fok71 : FnOk Try.prog 71 33 s71 [.cellN 4 7] := ⟨Try.f71, _, Try.func71, rfl, Try.ntmps71, by kernel_rfl, by kernel_rfl⟩
set_option maxHeartbeats 2000000 in
theorem some_c (hn : 10 ≤ n) (hr : h.next + 200 < far) (hfl : h.floor ≤ h.next) {wv vv sv : Value} {S : MS} (hy : SteepR h wv vv sv S) (hs5 : S.ns ≤ 5) {bits : Nat} :
    ∃ sv' h', call n (.func (.func 71) #[] #[]) [.agg ⟨stL S wv vv sv⟩, .int .i64 (bits : Int)] h = some (.agg ⟨stL (pickedS S bits) wv vv sv'⟩, h') ∧ SteepR h' wv vv sv' (pickedS S bits) ∧ (∀ i, i < h.next → h'.get i = h.get i) ∧ h.next ≤ h'.next ∧ h'.next ≤ h.next + 100 ∧ h'.floor = h.floor := by
  obtain ⟨n, rfl⟩ : ∃ p, n = p + 1 := ⟨n - 1, by omega⟩
  suffices hsuf : ∃ v h', call (n + 1) (.func (.func 71) #[] #[]) [.agg ⟨stL S wv vv sv⟩, .int .i64 (bits : Int)] h = some (v, h') ∧ ∃ sv', v = .agg ⟨stL (pickedS S bits) wv vv sv'⟩ ∧ SteepR h' wv vv sv' (pickedS S bits) ∧ (∀ i, i < h.next → h'.get i = h.get i) ∧ h.next ≤ h'.next ∧ h'.next ≤ h.next + 100 ∧ h'.floor = h.floor by
    obtain ⟨v, h', e, sv', rfl, h1⟩ := hsuf
    exact ⟨sv', h', e, h1⟩
  refine call_any0 fok71 rfl rfl (by simp) ?_
  simp only [s71, W_seq, W_ops]
  refine ops_box (cs := stL S wv vv sv) (by omega) rfl hy.one fun g1 hx1 => ?_
  have n1 := hx1.next
  have f1' := hx1.floor
  have e1 : g1.next = h.next + 1 := n1
  simp only [rn0, rn1, rn2, rn3, rn4, rn5, rn6, rn7, rn8, if_true, if_false, Nat.le_refl, true_and, and_true, decide_true, decide_false, Bool.not_true, Bool.not_false, reduceIte, Nat.reduceEqDiff, Nat.reduceAdd, Nat.reduceMul, Nat.reduceSub, Nat.reduceLeDiff, Nat.reduceLT]
  refine step_row (cs := zr7) (by omega) rfl rfl fun g2 hx2 => ?_
  have n2 := hx2.next
  have f2' := hx2.floor
  have e2 : g2.next = h.next + 2 := by omega
  have w2 := (hx1.row.mono hx2.sub).whole (n := 7) rfl
  simp only [rn0, rn1, rn2, rn3, rn4, rn5, rn6, rn7, rn8, if_true, if_false, Nat.le_refl, true_and, and_true, decide_true, decide_false, Bool.not_true, Bool.not_false, reduceIte, Nat.reduceEqDiff, Nat.reduceAdd, Nat.reduceMul, Nat.reduceSub, Nat.reduceLeDiff, Nat.reduceLT, w2]
  refine step_new (vs := stL S wv vv sv) (by omega) (by omega) rfl (by simp only [rn0, rn1, rn2, rn3, rn4, rn5, rn6, rn7, rn8, if_true, if_false, Nat.le_refl, true_and, and_true, decide_true, decide_false, Bool.not_true, Bool.not_false, reduceIte, Nat.reduceEqDiff, Nat.reduceAdd, Nat.reduceMul, Nat.reduceSub, Nat.reduceLeDiff, Nat.reduceLT]; rfl) hy.one rfl rfl fun g3 hx3 => ?_
  have n3 := hx3.next
  have f3' := hx3.floor
  have hg3 := hx3.get
  simp only [rn0, rn1, rn2, rn3, rn4, rn5, rn6, rn7, rn8, if_true, if_false, Nat.le_refl, true_and, and_true, decide_true, decide_false, Bool.not_true, Bool.not_false, reduceIte, Nat.reduceEqDiff, Nat.reduceAdd, Nat.reduceMul, Nat.reduceSub, Nat.reduceLeDiff, Nat.reduceLT, Nat.zero_add]
  refine step_store (b := g2.next) (off := 6) (vs := [nilS]) rfl hg3 (by omega) (by omega) rfl rfl rfl (by simp [stL]) fun g4 hs4 => ?_
  have hspl : splice (stL S wv vv sv) 6 [nilS] = stL S wv vv nilS := rfl
  rw [hspl] at hs4
  have n4 := hs4.next
  have f4' := hs4.floor
  have o4 : ∀ i, i < h.next + 2 → g4.get i = g2.get i := fun i hi => by rw [hs4.old i (by omega), hx3.old i (by omega)]
  have hsub : Sub All h g4 := AHeap.subOf fun i hi => by rw [o4 i (by omega), hx2.old i (by omega), hx1.old i hi]
  have hold4 : ∀ i, i < h.next → g4.get i = h.get i := fun i hi => by rw [o4 i (by omega), hx2.old i (by omega), hx1.old i hi]
  have hbox : Row g4 h.next (stL S wv vv sv) := by
    obtain ⟨w, gr, e⟩ := hx1.row
    exact ⟨w, gr, by rw [o4 _ (by omega), hx2.old _ (by omega)]; exact e⟩
  have hres : g4.get (h.next + 1) = some (.row zr7 true 0) := by rw [o4 _ (by omega)]; have := hx2.get; rw [e1] at this; exact this
  have hout : g4.get (h.next + 2) = some (.row (stL S wv vv nilS) true 0) := by have := hs4.get; rw [e2] at this; exact this
  have e4 : g4.next = h.next + 3 := by omega
  have ef4 : g4.floor = h.floor := by omega
  rw [e1, e2]
  clear hs4 hx3 hx2 hx1 hg3
  have hall : ∀ {g : AHeap}, Keep (h.next + 2) g4 g → Sub All h g := fun st i cs w gr _ hg => st.sub i cs w gr (by have := AHeap.lt_of_get hg; omega) (hsub _ _ _ _ trivial hg)
  simp only [rn0, rn1, rn2, rn3, rn4, rn5, rn6, rn7, rn8, if_true, if_false, Nat.le_refl, true_and, and_true, decide_true, decide_false, Bool.not_true, Bool.not_false, reduceIte, Nat.reduceEqDiff, Nat.reduceAdd, Nat.reduceMul, Nat.reduceSub, Nat.reduceLeDiff, Nat.reduceLT]
  refine W_loop S.ns (fun k f g m => (∃ X, Keep (h.next + 2) g4 g ∧ (∀ i, i < h.next → g.get i = h.get i) ∧ g.get (h.next + 2) = some (.row (stL S wv vv X) true 0) ∧ GrowC g4.next g X 3 (selTo bits k).length (smC S (selTo bits k)) ∧ g.next ≤ g4.next + 2 * k) ∧ m = [] ∧ f 1 = .int .i64 (bits : Int) ∧ f 2 = .pointer (some ⟨h.next, 0, none⟩) ∧ f 4 = .pointer (some ⟨h.next + 1, 0, none⟩) ∧ f 5 = .pointer (some ⟨h.next + 2, 0, none⟩) ∧ f 6 = .int .i64 (k : Int)) (by simp; omega) ?_ ?_ ?_
  · simp only [rn0, rn1, rn2, rn3, rn4, rn5, rn6, rn7, rn8, if_true, if_false, Nat.le_refl, true_and, and_true, decide_true, decide_false, Bool.not_true, Bool.not_false, reduceIte, Nat.reduceEqDiff, Nat.reduceAdd, Nat.reduceMul, Nat.reduceSub, Nat.reduceLeDiff, Nat.reduceLT]
    first | exact ⟨⟨_, Keep.refl, hold4, hout, .nil, by omega⟩, rfl⟩ | exact ⟨_, Keep.refl, hold4, hout, .nil, by omega⟩
  · rintro k f g m hk ⟨⟨X, st, hold, go, gS, hgn⟩, rfl, f1, f2, f4, f5, f6⟩
    have hk' : (k : Int) < (S.ns : Int) := by omega
    have hw : wrapF .i64 ((k : Int) + 1) = ((k + 1 : Nat) : Int) := by rw [wrap_in (by omega) (by omega)]; rfl
    have hrow : Row g (h.next + 2) (stL S wv vv X) := ⟨_, _, go⟩
    have hbx := hbox.keep st (by omega)
    have hSm := (hy.mono (hall st)).s
    have hup := st.up
    have hfg := st.floor
    have hlk := selTo_len (bits := bits) k
    have hm2 : ((bits / 2 ^ k : Nat) : Int).tmod 2 = ((bits / 2 ^ k % 2 : Nat) : Int) := rfl
    have z2 : ¬ (2 : Int) = 0 := by decide
    by_cases hb : bits / 2 ^ k % 2 = 1
    · have hb' : ((bits / 2 ^ k % 2 : Nat) : Int) = 1 := by omega
      simp only [rn0, rn1, rn2, rn3, rn4, rn5, rn6, rn7, rn8, if_true, if_false, Nat.le_refl, true_and, and_true, decide_true, decide_false, Bool.not_true, Bool.not_false, reduceIte, Nat.reduceEqDiff, Nat.reduceAdd, Nat.reduceMul, Nat.reduceSub, Nat.reduceLeDiff, Nat.reduceLT, f1, f2, f4, f5, f6, hbx.ld, stg, Nat.zero_add, Nat.add_zero, Cells.len hSm, hk', p_uint, r_conv (k := k) (by omega), p_shr, r_shr (a := bits) (k := k) (by omega), valN_tmp, valN_const, Nat.reduceLT, r_rem z2, hm2, hb']
      refine W_draw All ?_
      simp only [rn0, rn1, rn2, rn3, rn4, rn5, rn6, rn7, rn8, if_true, if_false, Nat.le_refl, true_and, and_true, decide_true, decide_false, Bool.not_true, Bool.not_false, reduceIte, Nat.reduceEqDiff, Nat.reduceAdd, Nat.reduceMul, Nat.reduceSub, Nat.reduceLeDiff, Nat.reduceLT, f1, f2, f4, f5, f6, hbx.ld, hrow.ld, stg, Nat.zero_add, Nat.add_zero, gS.cells.self, Cells.idx hSm hk, samps_ld hSm hk, sl_samp]
      refine up_slice (by omega) rfl (fun g1 hx => hx.sub) fun g1 hx => ?_
      have hgx := hx.next
      have hgf := hx.floor
      have hsucc := selTo_yes hb
      have gS1 : GrowC g4.next g1 X 3 (selTo bits k).length (smC S (selTo bits (k + 1))) := (gS.keep (hx.keep (o := h.next + 2)) (by omega)).congr fun i j hi hj => by
        unfold smC
        rw [hsucc, List.getD_eq_getElem?_getD, List.getD_eq_getElem?_getD, List.getElem?_append_left hi]
      have hlast : (selTo bits (k + 1)).getD (selTo bits k).length 0 = k := by rw [hsucc, List.getD_eq_getElem?_getD, List.getElem?_append_right (Nat.le_refl _)]; simp
      obtain ⟨S', g2, e, e', gS', hk2⟩ := gS1.append (bytes := 24) (cap := 1) (by omega) (by omega) (by omega) hx.get rfl rfl (fun j hj => by
        unfold smC
        rw [hlast]
        obtain rfl | rfl | rfl : j = 0 ∨ j = 1 ∨ j = 2 := by omega
        all_goals rfl) (by simp [maxBytes]; omega) (by simp [maxBytes]; omega)
      obtain ⟨st2, go2⟩ := grew (st.trans hx.keep) hk2 (fun a k c e => (gS1.block e).1) (by omega) (hx.sub _ _ _ _ trivial go)
      have hgx2 := hk2.next
      have hgf2 := hk2.floor
      have hl1 : (selTo bits (k + 1)).length = (selTo bits k).length + 1 := by rw [hsucc, List.length_append, List.length_singleton]
      have hold2 : ∀ i, i < h.next → g2.get i = h.get i := fun i hi => by
        rw [hk2.old i (by omega) (fun a k c e => by have := (gS1.block e).1; omega), hx.old i (by omega), hold i hi]
      simp only [rn0, rn1, rn2, rn3, rn4, rn5, rn6, rn7, rn8, if_true, if_false, Nat.le_refl, true_and, and_true, decide_true, decide_false, Bool.not_true, Bool.not_false, reduceIte, Nat.reduceEqDiff, Nat.reduceAdd, Nat.reduceMul, Nat.reduceSub, Nat.reduceLeDiff, Nat.reduceLT, f1, f2, f4, f5, f6, e, Nat.add_zero, Nat.zero_add]
      refine ⟨by omega, up_store (vs := [S']) rfl go2 (by omega) (by omega) (by rw [e']; rfl) (by simp [allB, gS'.one]) rfl (by simp [stL]) (fun _ _ => trivial) fun g3 hs => ?_⟩
      have hgx3 := hs.next
      have hspl : splice (stL S wv vv X) 6 [S'] = stL S wv vv S' := rfl
      have hg3 := hs.get
      rw [hspl] at hg3
      simp only [rn0, rn1, rn2, rn3, rn4, rn5, rn6, rn7, rn8, if_true, if_false, Nat.le_refl, true_and, and_true, decide_true, decide_false, Bool.not_true, Bool.not_false, reduceIte, Nat.reduceEqDiff, Nat.reduceAdd, Nat.reduceMul, Nat.reduceSub, Nat.reduceLeDiff, Nat.reduceLT, f1, f2, f4, f5, f6, hw, Nat.add_zero]
      rw [hl1]
      have hold3 : ∀ i, i < h.next → g3.get i = h.get i := fun i hi => by rw [hs.old i (by omega), hold2 i hi]
      first | exact ⟨⟨_, set_keep st2 hs, hold3, hg3, gS'.keep hs.keep (by omega), by omega⟩, rfl⟩ | exact ⟨_, set_keep st2 hs, hold3, hg3, gS'.keep hs.keep (by omega), by omega⟩
    · have hb' : ¬ ((bits / 2 ^ k % 2 : Nat) : Int) = 1 := by omega
      simp only [rn0, rn1, rn2, rn3, rn4, rn5, rn6, rn7, rn8, if_true, if_false, Nat.le_refl, true_and, and_true, decide_true, decide_false, Bool.not_true, Bool.not_false, reduceIte, Nat.reduceEqDiff, Nat.reduceAdd, Nat.reduceMul, Nat.reduceSub, Nat.reduceLeDiff, Nat.reduceLT, f1, f2, f4, f5, f6, hbx.ld, stg, Nat.zero_add, Nat.add_zero, Cells.len hSm, hk', p_uint, r_conv (k := k) (by omega), p_shr, r_shr (a := bits) (k := k) (by omega), valN_tmp, valN_const, Nat.reduceLT, r_rem z2, hm2, hb', hw]
      rw [selTo_no hb]
      first | exact ⟨⟨_, st, hold, go, gS, by omega⟩, rfl⟩ | exact ⟨_, st, hold, go, gS, by omega⟩
  · rintro f g m ⟨⟨X, st, hold, go, gS, hgn⟩, rfl, f1, f2, f4, f5, f6⟩
    have hbx := hbox.keep st (by omega)
    have hy' := hy.mono (hall st)
    have hup := st.up
    have hfg := st.floor
    have w5 := (show Row g (h.next + 2) (stL S wv vv X) from ⟨_, _, go⟩).whole (n := 7) rfl
    have hyX : SteepR g wv vv X (pickedS S bits) := ⟨hy'.w, hy'.v, gS.cells⟩
    have hone : allB oneCell (stL S wv vv X) = true := hyX.one
    simp only [rn0, rn1, rn2, rn3, rn4, rn5, rn6, rn7, rn8, if_true, if_false, Nat.le_refl, true_and, and_true, decide_true, decide_false, Bool.not_true, Bool.not_false, reduceIte, Nat.reduceEqDiff, Nat.reduceAdd, Nat.reduceMul, Nat.reduceSub, Nat.reduceLeDiff, Nat.reduceLT, f1, f2, f4, f5, f6, hbx.ld, stg, Nat.zero_add, Nat.add_zero, Cells.len hy'.s, Int.lt_irrefl, w5]
    refine step_store (b := h.next + 1) (off := 0) (vs := stL S wv vv X) rfl (st.sub _ _ _ _ (by omega) hres) (by omega) (by omega) rfl hone rfl (by simp [zr7]) fun g5 hs5 => ?_
    have hspl : splice zr7 0 (stL S wv vv X) = stL S wv vv X := rfl
    rw [hspl] at hs5
    have n5 := hs5.next
    have f5' := hs5.floor
    have w6 := hs5.row.whole (n := 7) rfl
    simp only [rn0, rn1, rn2, rn3, rn4, rn5, rn6, rn7, rn8, if_true, if_false, Nat.le_refl, true_and, and_true, decide_true, decide_false, Bool.not_true, Bool.not_false, reduceIte, Nat.reduceEqDiff, Nat.reduceAdd, Nat.reduceMul, Nat.reduceSub, Nat.reduceLeDiff, Nat.reduceLT, f4, w6]
    have k5 : Sub All h g5 := fun i cs w gr _ hg => by
      have hlt := AHeap.lt_of_get hg
      exact hs5.keep.sub _ _ _ _ (by omega) (hall st _ _ _ _ trivial hg)
    have hy5 := hy.mono k5
    exact ⟨_, rfl, ⟨hy5.w, hy5.v, (gS.keep hs5.keep (by omega)).cells⟩, fun i hi => by rw [hs5.old i (by omega), hold i hi], by omega, by omega, by omega⟩
end Go.Vm.St

namespace Go.Vm.St
open Go.Proofs Go.Vm.Vat
set_option linter.unusedSimpArgs false
set_option linter.unusedVariables false
set_option maxRecDepth 10000
variable {n : Nat} {h : AHeap}
theorem allE_mem {S : MS} {c : Nat → Int} : c ∈ allE S ↔ InU S c ∧ ∀ j, numU S ≤ j → c j = 0 := by
  unfold allE
  rw [enumB_ok, Nat.zero_add]
  constructor
  · rintro ⟨h1, h2⟩; exact ⟨fun i hi => h1 i (Nat.zero_le _) hi, fun j hj => h2 j (.inr hj)⟩
  · rintro ⟨h1, h2⟩; exact ⟨fun i _ hi => h1 i hi, fun j hj => h2 j (by omega)⟩
theorem picked_right {S : MS} {b : Nat} {c : Nat → Int} : (∀ k, k < (pickedS S b).ns → RightS (pickedS S b) c k) ↔ ∀ x, x < S.ns → Bit b x → RightS S c x := by
  have hget : ∀ k, k < (selTo b S.ns).length → (selTo b S.ns).getD k 0 ∈ selTo b S.ns := fun k hk => by rw [List.getD_eq_getElem?_getD, List.getElem?_eq_getElem hk]; exact List.getElem_mem hk
  constructor
  · intro hk x hx hb
    obtain ⟨i, hi, he⟩ := List.getElem_of_mem (selTo_mem.2 ⟨hx, hb⟩)
    have := hk i hi
    have e : (selTo b S.ns).getD i 0 = x := by rw [List.getD_eq_getElem?_getD, List.getElem?_eq_getElem hi]; exact he
    have h2 : RightS S c ((selTo b S.ns).getD i 0) := this
    rw [e] at h2; exact h2
  · intro hx k hk
    obtain ⟨h1, h2⟩ := selTo_mem.1 (hget k hk)
    exact hx _ h1 h2
theorem picked_mem {S : MS} {b : Nat} {c : Nat → Int} : c ∈ truthsS (pickedS S b) ↔ c ∈ allE S ∧ ∀ x, x < S.ns → Bit b x → RightS S c x := by
  rw [truths_mem, picked_right, allE_mem]
  exact Iff.rfl
theorem picked_can {S : MS} {b : Nat} : truthsS (pickedS S b) ≠ [] ↔ CanB S b := by
  constructor
  · intro h
    obtain ⟨c, hc⟩ := List.exists_mem_of_ne_nil _ h
    exact ⟨c, picked_mem.1 hc⟩
  · rintro ⟨c, hc⟩ e
    have := picked_mem.2 hc
    rw [e] at this
    cases this
theorem picked_thin {S : MS} {b : Nat} (hT : ThinS S) : ThinS (pickedS S b) := ⟨hT.1, hT.2.1, Nat.le_trans (selTo_len _) hT.2.2⟩
theorem picked_good {S : MS} {b : Nat} (hG : Good S) : Good (pickedS S b) := by
  refine ⟨⟨hG.lim.1, hG.lim.2.1, Nat.le_trans (selTo_len _) hG.lim.2.2⟩, ⟨hG.args.head, hG.args.warm, hG.args.vat, fun k hk => ?_⟩, hG.few⟩
  have hk' : k < (selTo b S.ns).length := hk
  exact hG.args.smell _ (selTo_mem.1 (by rw [List.getD_eq_getElem?_getD, List.getElem?_eq_getElem hk']; exact List.getElem_mem hk')).1
theorem errP_can {S : MS} {b : Nat} (hG : Good S) (hc : CanB S b) : errT (pickedS S b) = 0 := errT_3 (fault_of (picked_good hG)) (picked_can.2 hc)
theorem errP_no {S : MS} {b : Nat} (hG : Good S) (hc : ¬ CanB S b) : errT (pickedS S b) = 11 := errT_2 (fault_of (picked_good hG)) (Classical.byContradiction fun h => hc (picked_can.1 h))
theorem stuckE_11 {S : MS} (he : errT S = 11) : stuckE S = 11 := by unfold stuckE; rw [if_neg (by omega), he]
theorem stuckE_no {S : MS} (he : errT S ≠ 11) : ¬ stuckE S = 11 := by
  unfold stuckE
  by_cases c : errT S = 0
  · rw [if_pos c]; split <;> decide
  · rw [if_neg c]; exact he
def s70 : SCode := (.seq (.ops [⟨(some 1), none, .box (T 0)⟩, ⟨(some 2), none, .mov (.const (.bool false))⟩]) (.seq (.ops [⟨(some 6), none, .loadN 7 (T 1)⟩, ⟨(some 7), none, .call (.func 26) [(T 6)]⟩, ⟨(some 8), none, .call (.func 47) [(T 7)]⟩, ⟨(some 5), none, .mov (T 8)⟩, ⟨(some 9), none, .extract 0 (T 5)⟩, ⟨(some 10), none, .extract 1 (T 5)⟩, ⟨(some 3), none, .mov (T 9)⟩, ⟨(some 4), none, .mov (T 10)⟩]) (.seq (.ops [⟨(some 11), none, .mov (T 4)⟩, ⟨(some 12), none, .int2 .eql (T 11) (.const (.int .i64 (0)))⟩, ⟨(some 13), none, .mov (T 12)⟩, ⟨(some 14), (some (13, false)), .mov (T 4)⟩, ⟨(some 15), (some (13, false)), .int2 .eql (T 14) (.const (.int .i64 (7)))⟩, ⟨(some 16), none, .pick (T 13) (.const (.bool true)) (T 15)⟩, ⟨(some 2), none, .mov (T 16)⟩]) .ret)))
theorem fok70 : FnOk Try.prog 70 17 s70 [.tmp 2] := ⟨Try.f70, _, Try.func70, rfl, Try.ntmps70, by kernel_rfl, by kernel_rfl⟩
theorem can_c (hn : 2600 ≤ n) (hr : h.next + 1300000 < far) {wv vv sv : Value} {S : MS} (hy : SteepR h wv vv sv S) (hT : ThinS S) :
    call n (.func (.func 70) #[] #[]) [.agg ⟨stL S wv vv sv⟩] h = some (.bool (decide (errT S = 0)), h) := by
  obtain ⟨n, rfl⟩ : ∃ p, n = p + 1 := ⟨n - 1, by omega⟩
  refine call_plain0 fok70 rfl rfl (by simp) rfl ?_
  have hy := hy.shut
  have hr : h.shutAll.next + 1300000 < far := hr
  have hfl : h.shutAll.floor ≤ h.shutAll.next := Nat.le_refl _
  generalize h.shutAll = h at hy hr hfl
  simp only [s70, W_seq, W_ops]
  refine ops_box (cs := stL S wv vv sv) (by omega) rfl hy.one fun g1 hx1 => ?_
  have n1 := hx1.next
  have f1 := hx1.floor
  obtain ⟨w2, v2, s2, g2, e2, hy2, o2, u2, m2, f2⟩ := steepL_c (n := n) (h := g1) (by omega) (by omega) (by omega) (hy.mono hx1.sub) hT
  have eg := stuckP_c (n := n) (h := g2) (by omega) (by omega) hy2 hT
  simp only [rn0, rn1, rn2, rn3, rn4, rn5, rn6, rn7, rn8, if_true, if_false, Nat.le_refl, true_and, and_true, decide_true, decide_false, Bool.not_true, Bool.not_false, reduceIte, Nat.reduceEqDiff, Nat.reduceAdd, Nat.reduceMul, Nat.reduceSub, Nat.reduceLeDiff, Nat.reduceLT, hx1.row.whole (n := 7) rfl, e2, eg, ex0, ex1]
  by_cases he : errT S = 0
  · rw [decide_eq_true he]
    by_cases c : nilF S S.nv = none
    · have q : stuckE S = 7 := by unfold stuckE; rw [if_pos he, if_pos c]
      simp only [rn0, rn1, rn2, rn3, rn4, rn5, rn6, rn7, rn8, if_true, if_false, Nat.le_refl, true_and, and_true, decide_true, decide_false, Bool.not_true, Bool.not_false, reduceIte, Nat.reduceEqDiff, Nat.reduceAdd, Nat.reduceMul, Nat.reduceSub, Nat.reduceLeDiff, Nat.reduceLT, q, Int.reduceEq]
    · have q : stuckE S = 0 := by unfold stuckE; rw [if_pos he, if_neg c]
      simp only [rn0, rn1, rn2, rn3, rn4, rn5, rn6, rn7, rn8, if_true, if_false, Nat.le_refl, true_and, and_true, decide_true, decide_false, Bool.not_true, Bool.not_false, reduceIte, Nat.reduceEqDiff, Nat.reduceAdd, Nat.reduceMul, Nat.reduceSub, Nat.reduceLeDiff, Nat.reduceLT, q, Int.reduceEq, g_un]
  · rw [decide_eq_false he]
    have q : stuckE S = errT S := if_neg he
    have q0 : ¬ stuckE S = 0 := by rw [q]; exact he
    have q7 : ¬ stuckE S = 7 := by rw [q]; have := errT_vals S; omega
    simp only [rn0, rn1, rn2, rn3, rn4, rn5, rn6, rn7, rn8, if_true, if_false, Nat.le_refl, true_and, and_true, decide_true, decide_false, Bool.not_true, Bool.not_false, reduceIte, Nat.reduceEqDiff, Nat.reduceAdd, Nat.reduceMul, Nat.reduceSub, Nat.reduceLeDiff, Nat.reduceLT, q0, q7]
end Go.Vm.St

namespace Go.Vm.St
open Go.Proofs Go.Vm.Vat
set_option linter.unusedSimpArgs false
set_option linter.unusedVariables false
set_option maxRecDepth 10000
variable {n : Nat} {h : AHeap}
theorem leave_up {S : MS} (hG : Good S) {i : Nat} (hi : i + 1 < (leaveS S).length) : atL (leaveS S) i < atL (leaveS S) (i + 1) := by
  obtain ⟨⟨t, _, hl⟩, _⟩ := leaveS_min hG
  have hp : leaveS S = pickL (wrS S t) S.ns := hl
  rw [hp] at hi ⊢
  exact pick_up hi
def s22 : SCode := (.seq (.ops [⟨(some 2), none, .box (T 0)⟩, ⟨(some 4), none, .mov (.const (.bool false))⟩]) (.seq (.seq (.ops [⟨(some 13), none, .loadN 7 (T 2)⟩, ⟨(some 14), none, .call (.func 59) [(T 13)]⟩, ⟨(some 15), none, .not (T 14)⟩]) (.cond (T 15) (.seq (.ops [⟨(some 16), none, .call (.func 24) []⟩, ⟨(some 4), none, .mov (T 16)⟩]) .ret) .skip)) (.seq (.ops [⟨(some 18), none, .loadN 7 (T 2)⟩, ⟨(some 19), none, .call (.func 26) [(T 18)]⟩, ⟨(some 20), none, .call (.func 52) [(T 19)]⟩, ⟨(some 17), none, .mov (T 20)⟩, ⟨(some 21), none, .extract 0 (T 17)⟩, ⟨(some 22), none, .extract 1 (T 17)⟩, ⟨(some 5), none, .mov (T 21)⟩, ⟨(some 6), none, .mov (T 22)⟩]) (.seq (.seq (.ops [⟨(some 23), none, .mov (T 6)⟩, ⟨(some 24), none, .int2 .neq (T 23) (.const (.int .i64 (0)))⟩]) (.cond (T 24) (.seq (.ops [⟨(some 4), none, .mov (.const (.bool false))⟩]) .ret) .skip)) (.seq (.ops [⟨(some 7), none, .mov (.const (.int .i64 (0)))⟩]) (.seq (.seq (.ops [⟨(some 8), none, .mov (.const (.int .i64 (0)))⟩]) (.block 0 (.loop (.seq (.seq (.ops [⟨(some 25), none, .mov (T 8)⟩, ⟨(some 26), none, .mov (T 5)⟩, ⟨(some 27), none, .len (T 26)⟩, ⟨(some 28), none, .int2 .lss (T 25) (T 27)⟩]) (.cond (T 28) .skip (.exit 0))) (.seq (.block 1 (.seq (.seq (.draw [⟨.free, ⟨(some 31), none, .mov (T 5)⟩⟩, ⟨.free, ⟨(some 32), none, .mov (T 8)⟩⟩, ⟨.free, ⟨(some 33), none, .idxSl 1 (T 31) (T 32)⟩⟩, ⟨.rd1, ⟨(some 34), none, .load1 (T 33)⟩⟩, ⟨.free, ⟨(some 35), none, .int2 .lss (T 34) (.const (.int .i64 (0)))⟩⟩, ⟨.free, ⟨(some 36), none, .mov (T 35)⟩⟩, ⟨.free, ⟨(some 37), (some (36, false)), .mov (T 5)⟩⟩, ⟨.free, ⟨(some 38), (some (36, false)), .mov (T 8)⟩⟩, ⟨.free, ⟨(some 39), (some (36, false)), .idxSl 1 (T 37) (T 38)⟩⟩, ⟨.rd1, ⟨(some 40), (some (36, false)), .load1 (T 39)⟩⟩, ⟨.free, ⟨(some 41), (some (36, false)), .fieldAddr 6 (T 2)⟩⟩, ⟨.rd1, ⟨(some 42), (some (36, false)), .load1 (T 41)⟩⟩, ⟨.free, ⟨(some 43), (some (36, false)), .len (T 42)⟩⟩, ⟨.free, ⟨(some 44), (some (36, false)), .int2 .geq (T 40) (T 43)⟩⟩, ⟨.free, ⟨(some 45), none, .pick (T 36) (.const (.bool true)) (T 44)⟩⟩, ⟨.free, ⟨(some 46), none, .mov (T 45)⟩⟩, ⟨.free, ⟨(some 47), (some (46, false)), .mov (T 8)⟩⟩, ⟨.free, ⟨(some 48), (some (46, false)), .int2 .gtr (T 47) (.const (.int .i64 (0)))⟩⟩, ⟨.free, ⟨(some 49), (some (46, false)), .mov (T 48)⟩⟩, ⟨.free, ⟨(some 50), (some (49, true)), .mov (T 5)⟩⟩, ⟨.free, ⟨(some 51), (some (49, true)), .mov (T 8)⟩⟩, ⟨.free, ⟨(some 52), (some (49, true)), .idxSl 1 (T 50) (T 51)⟩⟩, ⟨.rd1, ⟨(some 53), (some (49, true)), .load1 (T 52)⟩⟩, ⟨.free, ⟨(some 54), (some (49, true)), .mov (T 5)⟩⟩, ⟨.free, ⟨(some 55), (some (49, true)), .mov (T 8)⟩⟩, ⟨.free, ⟨(some 56), (some (49, true)), .int2 .sub (T 55) (.const (.int .i64 (1)))⟩⟩, ⟨.free, ⟨(some 57), (some (49, true)), .idxSl 1 (T 54) (T 56)⟩⟩, ⟨.rd1, ⟨(some 58), (some (49, true)), .load1 (T 57)⟩⟩, ⟨.free, ⟨(some 59), (some (49, true)), .int2 .leq (T 53) (T 58)⟩⟩, ⟨.free, ⟨(some 60), (some (46, false)), .pick (T 49) (T 59) (.const (.bool false))⟩⟩, ⟨.free, ⟨(some 61), none, .pick (T 46) (.const (.bool true)) (T 60)⟩⟩]) (.cond (T 61) (.seq (.ops [⟨(some 4), none, .mov (.const (.bool false))⟩]) .ret) .skip)) (.ops [⟨(some 62), none, .mov (T 7)⟩, ⟨(some 63), none, .mov (T 5)⟩, ⟨(some 64), none, .mov (T 8)⟩, ⟨(some 65), none, .idxSl 1 (T 63) (T 64)⟩, ⟨(some 66), none, .load1 (T 65)⟩, ⟨(some 67), none, .plain (.convert 3 114 (T 66)) 114⟩, ⟨(some 68), none, .plain (.binOp .shl 3 (.const (.int .i64 (1))) (T 67) 114) 3⟩, ⟨(some 69), none, .plain (.binOp .or 3 (T 62) (T 68) 3) 3⟩, ⟨(some 7), none, .mov (T 69)⟩]))) (.ops [⟨(some 29), none, .mov (T 8)⟩, ⟨(some 30), none, .int2 .add (T 29) (.const (.int .i64 (1)))⟩, ⟨(some 8), none, .mov (T 30)⟩])))))) (.seq (.ops [⟨(some 70), none, .mov (T 1)⟩, ⟨(some 71), none, .plain (.convert 5 3 (T 70)) 3⟩, ⟨(some 72), none, .loadN 7 (T 2)⟩, ⟨(some 73), none, .call (.func 72) [(T 72)]⟩, ⟨(some 74), none, .plain (.binOp .and 3 (T 71) (T 73) 3) 3⟩, ⟨(some 9), none, .mov (T 74)⟩]) (.seq (.draw [⟨.rd, ⟨(some 75), none, .loadN 7 (T 2)⟩⟩, ⟨.rd1, ⟨(some 76), none, .loadN 7 (T 2)⟩⟩, ⟨.up, ⟨(some 77), none, .call (.func 72) [(T 76)]⟩⟩, ⟨.free, ⟨(some 78), none, .mov (T 9)⟩⟩, ⟨.free, ⟨(some 79), none, .plain (.binOp .andNot 3 (T 77) (T 78) 3) 3⟩⟩, ⟨.any, ⟨(some 80), none, .call (.func 71) [(T 75), (T 79)]⟩⟩, ⟨.any, ⟨(some 10), none, .alloc [(.int .i64 (0)), (.int .i64 (0)), (.slice none 0 0), (.int .i64 (0)), (.int .i64 (0)), (.slice none 0 0), (.slice none 0 0)]⟩⟩, ⟨.any, ⟨none, none, .store 7 (T 10) (T 80)⟩⟩]) (.seq (.ops [⟨(some 82), none, .loadN 7 (T 10)⟩, ⟨(some 83), none, .call (.func 26) [(T 82)]⟩, ⟨(some 84), none, .call (.func 47) [(T 83)]⟩, ⟨(some 81), none, .mov (T 84)⟩, ⟨(some 85), none, .extract 0 (T 81)⟩, ⟨(some 86), none, .extract 1 (T 81)⟩, ⟨(some 11), none, .mov (T 85)⟩, ⟨(some 12), none, .mov (T 86)⟩]) (.seq (.draw [⟨.rd, ⟨(some 87), none, .loadN 7 (T 2)⟩⟩, ⟨.rd1, ⟨(some 88), none, .loadN 7 (T 2)⟩⟩, ⟨.up, ⟨(some 89), none, .call (.func 72) [(T 88)]⟩⟩, ⟨.free, ⟨(some 90), none, .mov (T 7)⟩⟩, ⟨.free, ⟨(some 91), none, .plain (.binOp .andNot 3 (T 89) (T 90) 3) 3⟩⟩, ⟨.up, ⟨(some 92), none, .call (.func 71) [(T 87), (T 91)]⟩⟩, ⟨.up, ⟨(some 93), none, .call (.func 70) [(T 92)]⟩⟩, ⟨.free, ⟨(some 94), none, .mov (T 93)⟩⟩, ⟨.free, ⟨(some 95), (some (94, true)), .mov (T 12)⟩⟩, ⟨.free, ⟨(some 96), (some (94, true)), .int2 .eql (T 95) (.const (.int .i64 (11)))⟩⟩, ⟨.free, ⟨(some 97), (some (94, true)), .mov (T 96)⟩⟩, ⟨.rd1, ⟨(some 98), (some (97, false)), .loadN 7 (T 10)⟩⟩, ⟨.any, ⟨(some 99), (some (97, false)), .call (.func 70) [(T 98)]⟩⟩, ⟨.free, ⟨(some 100), (some (97, false)), .mov (T 99)⟩⟩, ⟨.free, ⟨(some 101), (some (100, true)), .mov (T 9)⟩⟩, ⟨.any, ⟨(some 102), (some (100, true)), .call (.func 74) [(T 101)]⟩⟩, ⟨.free, ⟨(some 103), (some (100, true)), .mov (T 5)⟩⟩, ⟨.any, ⟨(some 104), (some (100, true)), .call (.func 73) [(T 102), (T 103)]⟩⟩, ⟨.free, ⟨(some 105), (some (100, true)), .not (T 104)⟩⟩, ⟨.free, ⟨(some 106), (some (97, false)), .pick (T 100) (T 105) (.const (.bool false))⟩⟩, ⟨.free, ⟨(some 107), (some (94, true)), .pick (T 97) (.const (.bool true)) (T 106)⟩⟩, ⟨.free, ⟨(some 108), none, .pick (T 94) (T 107) (.const (.bool false))⟩⟩, ⟨.free, ⟨(some 109), none, .mov (T 108)⟩⟩, ⟨.any, ⟨(some 110), (some (109, true)), .call (.func 24) []⟩⟩, ⟨.free, ⟨(some 111), none, .pick (T 109) (T 110) (.const (.bool false))⟩⟩, ⟨.free, ⟨(some 4), none, .mov (T 111)⟩⟩]) .ret))))))))))
theorem fok22 : FnOk Try.prog 22 112 s22 [.tmp 4] := ⟨Try.f22, _, Try.func22, rfl, Try.ntmps22, by kernel_rfl, by kernel_rfl⟩
set_option maxHeartbeats 4000000 in
theorem leftL_m (hn : 3290 ≤ n) (hr : h.next + 6000000 < far) (hfl : h.floor ≤ h.next) {wv vv sv : Value} {S : MS} (hy : SteepR h wv vv sv S) (hth : ThinS S) (hf : faultS S = 0) {a1 : Nat} (w1 : a1 < 256) :
    ∃ v h', call n (.func (.func 22) #[] #[]) [.agg ⟨stL S wv vv sv⟩, .int .u8 (a1 : Int)] h = some (v, h') ∧ v = .bool true := by
  obtain ⟨n, rfl⟩ : ∃ p, n = p + 1 := ⟨n - 1, by omega⟩
  refine call_any0 fok22 rfl rfl (by simp) ?_
  simp only [s22, W_seq, W_ops]
  refine ops_box (cs := stL S wv vv sv) (by omega) rfl hy.one fun g1 hx1 => ?_
  have n1 := hx1.next
  have f1 := hx1.floor
  have hy1 := hy.mono hx1.sub
  have r1 := hx1.row
  have er := ready_c (n := n) (h := g1) (by omega) (by omega) hy1
  rw [decide_eq_true (show ThinS S ∧ faultS S = 0 from ⟨hth, hf⟩)] at er
  have hG := good_of hf
  obtain ⟨_, _, _, _, _, z7, _⟩ := hG.sizes
  obtain ⟨w2, v2, s2, g2, e2, hy2, o2, u2, m2, f2⟩ := steepL_c (n := n) (h := g1) (by omega) (by omega) (by omega) hy1 hth
  obtain ⟨lv, g3, el, o3, u3, m3, f3, hL⟩ := leaveP_c (n := n) (h := g2) (by omega) (by omega) (by omega) hy2 hth
  rcases hL with ⟨h0, _⟩ | ⟨_, l, rfl, hl, ol⟩
  · exact absurd hf h0
  have s3 : Sub All g1 g3 := (AHeap.subOf o2).trans (AHeap.subOf o3)
  have r3 := r1.mono s3
  have x3 := r3.whole (n := 7) rfl
  have hy3 := hy1.mono s3
  simp only [rn0, rn1, rn2, rn3, rn4, rn5, rn6, rn7, rn8, if_true, if_false, Nat.le_refl, true_and, and_true, decide_true, decide_false, Bool.not_true, Bool.not_false, reduceIte, Nat.reduceEqDiff, Nat.reduceAdd, Nat.reduceMul, Nat.reduceSub, Nat.reduceLeDiff, Nat.reduceLT, Int.reduceEq, r1.whole (n := 7) rfl, er, e2, el, ex0, ex1]
  obtain ⟨L, hLL⟩ : ∃ L, L = leaveS S := ⟨_, rfl⟩
  have hat : ∀ i, i < L.length → ∃ j : Nat, j < S.ns ∧ atL L i = (j : Int) := fun i hi => by rw [hLL] at hi ⊢; exact leave_at hG hi
  have hupL : ∀ i, i + 1 < L.length → atL L i < atL L (i + 1) := fun i hi => by rw [hLL] at hi ⊢; exact leave_up hG hi
  have hl5 : L.length ≤ 5 := by rw [hLL]; have := leaveS_len hG; omega
  rw [← hLL] at hl
  have hblt : ∀ k, k ≤ L.length → bitsOf L k < 2 ^ 10 := fun k hk => bitsOf_lt fun i hi => by obtain ⟨j, j1, j2⟩ := hat i (by omega); rw [j2]; simp; omega
  refine W_loop L.length (fun k f g ms => g = g3 ∧ ms = [] ∧ f 1 = .int .u8 (a1 : Int) ∧ f 2 = .pointer (some ⟨h.next, 0, none⟩) ∧ f 5 = l ∧ f 7 = .int .i64 ((bitsOf L k : Nat) : Int) ∧ f 8 = .int .i64 (k : Int)) (by simp; omega) ?_ ?_ ?_
  · simp only [rn0, rn1, rn2, rn3, rn4, rn5, rn6, rn7, rn8, if_true, if_false, Nat.le_refl, true_and, and_true, decide_true, decide_false, Bool.not_true, Bool.not_false, reduceIte, Nat.reduceEqDiff, Nat.reduceAdd, Nat.reduceMul, Nat.reduceSub, Nat.reduceLeDiff, Nat.reduceLT]
    first | done | rfl | exact ⟨rfl, rfl⟩
  · rintro k f g ms hk ⟨rfl, rfl, p1, p2, p5, p7, p8⟩
    have hk' : (k : Int) < (L.length : Int) := by omega
    have hw : wrapF .i64 ((k : Int) + 1) = ((k + 1 : Nat) : Int) := by rw [wrap_in (by omega) (by omega)]; rfl
    obtain ⟨j, j1, j2⟩ := hat k hk
    have lk := Cells.ld hl hk Nat.zero_lt_one
    rw [j2] at lk
    have hj1 : ¬ (j : Int) < 0 := by omega
    have hj2 : ¬ (S.ns : Int) ≤ (j : Int) := by omega
    have hbk := hblt k (by omega)
    have hb2 : bitsOf L k ||| 2 ^ j = bitsOf L (k + 1) := by rw [bitsOf, j2]; simp
    have h2j : (2 ^ j : Nat) < 2 ^ 62 := Nat.pow_lt_pow_right (by omega) (by omega)
    have hor : ∀ other, run2 orF other (.int .i64 ((bitsOf L k : Nat) : Int)) (.int .i64 ((2 ^ j : Nat) : Int)) g = some (.int .i64 ((bitsOf L (k + 1) : Nat) : Int), g) := fun other => by rw [← hb2]; exact r_or (by omega) h2j
    simp only [rn0, rn1, rn2, rn3, rn4, rn5, rn6, rn7, rn8, if_true, if_false, Nat.le_refl, true_and, and_true, decide_true, decide_false, Bool.not_true, Bool.not_false, reduceIte, Nat.reduceEqDiff, Nat.reduceAdd, Nat.reduceMul, Nat.reduceSub, Nat.reduceLeDiff, Nat.reduceLT, p1, p2, p5, p7, p8, Cells.len hl, hk']
    refine W_draw All ?_
    by_cases hk0 : k = 0
    · have hk0' : ¬ (0 : Int) < (k : Int) := by omega
      simp only [rn0, rn1, rn2, rn3, rn4, rn5, rn6, rn7, rn8, if_true, if_false, Nat.le_refl, true_and, and_true, decide_true, decide_false, Bool.not_true, Bool.not_false, reduceIte, Nat.reduceEqDiff, Nat.reduceAdd, Nat.reduceMul, Nat.reduceSub, Nat.reduceLeDiff, Nat.reduceLT, p1, p2, p5, p7, p8, d_guard, dg_tt, dg_tf, dg_ft, dg_ff, dg_un, r3.ld, stg, Nat.zero_add, Cells.idx hl hk, lk, hj1, hj2, Cells.len hy3.s, hk0', p_uint, r_conv (k := j) (by omega), r_shl (k := j) (by omega), p_or, hor, valN_tmp, valN_const, hw]
    · have hk0' : (0 : Int) < (k : Int) := by omega
      obtain ⟨i, hi⟩ : ∃ i, k = i + 1 := ⟨k - 1, by omega⟩
      have hw1 : wrapF .i64 ((k : Int) - 1) = (i : Int) := by rw [wrap_in (by omega) (by omega)]; omega
      have li := Cells.ld hl (k := i) (by omega) Nat.zero_lt_one
      have hlt := hupL i (by omega)
      rw [← hi, j2] at hlt
      have hle : ¬ (j : Int) ≤ atL L i := by omega
      simp only [rn0, rn1, rn2, rn3, rn4, rn5, rn6, rn7, rn8, if_true, if_false, Nat.le_refl, true_and, and_true, decide_true, decide_false, Bool.not_true, Bool.not_false, reduceIte, Nat.reduceEqDiff, Nat.reduceAdd, Nat.reduceMul, Nat.reduceSub, Nat.reduceLeDiff, Nat.reduceLT, p1, p2, p5, p7, p8, d_guard, dg_tt, dg_tf, dg_ft, dg_ff, dg_un, r3.ld, stg, Nat.zero_add, Cells.idx hl hk, lk, hj1, hj2, Cells.len hy3.s, hk0', hw1, Cells.idx hl (k := i) (by omega), li, hle, p_uint, r_conv (k := j) (by omega), r_shl (k := j) (by omega), p_or, hor, valN_tmp, valN_const, hw]
  · rintro f g ms ⟨rfl, rfl, p1, p2, p5, p7, p8⟩
    have hbl := hblt L.length (Nat.le_refl _)
    have efull := full_c (n := n) (h := g) (by omega) (by omega) hy3 (by omega)
    have hp : (2 ^ S.ns : Nat) ≤ 2 ^ 5 := Nat.pow_le_pow_right (by omega) z7
    have hp0 : 0 < (2 ^ S.ns : Nat) := Nat.pow_pos (by omega)
    obtain ⟨Fu, hFu⟩ : ∃ F, F = 2 ^ S.ns - 1 := ⟨_, rfl⟩
    have hFl : Fu < 2 ^ 62 := by omega
    obtain ⟨nb, hnb⟩ : ∃ b, b = a1 &&& Fu := ⟨_, rfl⟩
    have hnl : nb < 2 ^ S.ns := by rw [hnb, hFu]; exact Nat.lt_of_le_of_lt Nat.and_le_right (by omega)
    have hand : ∀ other g, run2 andF other (.int .i64 (a1 : Int)) (.int .i64 (Fu : Int)) g = some (.int .i64 (nb : Int), g) := fun other g => by rw [hnb]; exact r_and (by omega) hFl
    obtain ⟨Bv, hBv⟩ : ∃ b, b = bitsOf L L.length := ⟨_, rfl⟩
    rw [← hBv] at p7
    rw [← hFu] at efull
    have c1 : CanB S (offN Fu Bv) := by rw [hFu, hBv, hLL]; exact left_f hG
    obtain ⟨q4, g4, e4, hy4, o4, u4, m4, f4⟩ := some_c (n := n) (h := g) (bits := offN Fu nb) (by omega) (by omega) (by omega) hy3 z7
    have s4 : Sub All g g4 := AHeap.subOf o4
    simp only [rn0, rn1, rn2, rn3, rn4, rn5, rn6, rn7, rn8, if_true, if_false, Nat.le_refl, true_and, and_true, decide_true, decide_false, Bool.not_true, Bool.not_false, reduceIte, Nat.reduceEqDiff, Nat.reduceAdd, Nat.reduceMul, Nat.reduceSub, Nat.reduceLeDiff, Nat.reduceLT, p1, p2, p5, p7, p8, Cells.len hl, Int.lt_irrefl, p_conv8, r_8 w1, valN_tmp, valN_const, Nat.reduceLT, x3, efull, p_and, hand]
    refine W_draw All ?_
    simp only [rn0, rn1, rn2, rn3, rn4, rn5, rn6, rn7, rn8, if_true, if_false, Nat.le_refl, true_and, and_true, decide_true, decide_false, Bool.not_true, Bool.not_false, reduceIte, Nat.reduceEqDiff, Nat.reduceAdd, Nat.reduceMul, Nat.reduceSub, Nat.reduceLeDiff, Nat.reduceLT, p1, p2, p5, p7, p8, x3, hy3.self, efull, p_andNot, r_andNot (a := Fu) (b := nb) hFl, valN_tmp, valN_const, Nat.reduceLT, e4]
    refine ⟨u4, ?_⟩
    refine up_row (cs := zr7) (by omega) rfl rfl (fun g hx => trivial) fun g5 hx5 => ?_
    have n5 := hx5.next
    have f5 := hx5.floor
    simp only [rn0, rn1, rn2, rn3, rn4, rn5, rn6, rn7, rn8, if_true, if_false, Nat.le_refl, true_and, and_true, decide_true, decide_false, Bool.not_true, Bool.not_false, reduceIte, Nat.reduceEqDiff, Nat.reduceAdd, Nat.reduceMul, Nat.reduceSub, Nat.reduceLeDiff, Nat.reduceLT]
    refine up_store (b := g4.next) (off := 0) (vs := stL (pickedS S (offN Fu nb)) wv vv q4) rfl hx5.get (by omega) (by omega) rfl hy4.one rfl (by simp [zr7]) (fun g hs => trivial) fun g6 hs6 => ?_
    have hspl : splice zr7 0 (stL (pickedS S (offN Fu nb)) wv vv q4) = stL (pickedS S (offN Fu nb)) wv vv q4 := rfl
    rw [hspl] at hs6
    have n6 := hs6.next
    have f6 := hs6.floor
    have s6 : Sub All g g6 := fun i cs w gr _ hg => by have := AHeap.lt_of_get hg; rw [hs6.old i (by omega), hx5.old i (by omega)]; exact s4 _ _ _ _ trivial hg
    have s46 : Sub All g4 g6 := fun i cs w gr _ hg => by have := AHeap.lt_of_get hg; rw [hs6.old i (by omega), hx5.old i (by omega)]; exact hg
    have t6 := hs6.row
    obtain ⟨w7, v7, q7, g7, e7, hy7, o7, u7, m7, f7⟩ := steepL_c (n := n) (h := g6) (by omega) (by omega) (by omega) (hy4.mono s46) (picked_thin hth)
    have es := stuckP_c (n := n) (h := g7) (by omega) (by omega) hy7 (picked_thin hth)
    have s7 : Sub All g6 g7 := AHeap.subOf o7
    have sg7 := s6.trans s7
    have x7 := (r3.mono sg7).whole (n := 7) rfl
    have hy7' := hy3.mono sg7
    have efull7 := full_c (n := n) (h := g7) (by omega) (by omega) hy7' (by omega)
    rw [← hFu] at efull7
    obtain ⟨q8, g8, e8, hy8, o8, u8, m8, f8⟩ := some_c (n := n) (h := g7) (bits := offN Fu Bv) (by omega) (by omega) (by omega) hy7' z7
    have s8 : Sub All g7 g8 := AHeap.subOf o8
    have ec := can_c (n := n) (h := g8) (by omega) (by omega) hy8 (picked_thin hth)
    rw [decide_eq_true (errP_can hG c1)] at ec
    have t8 := (t6.mono (s7.trans s8))
    have hyP8 := hy4.mono (s46.trans (s7.trans s8))
    have ec2 := can_c (n := n) (h := g8) (by omega) (by omega) hyP8 (picked_thin hth)
    simp only [rn0, rn1, rn2, rn3, rn4, rn5, rn6, rn7, rn8, if_true, if_false, Nat.le_refl, true_and, and_true, decide_true, decide_false, Bool.not_true, Bool.not_false, reduceIte, Nat.reduceEqDiff, Nat.reduceAdd, Nat.reduceMul, Nat.reduceSub, Nat.reduceLeDiff, Nat.reduceLT, t6.whole (n := 7) rfl, e7, es, ex0, ex1]
    refine W_draw All ?_
    by_cases c2 : CanB S (offN Fu nb)
    · have z11 : ¬ stuckE (pickedS S (offN Fu nb)) = 11 := stuckE_no (by rw [errP_can hG c2]; decide)
      rw [decide_eq_true (errP_can hG c2)] at ec2
      obtain ⟨bs, g10, eb10, hb10, ho10, n10, u10, f10⟩ := bits_c (n := n) (h := g8) (b := nb) (B := S.ns) (by omega) (by omega) (by omega) hnl (by omega)
      have s10 : Sub All g g10 := sg7.trans (s8.trans (AHeap.subOf ho10))
      have hl10 := Cells.mono hl s10
      have hpl := pick_len (p := Bit nb) S.ns
      have esh := shorter_c (n := n) (h := g10) (by omega) (by omega) (by omega) hb10 hl10
      have hsh : decide (Shortlex (atL (pickL (Bit nb) S.ns)) (pickL (Bit nb) S.ns).length (atL L) L.length) = false := decide_eq_false (by rw [hLL]; exact left_g hG (by rw [← hFu]; exact c2))
      rw [hsh] at esh
      have haw := awake_c (n := n) (h := g10) (by omega)
      simp only [rn0, rn1, rn2, rn3, rn4, rn5, rn6, rn7, rn8, if_true, if_false, Nat.le_refl, true_and, and_true, decide_true, decide_false, Bool.not_true, Bool.not_false, reduceIte, Nat.reduceEqDiff, Nat.reduceAdd, Nat.reduceMul, Nat.reduceSub, Nat.reduceLeDiff, Nat.reduceLT, p1, p2, p5, p7, p8, x7, hy7'.self, efull7, p_andNot, r_andNot (a := Fu) (b := Bv) hFl, valN_tmp, valN_const, Nat.reduceLT, e8, ec, d_guard, dg_tt, dg_tf, dg_ft, dg_ff, dg_un, g_un, z11, t8.whole (n := 7) rfl, (t6.mono s7).whole (n := 7) rfl, hyP8.self, ec2, eb10, esh, haw]
      first | exact ⟨⟨u8, s8⟩, s8, u10⟩ | exact ⟨⟨u8, s8⟩, s8⟩ | trace_state
    · have z11 : stuckE (pickedS S (offN Fu nb)) = 11 := stuckE_11 (errP_no hG c2)
      have haw := awake_c (n := n) (h := g8) (by omega)
      simp only [rn0, rn1, rn2, rn3, rn4, rn5, rn6, rn7, rn8, if_true, if_false, Nat.le_refl, true_and, and_true, decide_true, decide_false, Bool.not_true, Bool.not_false, reduceIte, Nat.reduceEqDiff, Nat.reduceAdd, Nat.reduceMul, Nat.reduceSub, Nat.reduceLeDiff, Nat.reduceLT, p1, p2, p5, p7, p8, x7, hy7'.self, efull7, p_andNot, r_andNot (a := Fu) (b := Bv) hFl, valN_tmp, valN_const, Nat.reduceLT, e8, ec, d_guard, dg_tt, dg_tf, dg_ft, dg_ff, dg_un, g_un, z11, haw]
      first | exact ⟨⟨u8, s8⟩, s8⟩ | trace_state
theorem leftL_c (hn : 3300 ≤ n) (hr : h.next + 6000000 < far) (hfl : h.floor ≤ h.next) {wv vv sv : Value} {S : MS} (hy : SteepR h wv vv sv S) (a1 : Int) (wf1 : (Lit.int .u8 a1).wf = true) :
    ∃ v h', call n (.func (.func 22) #[] #[]) [.agg ⟨stL S wv vv sv⟩, .int .u8 a1] h = some (v, h') ∧ v = .bool true := by
  obtain ⟨k1, rfl, h1⟩ := wf8 wf1
  by_cases c1 : ThinS S ∧ faultS S = 0
  · exact leftL_m (by omega) hr hfl hy c1.1 c1.2 h1
  obtain ⟨n, rfl⟩ : ∃ p, n = p + 1 := ⟨n - 1, by omega⟩
  refine call_any0 fok22 rfl rfl (by simp) ?_
  simp only [s22, W_seq, W_ops]
  refine ops_box (cs := stL S wv vv sv) (by omega) rfl hy.one fun g1 hx1 => ?_
  have n1 := hx1.next
  have hy1 := hy.mono hx1.sub
  have er := ready_c (n := n) (h := g1) (by omega) (by omega) hy1
  rw [decide_eq_false c1] at er
  simp only [rn0, rn1, rn2, rn3, rn4, rn5, rn6, rn7, rn8, if_true, if_false, Nat.le_refl, true_and, and_true, decide_true, decide_false, Bool.not_true, Bool.not_false, reduceIte, Nat.reduceEqDiff, Nat.reduceAdd, Nat.reduceMul, Nat.reduceSub, Nat.reduceLeDiff, Nat.reduceLT, hx1.row.whole (n := 7) rfl, er, awake_c (n := n) (h := g1) (by omega)]
end Go.Vm.St
