/- Texts of the proofs of this seat, put together: StSmall2, StRef4, StLeaveP, StSome, StFirstL, StWiderP, StWiderM, StWiderL, StMoreP, StMoreL. -/
import Derived.Test.YtffgdpkogokdhaaPk16

namespace Go.Vm.St
open Go.Proofs Go.Vm.Vat
set_option linter.unusedSimpArgs false
set_option linter.unusedVariables false
set_option maxRecDepth 10000
variable {n : Nat} {h : AHeap}
theorem dec_ex {p : Prop} {i : Decidable p} {F : Bool → Prop} (h : F (@decide p i)) : ∃ b : Bool, (b = true ↔ p) ∧ F b := ⟨_, @decide_eq_true_iff p i, h⟩
def CovS (S : MS) (l : List Int) : Prop := CovP (allE S) (wrS S) S.ns l
noncomputable def leaveS (S : MS) : List Int := (leaveN S.ns (CovS S) (S.ns + 1)).getD []
theorem allE_ne {S : MS} (hG : Good S) : allE S ≠ [] := by
  have h1 := enumB_pos (lo := uLo S) (hi := uHi S) (numU S) 0 (fun _ => 0) fun k _ hk => (hG.u k (by omega)).2.1
  intro e
  have : (allE S).length = 0 := by rw [e]; rfl
  unfold allE at this
  omega
theorem leaveS_is {S : MS} (hG : Good S) : leaveN S.ns (CovS S) (S.ns + 1) = some (leaveS S) := by
  obtain ⟨l, hl⟩ := leave_ex (E := allE S) (wr := wrS S) (N := S.ns) (allE_ne hG)
  have hl : leaveN S.ns (CovS S) (S.ns + 1) = some l := hl
  unfold leaveS
  rw [hl]
  rfl
theorem leaveS_min {S : MS} (hG : Good S) : (∃ t, t ∈ allE S ∧ leaveS S = wrongL S t) ∧ ∀ t, t ∈ allE S → ¬ SL (wrongL S t) (leaveS S) := leave_min (leaveS_is hG)
theorem leaveS_len {S : MS} (hG : Good S) : (leaveS S).length ≤ S.ns := by
  obtain ⟨⟨t, _, e⟩, _⟩ := leaveS_min hG
  rw [e]
  exact wrong_len
def CovJ (S : MS) (l : List Int) (j : Nat) : Prop := ∀ i, i < ((allW S).getD j []).length → ∃ i', i' < l.length ∧ atL ((allW S).getD j []) i = atL l i'
theorem mem_at {l : List Int} {x : Int} : x ∈ l ↔ ∃ i, i < l.length ∧ x = atL l i := by
  constructor
  · intro hx
    obtain ⟨i, hi, e⟩ := List.getElem_of_mem hx
    exact ⟨i, hi, by rw [← e]; unfold atL; rw [List.getD_eq_getElem?_getD, List.getElem?_eq_getElem hi]; rfl⟩
  · rintro ⟨i, hi, rfl⟩
    unfold atL
    rw [List.getD_eq_getElem?_getD, List.getElem?_eq_getElem hi]
    exact List.getElem_mem hi
theorem cov_iff {S : MS} {l : List Int} : CovS S l ↔ ∃ j, j < (allW S).length ∧ CovJ S l j := by
  have hget : ∀ j, j < (allW S).length → ∃ t, t ∈ allE S ∧ (allW S).getD j [] = wrongL S t := fun j hj => by
    have hm : (allW S).getD j [] ∈ allW S := by
      rw [List.getD_eq_getElem?_getD, List.getElem?_eq_getElem hj]
      exact List.getElem_mem hj
    obtain ⟨t, ht, e⟩ := List.mem_map.1 hm
    exact ⟨t, ht, e.symm⟩
  constructor
  · rintro ⟨t, ht, hc⟩
    have hm : wrongL S t ∈ allW S := List.mem_map.2 ⟨t, ht, rfl⟩
    obtain ⟨j, hj, e⟩ := List.getElem_of_mem hm
    have e' : (allW S).getD j [] = wrongL S t := by rw [List.getD_eq_getElem?_getD, List.getElem?_eq_getElem hj]; exact e
    refine ⟨j, hj, fun i hi => ?_⟩
    rw [e'] at hi ⊢
    obtain ⟨x, x1, x2, x3⟩ := pick_at (p := wrS S t) (k := S.ns) hi
    have hx : (x : Int) ∈ l := hc x x1 x3
    obtain ⟨i', i1, i2⟩ := mem_at.1 hx
    exact ⟨i', i1, x2.trans i2⟩
  · rintro ⟨j, hj, hc⟩
    obtain ⟨t, ht, e⟩ := hget j hj
    refine ⟨t, ht, fun x hx hw => ?_⟩
    obtain ⟨i, i1, i2⟩ := pick_has (p := wrS S t) hx hw
    obtain ⟨i', k1, k2⟩ := hc i (by rw [e]; exact i1)
    rw [e] at k2
    rw [← i2]
    exact mem_at.2 ⟨i', k1, k2⟩
theorem bnd_le : ∀ M, M ≤ 5 → bndS 10 M ≤ 60000 := by
  intro M hM
  have : M = 0 ∨ M = 1 ∨ M = 2 ∨ M = 3 ∨ M = 4 ∨ M = 5 := by omega
  rcases this with rfl | rfl | rfl | rfl | rfl | rfl <;> simp [bndS]
noncomputable def s97 : SCode := (.seq (.ops [⟨(some 1), none, .box (T 0)⟩, ⟨(some 2), none, .mov (.const (.slice none 0 0))⟩]) (.seq (.ops [⟨(some 10), none, .loadN 8 (T 1)⟩, ⟨(some 11), none, .call (.func 96) [(T 10)]⟩, ⟨(some 3), none, .alloc [(.slice none 0 0)]⟩, ⟨none, none, .store 1 (T 3) (T 11)⟩]) (.seq (.ops [⟨(some 4), none, .alloc [(.slice none 0 0)]⟩]) (.seq .skip (.seq (.seq (.ops [⟨(some 12), none, .fieldAddr 0 (T 1)⟩, ⟨(some 13), none, .fieldAddr 6 (T 12)⟩, ⟨(some 14), none, .load1 (T 13)⟩, ⟨(some 15), none, .len (T 14)⟩, ⟨(some 16), none, .int2 .add (T 15) (.const (.int .i64 (1)))⟩, ⟨(some 17), none, .mov (.const (.int .i64 (0)))⟩]) (.block 0 (.loop (.seq (.ops [⟨(some 18), none, .int2 .lss (T 17) (T 16)⟩]) (.seq (.cond (T 18) .skip (.exit 0)) (.seq (.block 1 (.seq (.ops [⟨(some 19), none, .mov (T 17)⟩, ⟨(some 5), none, .mov (T 19)⟩]) (.seq (.ops [⟨(some 20), none, .fieldAddr 0 (T 1)⟩, ⟨(some 21), none, .fieldAddr 6 (T 20)⟩, ⟨(some 22), none, .load1 (T 21)⟩, ⟨(some 23), none, .len (T 22)⟩, ⟨(some 24), none, .mov (T 5)⟩, ⟨(some 25), none, .call (.func 124) [(T 23), (T 24)]⟩]) (.block 2 (.range (T 25) #[26] (rangeOf Try.f97 0).1 (rangeOf Try.f97 0).2))))) (.ops [⟨(some 39), none, .int2 .add (T 17) (.const (.int .i64 (1)))⟩, ⟨(some 17), none, .mov (T 39)⟩]))))))) (.seq (.ops [⟨(some 40), none, .load1 (T 4)⟩, ⟨(some 2), none, .mov (T 40)⟩]) .ret))))))
theorem fok97 : FnOk Try.prog 97 41 s97 [.tmp 2] := ⟨Try.f97, _, Try.func97, rfl, Try.ntmps97, by kernel_rfl, by kernel_rfl⟩
def ra97_0 : SCode := (.ops [⟨(some 6), none, .alloc [(.slice none 0 0)]⟩, ⟨none, none, .store 1 (T 6) (T 26)⟩])
theorem raok97_0 : compCode Try.prog 41 (rangeOf Try.f97 0).1 = some ra97_0 := by kernel_rfl
def rb97_0 : SCode := (.block 3 (.seq (.ops [⟨(some 27), none, .mkfunc 125 [] [(T 6)]⟩, ⟨(some 7), none, .mov (T 27)⟩]) (.seq (.ops [⟨(some 28), none, .load1 (T 3)⟩, ⟨(some 29), none, .len (T 28)⟩, ⟨(some 30), none, .mov (.const (.int .i64 (0)))⟩]) (.block 4 (.loop (.seq (.ops [⟨(some 31), none, .int2 .lss (T 30) (T 29)⟩]) (.seq (.cond (T 31) .skip (.exit 4)) (.seq (.block 5 (.seq (.ops [⟨(some 32), none, .idxSl 1 (T 28) (T 30)⟩, ⟨(some 33), none, .load1 (T 32)⟩, ⟨(some 9), none, .mov (T 33)⟩]) (.seq (.ops [⟨(some 34), none, .mov (T 9)⟩, ⟨(some 35), none, .mov (T 7)⟩, ⟨(some 36), none, .call (.func 120) [(T 34), (T 35)]⟩]) (.cond (T 36) (.seq (.ops [⟨(some 37), none, .load1 (T 6)⟩, ⟨none, none, .store 1 (T 4) (T 37)⟩]) (.exit 0)) .skip)))) (.ops [⟨(some 38), none, .int2 .add (T 30) (.const (.int .i64 (1)))⟩, ⟨(some 30), none, .mov (T 38)⟩])))))))))
theorem rbok97_0 : compCode Try.prog 41 (rangeOf Try.f97 0).2 = some rb97_0 := by kernel_rfl
open Classical in
set_option maxHeartbeats 4000000 in
theorem smallest_c (hn : 2600 ≤ n) (hr : h.next + 1200000 < far) (hfl : h.floor ≤ h.next) {wv vv sv : Value} {S : MS} (hy : SteepR h wv vv sv S) (hG : Good S) :
    ∃ v h', call n (.func (.func 97) #[] #[]) [.agg ⟨wkL S wv vv sv nilS⟩] h = some (v, h') ∧ Ints h' v (leaveS S).length (atL (leaveS S)) ∧ oneCell v = true ∧ (∀ i, i < h.next → h'.get i = h.get i) ∧ h.next ≤ h'.next ∧ h'.next ≤ h.next + 1000000 ∧ h'.floor = h.floor := by
  obtain ⟨n, rfl⟩ : ∃ p, n = p + 1 := ⟨n - 1, by omega⟩
  refine call_any0 fok97 rfl rfl (by simp) ?_
  obtain ⟨_, _, _, _, _, z5, _⟩ := hG.sizes
  have hlenW : (allW S).length ≤ 2000 := by unfold allW; rw [List.length_map]; exact enum_len hG
  have hns1 : wrapF .i64 ((S.ns : Int) + 1) = ((S.ns + 1 : Nat) : Int) := by rw [wrap_in (by omega) (by omega)]; rfl
  simp only [s97, W_seq, W_ops]
  refine ops_box (cs := wkL S wv vv sv nilS) (by omega) rfl (wk_one hy rfl) fun g1 hx1 => ?_
  have n1 := hx1.next
  have f1 := hx1.floor
  have hy1 := hy.mono hx1.sub
  obtain ⟨av, g2, e2, hall, oav, o2, u2, m2, f2⟩ := wrongAll_c (n := n) (h := g1) (by omega) (by omega) (by omega) hy1 hG
  simp only [rn0, rn1, rn2, rn3, rn4, rn5, rn6, rn7, rn8, if_true, if_false, Nat.le_refl, true_and, and_true, decide_true, decide_false, Bool.not_true, Bool.not_false, reduceIte, Nat.reduceEqDiff, Nat.reduceAdd, Nat.reduceMul, Nat.reduceSub, Nat.reduceLeDiff, Nat.reduceLT, hx1.row.whole (n := 8) rfl, e2]
  refine step_new (vs := [av]) (by omega) (by omega) rfl (by simp only [rn0, rn1, rn2, rn3, rn4, rn5, rn6, rn7, rn8, if_true, if_false, Nat.le_refl, true_and, and_true, decide_true, decide_false, Bool.not_true, Bool.not_false, reduceIte, Nat.reduceEqDiff, Nat.reduceAdd, Nat.reduceMul, Nat.reduceSub, Nat.reduceLeDiff, Nat.reduceLT]; exact cells1 oav) (by simp [allB, oav]) rfl rfl fun g3 hx3 => ?_
  have n3 := hx3.next
  have f3 := hx3.floor
  simp only [rn0, rn1, rn2, rn3, rn4, rn5, rn6, rn7, rn8, if_true, if_false, Nat.le_refl, true_and, and_true, decide_true, decide_false, Bool.not_true, Bool.not_false, reduceIte, Nat.reduceEqDiff, Nat.reduceAdd, Nat.reduceMul, Nat.reduceSub, Nat.reduceLeDiff, Nat.reduceLT]
  refine step_row (cs := [nilS]) (by omega) rfl rfl fun g4 hx4 => ?_
  have n4 := hx4.next
  have f4 := hx4.floor
  have old4 : ∀ i, i < g1.next → g4.get i = g1.get i := fun i hi => by rw [hx4.old i (by omega), hx3.old i (by omega), o2 i hi]
  have sub4 : Sub All g1 g4 := AHeap.subOf old4
  have hy4 := hy1.mono sub4
  have r4 := hx1.row.mono sub4
  have ra4 := hx3.row.mono hx4.sub
  have hall4 : AllR g4 av (allW S) := hall.mono (hx3.sub.trans hx4.sub)
  have rp4 : g4.get g3.next = some (.row [nilS] true 0) := hx4.get
  obtain ⟨C, hC⟩ : ∃ C, C = 60020 := ⟨_, rfl⟩
  have hC6 : 6 * C ≤ 400000 := by omega
  simp only [rn0, rn1, rn2, rn3, rn4, rn5, rn6, rn7, rn8, if_true, if_false, Nat.le_refl, true_and, and_true, decide_true, decide_false, Bool.not_true, Bool.not_false, reduceIte, Nat.reduceEqDiff, Nat.reduceAdd, Nat.reduceMul, Nat.reduceSub, Nat.reduceLeDiff, Nat.reduceLT, r4.ld, wkg, Nat.zero_add, Nat.add_zero, Cells.len hy4.s, hns1]
  refine W_loop (S.ns + 1) (fun k f g ms => ((∀ i, i < g4.next → g.get i = g4.get i) ∧ g4.next ≤ g.next ∧ g.next ≤ g4.next + k * C ∧ g.floor = g4.floor ∧ MarksR g4.next ms g ∧ leaveN S.ns (CovS S) k = none) ∧ f 1 = .pointer (some ⟨h.next, 0, none⟩) ∧ f 3 = .pointer (some ⟨g2.next, 0, none⟩) ∧ f 4 = .pointer (some ⟨g3.next, 0, none⟩) ∧ f 16 = .int .i64 ((S.ns + 1 : Nat) : Int) ∧ f 17 = .int .i64 (k : Int)) (by simp; omega) ?_ ?_ ?_
  · simp only [rn0, rn1, rn2, rn3, rn4, rn5, rn6, rn7, rn8, if_true, if_false, Nat.le_refl, true_and, and_true, decide_true, decide_false, Bool.not_true, Bool.not_false, reduceIte, Nat.reduceEqDiff, Nat.reduceAdd, Nat.reduceMul, Nat.reduceSub, Nat.reduceLeDiff, Nat.reduceLT, Nat.zero_mul, Nat.add_zero]
    have hm0 : MarksR g4.next [] g4 := ⟨List.nodup_nil, fun d hd => by cases hd⟩
    first | exact ⟨⟨fun _ _ => trivial, hm0, rfl⟩, rfl⟩ | exact ⟨fun _ _ => trivial, hm0, rfl⟩ | exact ⟨⟨fun _ _ => trivial, hm0, rfl⟩, rfl, rfl⟩ | trace_state
  · rintro k f g ms hk ⟨⟨hold, hup, hnx, hfg, hmk, hno⟩, p1, p3, p4, p16, p17⟩
    have hk' : (k : Int) < ((S.ns + 1 : Nat) : Int) := by omega
    have hw : wrapF .i64 ((k : Int) + 1) = ((k + 1 : Nat) : Int) := by rw [wrap_in (by omega) (by omega)]; rfl
    have hkC : k * C + C ≤ 400000 := by
      rw [← Nat.succ_mul]
      exact Nat.le_trans (Nat.mul_le_mul_right _ (by omega)) hC6
    have hk1 : (k + 1) * C = k * C + C := Nat.succ_mul _ _
    generalize k * C = kC at hnx hkC hk1
    have sg : Sub All g4 g := AHeap.subOf hold
    have hyg := hy4.mono sg
    have rg := r4.mono sg
    obtain ⟨g5, e5, ra5, rb5, o5, n5, f5⟩ := allSets_c (n := n) (h := g) (by omega) (by omega) (S.ns : Int) (k : Int)
    simp only [rn0, rn1, rn2, rn3, rn4, rn5, rn6, rn7, rn8, if_true, if_false, Nat.le_refl, true_and, and_true, decide_true, decide_false, Bool.not_true, Bool.not_false, reduceIte, Nat.reduceEqDiff, Nat.reduceAdd, Nat.reduceMul, Nat.reduceSub, Nat.reduceLeDiff, Nat.reduceLT, p1, p3, p4, p16, p17, hk', rg.ld, wkg, Nat.zero_add, Nat.add_zero, Cells.len hyg.s, e5]
    refine W_range' rfl (by omega) (by simp only [rn0, rn1, rn2, rn3, rn4, rn5, rn6, rn7, rn8, if_true, if_false, Nat.le_refl, true_and, and_true, decide_true, decide_false, Bool.not_true, Bool.not_false, reduceIte, Nat.reduceEqDiff, Nat.reduceAdd, Nat.reduceMul, Nat.reduceSub, Nat.reduceLeDiff, Nat.reduceLT, p1, p3, p4, p16, p17]; rfl) fun f0 hf0 ts hv h2 hl => ?_
    have c1 : f0 1 = .pointer (some ⟨h.next, 0, none⟩) := by rw [hf0]; simp only [rn0, rn1, rn2, rn3, rn4, rn5, rn6, rn7, rn8, if_true, if_false, Nat.le_refl, true_and, and_true, decide_true, decide_false, Bool.not_true, Bool.not_false, reduceIte, Nat.reduceEqDiff, Nat.reduceAdd, Nat.reduceMul, Nat.reduceSub, Nat.reduceLeDiff, Nat.reduceLT, p1, p3, p4, p16, p17]
    have c3 : f0 3 = .pointer (some ⟨g2.next, 0, none⟩) := by rw [hf0]; simp only [rn0, rn1, rn2, rn3, rn4, rn5, rn6, rn7, rn8, if_true, if_false, Nat.le_refl, true_and, and_true, decide_true, decide_false, Bool.not_true, Bool.not_false, reduceIte, Nat.reduceEqDiff, Nat.reduceAdd, Nat.reduceMul, Nat.reduceSub, Nat.reduceLeDiff, Nat.reduceLT, p1, p3, p4, p16, p17]
    have c4 : f0 4 = .pointer (some ⟨g3.next, 0, none⟩) := by rw [hf0]; simp only [rn0, rn1, rn2, rn3, rn4, rn5, rn6, rn7, rn8, if_true, if_false, Nat.le_refl, true_and, and_true, decide_true, decide_false, Bool.not_true, Bool.not_false, reduceIte, Nat.reduceEqDiff, Nat.reduceAdd, Nat.reduceMul, Nat.reduceSub, Nat.reduceLeDiff, Nat.reduceLT, p1, p3, p4, p16, p17]
    have c16 : f0 16 = .int .i64 ((S.ns + 1 : Nat) : Int) := by rw [hf0]; simp only [rn0, rn1, rn2, rn3, rn4, rn5, rn6, rn7, rn8, if_true, if_false, Nat.le_refl, true_and, and_true, decide_true, decide_false, Bool.not_true, Bool.not_false, reduceIte, Nat.reduceEqDiff, Nat.reduceAdd, Nat.reduceMul, Nat.reduceSub, Nat.reduceLeDiff, Nat.reduceLT, p1, p3, p4, p16, p17]
    have c17 : f0 17 = .int .i64 (k : Int) := by rw [hf0]; simp only [rn0, rn1, rn2, rn3, rn4, rn5, rn6, rn7, rn8, if_true, if_false, Nat.le_refl, true_and, and_true, decide_true, decide_false, Bool.not_true, Bool.not_false, reduceIte, Nat.reduceEqDiff, Nat.reduceAdd, Nat.reduceMul, Nat.reduceSub, Nat.reduceLeDiff, Nat.reduceLT, p1, p3, p4, p16, p17]
    clear hf0
    have nl := hl.next
    have fl := hl.floor
    have oldh : ∀ i, i < g.next → h2.get i = g.get i := fun i hi => by rw [hl.old i (by omega), o5 i hi]
    have oldh4 : ∀ i, i < g4.next → h2.get i = g4.get i := fun i hi => by rw [oldh i (by omega), hold i hi]
    have hrm : Row h2 (g.next + 1) [.int .i64 (k : Int)] := rb5.mono hl.sub
    have hrn : Row h2 g.next [.int .i64 (S.ns : Int)] := ra5.mono hl.sub
    have hloop := hl.loop
    have hmark := hl.mark
    generalize hr0 : loopO _ ts _ _ _ _ = r at hloop ⊢
    have r1 : r.state = .ready := by rw [← hr0]; rfl
    have r2 : View 41 r.tmps f0 := by rw [← hr0]; exact hv
    have r3 : r.params = #[26] := by rw [← hr0]; rfl
    have r4' : compCode Try.prog 41 r.assign = some ra97_0 := by rw [← hr0]; exact raok97_0
    have r5 : compCode Try.prog 41 r.body = some rb97_0 := by rw [← hr0]; exact rbok97_0
    have r6 : leftBy r .norm = r := by rw [← hr0]; rfl
    clear hr0 hl hv
    have hb10 := bnd_le k (by omega)
    obtain ⟨rs, hrs⟩ : ∃ rs, rs = (combs S.ns k 0).find? (fun l => decide (CovS S l)) := ⟨_, rfl⟩
    have hlv : leaveN S.ns (CovS S) (k + 1) = rs := by
      rw [leaveN, hno, hrs]
    have hit := setsIter_c (P := CovS S) (N := S.ns) (M := k) (K := 10) (N0 := 2100) (pm := g.next + 1) (pn := g.next) (yv := .func (.yield (g5.next + 1)) #[] #[]) (g := h2) (n := n) (r := rs)
      (fun l g' => (∃ v', g'.get g3.next = some (.row [v'] true 0) ∧ Ints g' v' l.length (atL l) ∧ oneCell v' = true ∧ ∀ x q c, v' = .slice (some x) q c → h2.next ≤ x.block) ∧ (∀ i, i < h2.next → i ≠ g3.next → i ≠ g5.next + 1 → g'.get i = h2.get i) ∧ g'.get (g5.next + 1) = some (.loop (leftBy r (.exit 0)))) hrs
      z5 (by omega) hrm hrn rfl (by simp [eqV, eqCell]) (by omega) (by omega) (by omega)
      (fun m g1' l v hm hi ho hb hlen hbase hup1 hfg1 hr1 => by
        obtain ⟨m, rfl⟩ : ∃ p, m = p + 1 := ⟨m - 1, by omega⟩
        rw [call_yield]
        have hloop1 : g1'.get (g5.next + 1) = some (.loop r) := by rw [hbase _ (by omega)]; exact hloop
        have hll : l.length ≤ 40 := by omega
        suffices key : ∃ e g', roundA Try.prog (call m) m (g5.next + 1) [v] g1' = some (.bool (goesOn e), g') ∧ ((CovS S l → e = .exit 0 ∧ (∃ v', g'.get g3.next = some (.row [v'] true 0) ∧ Ints g' v' l.length (atL l) ∧ oneCell v' = true ∧ ∀ x q c, v' = .slice (some x) q c → h2.next ≤ x.block) ∧ (∀ i, i < h2.next → i ≠ g3.next → i ≠ g5.next + 1 → g'.get i = h2.get i) ∧ g'.get (g5.next + 1) = some (.loop (leftBy r (.exit 0)))) ∧ (¬ CovS S l → e = .norm ∧ ∀ i, i < g1'.next → g'.get i = g1'.get i) ∧ g'.floor = h2.floor ∧ g1'.next ≤ g'.next ∧ g'.next ≤ g1'.next + 10) by
          obtain ⟨e, g', k1, k2, k3, k4, k5, k6⟩ := key
          constructor
          · intro hc
            obtain ⟨rfl, q⟩ := k2 hc
            exact ⟨g', k1, q, k4, k5, k6⟩
          · intro hc
            obtain ⟨rfl, q⟩ := k3 hc
            exact ⟨g', k1, q, k4, k5, k6⟩
        refine round_run (f := f0) hloop1 r1 r2 (by rw [r3]; rfl) (by omega) r4' r5 ?_
        have hset : setFr f0 r.params.toList [v] = upd f0 26 v := by rw [r3]; rfl
        rw [hset]
        simp only [rn0, rn1, rn2, rn3, rn4, rn5, rn6, rn7, rn8, if_true, if_false, Nat.le_refl, true_and, and_true, decide_true, decide_false, Bool.not_true, Bool.not_false, reduceIte, Nat.reduceEqDiff, Nat.reduceAdd, Nat.reduceMul, Nat.reduceSub, Nat.reduceLeDiff, Nat.reduceLT, ra97_0]
        refine step_new (vs := [v]) (by omega) (by omega) rfl (by simp only [rn0, rn1, rn2, rn3, rn4, rn5, rn6, rn7, rn8, if_true, if_false, Nat.le_refl, true_and, and_true, decide_true, decide_false, Bool.not_true, Bool.not_false, reduceIte, Nat.reduceEqDiff, Nat.reduceAdd, Nat.reduceMul, Nat.reduceSub, Nat.reduceLeDiff, Nat.reduceLT]; exact cells1 ho) (by simp [allB, ho]) rfl rfl fun ga hxa => ?_
        have na := hxa.next
        have fa := hxa.floor
        simp only [rn0, rn1, rn2, rn3, rn4, rn5, rn6, rn7, rn8, if_true, if_false, Nat.le_refl, true_and, and_true, decide_true, decide_false, Bool.not_true, Bool.not_false, reduceIte, Nat.reduceEqDiff, Nat.reduceAdd, Nat.reduceMul, Nat.reduceSub, Nat.reduceLeDiff, Nat.reduceLT]
        refine ⟨by rw [hxa.old _ (by omega)]; exact hloop1, by omega, fun gb hpb => ?_⟩
        have nb := hpb.next
        have fb := hpb.floor
        have gbold : ∀ i, i < g1'.next → i ≠ g5.next + 1 → gb.get i = g1'.get i := fun i hi hne => by rw [hpb.old i hne, hxa.old i hi]
        have gb4 : ∀ i, i < g4.next → gb.get i = g4.get i := fun i hi => by rw [gbold i (by omega) (by omega), hbase i (by omega), oldh4 i hi]
        have sub4b : Sub All g4 gb := AHeap.subOf gb4
        have rab := ra4.mono sub4b
        have hallb := hall4.mono sub4b
        obtain ⟨R, hcR, hiR⟩ := hallb
        have rc : Row gb g1'.next [v] := by
          obtain ⟨w, gr, e⟩ := hxa.row
          exact ⟨w, gr, by rw [hpb.old _ (by omega)]; exact e⟩
        have hib : Ints gb v l.length (atL l) := cells_at hi fun a q c e hlt => gbold _ hlt (by have := (hb a q c e).1; omega)
        have lb : gb.get (g5.next + 1) = some (.loop { r with state := .busy }) := hpb.get
        have epb : gb.get g3.next = some (.row [nilS] true 0) := by rw [gb4 _ (by omega)]; exact rp4
        simp only [rn0, rn1, rn2, rn3, rn4, rn5, rn6, rn7, rn8, if_true, if_false, Nat.le_refl, true_and, and_true, decide_true, decide_false, Bool.not_true, Bool.not_false, reduceIte, Nat.reduceEqDiff, Nat.reduceAdd, Nat.reduceMul, Nat.reduceSub, Nat.reduceLeDiff, Nat.reduceLT, rb97_0, c1, c3, c4, rab.ld, Nat.zero_add, List.getElem?_cons_zero, Cells.len hcR]
        refine W_loop (allW S).length (fun j f g' ms => (g' = gb ∧ ∀ j', j' < j → ¬ CovJ S l j') ∧ ms = [] ∧ f 3 = .pointer (some ⟨g2.next, 0, none⟩) ∧ f 4 = .pointer (some ⟨g3.next, 0, none⟩) ∧ f 6 = .pointer (some ⟨g1'.next, 0, none⟩) ∧ f 7 = .func (.func 125) ⟨[]⟩ ⟨[.pointer (some ⟨g1'.next, 0, none⟩)]⟩ ∧ f 28 = av ∧ f 29 = .int .i64 ((allW S).length : Int) ∧ f 30 = .int .i64 (j : Int)) (by simp; omega) ?_ ?_ ?_
        · simp only [rn0, rn1, rn2, rn3, rn4, rn5, rn6, rn7, rn8, if_true, if_false, Nat.le_refl, true_and, and_true, decide_true, decide_false, Bool.not_true, Bool.not_false, reduceIte, Nat.reduceEqDiff, Nat.reduceAdd, Nat.reduceMul, Nat.reduceSub, Nat.reduceLeDiff, Nat.reduceLT, c1, c3, c4]
          first | exact ⟨⟨rfl, fun i hi => absurd hi (Nat.not_lt_zero _)⟩, rfl⟩ | exact ⟨fun i hi => absurd hi (Nat.not_lt_zero _), rfl⟩ | exact fun i hi => absurd hi (Nat.not_lt_zero _) | trace_state
        · rintro j f g' ms hj ⟨⟨rfl, hno'⟩, rfl, p3, p4, p6, p7, p28, p29, p30⟩
          have hj' : (j : Int) < ((allW S).length : Int) := by omega
          have hwj : wrapF .i64 ((j : Int) + 1) = ((j + 1 : Nat) : Int) := by rw [wrap_in (by omega) (by omega)]; rfl
          have hwl : ((allW S).getD j []).length ≤ 40 := by
            have hm : (allW S).getD j [] ∈ allW S := by
              rw [List.getD_eq_getElem?_getD, List.getElem?_eq_getElem hj]
              exact List.getElem_mem hj
            obtain ⟨t, _, e⟩ := List.mem_map.1 hm
            rw [← e]
            exact Nat.le_trans wrong_len (by omega)
          have eev := everyI_c (n := m) (h := g') (v := R j) (ok := .func (.func 125) ⟨[]⟩ ⟨[.pointer (some ⟨g1'.next, 0, none⟩)]⟩) (p := fun i => ∃ i', i' < l.length ∧ atL ((allW S).getD j []) i = atL l i') (by omega) (by omega) hwl (hiR j hj) fun g hs hg i hi => by
            have q := isLeft_c (n := m - 1) (h := g) (by omega) (by omega) (rc.mono hs) (Cells.mono hib hs) hll (atL ((allW S).getD j []) i)
            rw [q]
            have e : ∀ (i1 i2 : Decidable (∃ i', i' < l.length ∧ atL ((allW S).getD j []) i = atL l i')), @decide _ i1 = @decide _ i2 := fun i1 i2 => by rw [Subsingleton.elim i1 i2]
            exact congrArg (fun b => some (Value.bool b, g)) (e _ _)
          obtain ⟨bb, hbb, eev⟩ := dec_ex (F := fun b => call m (.func (.func 120) #[] #[]) [R j, .func (.func 125) ⟨[]⟩ ⟨[.pointer (some ⟨g1'.next, 0, none⟩)]⟩] g' = some (.bool b, g')) eev
          have hbb : bb = true ↔ CovJ S l j := hbb
          by_cases c : CovJ S l j
          · have hcov : CovS S l := cov_iff.2 ⟨j, hj, c⟩
            rw [hbb.2 c] at eev
            simp only [rn0, rn1, rn2, rn3, rn4, rn5, rn6, rn7, rn8, if_true, if_false, Nat.le_refl, true_and, and_true, decide_true, decide_false, Bool.not_true, Bool.not_false, reduceIte, Nat.reduceEqDiff, Nat.reduceAdd, Nat.reduceMul, Nat.reduceSub, Nat.reduceLeDiff, Nat.reduceLT, p3, p4, p6, p7, p28, p29, p30, hj', Cells.idx hcR hj, Cells.ld hcR hj Nat.zero_lt_one, eev, rc.ld, Nat.zero_add, List.getElem?_cons_zero]
            refine step_store (b := g3.next) (off := 0) (vs := [v]) rfl epb (by omega) (by omega) (by cases v <;> first | rfl | cases ho) (by simp [allB, ho]) rfl (by simp) fun gc hsc => ?_
            rw [splice1] at hsc
            have nc := hsc.next
            have fc := hsc.floor
            simp only [rn0, rn1, rn2, rn3, rn4, rn5, rn6, rn7, rn8, if_true, if_false, Nat.le_refl, true_and, and_true, decide_true, decide_false, Bool.not_true, Bool.not_false, reduceIte, Nat.reduceEqDiff, Nat.reduceAdd, Nat.reduceMul, Nat.reduceSub, Nat.reduceLeDiff, Nat.reduceLT]
            refine ⟨by rw [hsc.old _ (by omega)]; exact lb, by omega, by omega, fun gd hpd => ⟨fun _ => ⟨⟨v, ?_, ?_, ho, fun x q c e => by have := (hb x q c e).1; omega⟩, fun i hi a1 a2 => ?_, hpd.get⟩, fun hn => absurd hcov hn, by rw [hpd.floor]; omega, by rw [hpd.next]; omega, by rw [hpd.next]; omega⟩⟩
            · rw [hpd.old _ (by omega)]; exact hsc.get
            · exact cells_at hib fun a q c e hlt => by
                have := (hb a q c e).1
                rw [hpd.old _ (by omega), hsc.old _ (by omega)]
            · rw [hpd.old i a2, hsc.old i a1, gbold i (by omega) a2, hbase i hi]
          · have hbf : bb = false := by
              cases bb with
              | false => rfl
              | true => exact absurd (hbb.1 rfl) c
            rw [hbf] at eev
            have hno2 : ∀ j', j' < j + 1 → ¬ CovJ S l j' := fun j' hj1 => by
              by_cases e : j' = j
              · rw [e]; exact c
              · exact hno' j' (by omega)
            simp only [rn0, rn1, rn2, rn3, rn4, rn5, rn6, rn7, rn8, if_true, if_false, Nat.le_refl, true_and, and_true, decide_true, decide_false, Bool.not_true, Bool.not_false, reduceIte, Nat.reduceEqDiff, Nat.reduceAdd, Nat.reduceMul, Nat.reduceSub, Nat.reduceLeDiff, Nat.reduceLT, p3, p4, p6, p7, p28, p29, p30, hj', Cells.idx hcR hj, Cells.ld hcR hj Nat.zero_lt_one, eev, hwj]
            first | exact ⟨⟨rfl, hno2⟩, rfl⟩ | exact ⟨hno2, rfl⟩ | exact hno2
        · rintro f g' ms ⟨⟨rfl, hno'⟩, rfl, p3, p4, p6, p7, p28, p29, p30⟩
          have hncov : ¬ CovS S l := fun q => by
            obtain ⟨j, j1, j2⟩ := cov_iff.1 q
            exact hno' j j1 j2
          simp only [rn0, rn1, rn2, rn3, rn4, rn5, rn6, rn7, rn8, if_true, if_false, Nat.le_refl, true_and, and_true, decide_true, decide_false, Bool.not_true, Bool.not_false, reduceIte, Nat.reduceEqDiff, Nat.reduceAdd, Nat.reduceMul, Nat.reduceSub, Nat.reduceLeDiff, Nat.reduceLT, p3, p4, p6, p7, p28, p29, p30, Int.lt_irrefl]
          refine ⟨lb, by omega, by omega, fun gd hpd => ⟨fun hc => absurd hc hncov, fun _ => fun i hi => ?_, by rw [hpd.floor]; omega, by rw [hpd.next]; omega, by rw [hpd.next]; omega⟩⟩
          by_cases e : i = g5.next + 1
          · subst e; rw [hpd.get, r6]; exact hloop1.symm
          · rw [hpd.old i e, gbold i hi e])
      (by omega)
    obtain ⟨v6, g6, e6, f6, u6, m6, k6, q6⟩ := hit
    cases hrr : rs with
    | some l =>
      obtain ⟨⟨v', t1, t2, t3, t4⟩, t5, t6⟩ := k6 l hrr
      have hls : leaveS S = l := by
        have h1 := leaveS_is hG
        have h2 := leaveN_up (hlv.trans hrr) (S.ns - k)
        rw [show k + 1 + (S.ns - k) = S.ns + 1 by omega, h1] at h2
        exact Option.some.inj h2
      refine ⟨v6, g6, .exit 0, e6, by omega, by omega, t6, fun g7 hp7 => ?_⟩
      have n7 := hp7.next
      have f7 := hp7.floor
      have t7 : Row g7 g3.next [v'] := ⟨true, 0, by rw [hp7.old _ (by omega)]; exact t1⟩
      simp only [rn0, rn1, rn2, rn3, rn4, rn5, rn6, rn7, rn8, if_true, if_false, Nat.le_refl, true_and, and_true, decide_true, decide_false, Bool.not_true, Bool.not_false, reduceIte, Nat.reduceEqDiff, Nat.reduceAdd, Nat.reduceMul, Nat.reduceSub, Nat.reduceLeDiff, Nat.reduceLT, c4, t7.ld, Nat.zero_add, List.getElem?_cons_zero]
      refine ret_marks (ms := g5.next :: ms) (List.nodup_cons.2 ⟨fun q => by have := (hmk.2 _ q).2.1; omega, hmk.1⟩) (fun d hd => ?_) (by omega) fun g8 ho8 n8 f8 => ?_
      · rcases List.mem_cons.1 hd with rfl | hd
        · exact ⟨by omega, by rw [hp7.old _ (by omega), t5 _ (by omega) (by omega) (by omega)]; exact hmark⟩
        · obtain ⟨d1, d2, d3⟩ := hmk.2 d hd
          exact ⟨by omega, by rw [hp7.old _ (by omega), t5 _ (by omega) (by omega) (by omega), oldh _ d2]; exact d3⟩
      · have nin : ∀ i, i < g4.next ∨ h2.next ≤ i → i ∉ g5.next :: ms := fun i hi q => by
          rcases List.mem_cons.1 q with rfl | q
          · omega
          · have := hmk.2 i q; omega
        simp only [rn0, rn1, rn2, rn3, rn4, rn5, rn6, rn7, rn8, if_true, if_false, Nat.le_refl, true_and, and_true, decide_true, decide_false, Bool.not_true, Bool.not_false, reduceIte, Nat.reduceEqDiff, Nat.reduceAdd, Nat.reduceMul, Nat.reduceSub, Nat.reduceLeDiff, Nat.reduceLT]
        rw [hls]
        refine ⟨cells_at t2 fun a q c e hlt => ?_, t3, fun i hi => ?_, by omega, by omega, by omega⟩
        · have := t4 a q c e
          rw [ho8 _ (nin _ (by omega)), hp7.old _ (by omega)]
        · rw [ho8 _ (nin _ (by omega)), hp7.old _ (by omega), t5 _ (by omega) (by omega) (by omega), oldh4 _ (by omega), old4 _ (by omega), hx1.old i hi]
    | none =>
      have hq := q6 hrr
      refine ⟨v6, g6, .norm, e6, by omega, by omega, by rw [r6, hq _ (by omega)]; exact hloop, fun g7 hp7 => ?_⟩
      have n7 := hp7.next
      have f7 := hp7.floor
      have low7 : ∀ i, i < h2.next → i ≠ g5.next + 1 → g7.get i = h2.get i := fun i hi hne => by rw [hp7.old i hne, hq i hi]
      simp only [rn0, rn1, rn2, rn3, rn4, rn5, rn6, rn7, rn8, if_true, if_false, Nat.le_refl, true_and, and_true, decide_true, decide_false, Bool.not_true, Bool.not_false, reduceIte, Nat.reduceEqDiff, Nat.reduceAdd, Nat.reduceMul, Nat.reduceSub, Nat.reduceLeDiff, Nat.reduceLT, c1, c3, c4, c16, c17, hw]
      have hmk7 : MarksR g4.next (g5.next :: ms) g7 := by
        refine ⟨List.nodup_cons.2 ⟨fun q => by have := (hmk.2 _ q).2.1; omega, hmk.1⟩, fun d hd => ?_⟩
        rcases List.mem_cons.1 hd with rfl | hd
        · exact ⟨by omega, by omega, by rw [low7 _ (by omega) (by omega)]; exact hmark⟩
        · obtain ⟨d1, d2, d3⟩ := hmk.2 d hd
          exact ⟨by omega, by omega, by rw [low7 _ (by omega) (by omega), oldh _ d2]; exact d3⟩
      rw [hk1]
      have hfin := And.intro (show ∀ i, i < g4.next → g7.get i = g4.get i from fun i hi => by rw [low7 i (by omega) (by omega), oldh4 i hi]) (And.intro (show g4.next ≤ g7.next by omega) (And.intro (show g7.next ≤ g4.next + (kC + C) by omega) (And.intro (show g7.floor = g4.floor by omega) (And.intro hmk7 (hlv.trans hrr)))))
      first | exact hfin | exact ⟨hfin, rfl⟩ | exact ⟨hfin, rfl, rfl⟩ | trace_state
  · rintro f g ms ⟨⟨hold, hup, hnx, hfg, hmk, hno⟩, p1, p3, p4, p16, p17⟩
    rw [leaveS_is hG] at hno
    cases hno
end Go.Vm.St

namespace Go.Vm.St
open Go.Proofs Go.Vm.Vat
set_option linter.unusedSimpArgs false
set_option linter.unusedVariables false
set_option maxRecDepth 10000
variable {n : Nat} {h : AHeap}
def CanB (S : MS) (s : Nat) : Prop := ∃ c, c ∈ allE S ∧ ∀ x, x < S.ns → Bit s x → RightS S c x
noncomputable instance (S : MS) (s : Nat) : Decidable (CanB S s) := Classical.propDecidable _
end Go.Vm.St

namespace Go.Vm
open Go.Vm.Vat
section
variable {p : Nat → Prop}
end
end Go.Vm
namespace Go.Vm.St
open Go.Proofs Go.Vm.Vat
set_option linter.unusedSimpArgs false
set_option linter.unusedVariables false
set_option maxRecDepth 10000
variable {n : Nat} {h : AHeap}
def LeaveR (h : AHeap) (S : MS) (v : Value) (h' : AHeap) : Prop := (∀ i, i < h.next → h'.get i = h.get i) ∧ h.next ≤ h'.next ∧ h'.next ≤ h.next + 1000010 ∧ h'.floor = h.floor ∧
  ((faultS S ≠ 0 ∧ v = .tuple ⟨[nilS, .int .i64 (faultS S)]⟩) ∨ (faultS S = 0 ∧ ∃ l, v = .tuple ⟨[l, .int .i64 0]⟩ ∧ Ints h' l (leaveS S).length (atL (leaveS S)) ∧ oneCell l = true))
def s52 : SCode := (.seq (.ops [⟨(some 1), none, .box (T 0)⟩, ⟨(some 2), none, .mov (.const (.slice none 0 0))⟩, ⟨(some 3), none, .mov (.const (.int .i64 (0)))⟩]) (.seq (.seq (.ops [⟨(some 5), none, .loadN 7 (T 1)⟩, ⟨(some 6), none, .call (.func 30) [(T 5)]⟩, ⟨(some 4), none, .mov (T 6)⟩]) (.seq (.ops [⟨(some 7), none, .mov (T 4)⟩, ⟨(some 8), none, .int2 .neq (T 7) (.const (.int .i64 (0)))⟩]) (.cond (T 8) (.seq (.ops [⟨(some 9), none, .mov (T 4)⟩, ⟨(some 2), none, .mov (.const (.slice none 0 0))⟩, ⟨(some 3), none, .mov (T 9)⟩]) .ret) .skip))) (.seq (.ops [⟨(some 10), none, .loadN 7 (T 1)⟩, ⟨(some 11), none, .build #[(0, 7), (7, 1)] [(.int .i64 (0)), (.int .i64 (0)), (.slice none 0 0), (.int .i64 (0)), (.int .i64 (0)), (.slice none 0 0), (.slice none 0 0), (.slice none 0 0)] [0] [(T 10)]⟩, ⟨(some 12), none, .call (.func 97) [(T 11)]⟩, ⟨(some 2), none, .mov (T 12)⟩, ⟨(some 3), none, .mov (.const (.int .i64 (0)))⟩]) .ret)))
theorem fok52 : FnOk Try.prog 52 13 s52 [.tmp 2, .tmp 3] := ⟨Try.f52, _, Try.func52, rfl, Try.ntmps52, by kernel_rfl, by kernel_rfl⟩
theorem leaveP_c (hn : 2700 ≤ n) (hr : h.next + 1300000 < far) (hfl : h.floor ≤ h.next) {wv vv sv : Value} {S : MS} (hy : SteepR h wv vv sv S) (hT : ThinS S) :
    ∃ v h', call n (.func (.func 52) #[] #[]) [.agg ⟨stL S wv vv sv⟩] h = some (v, h') ∧ LeaveR h S v h' := by
  obtain ⟨n, rfl⟩ : ∃ p, n = p + 1 := ⟨n - 1, by omega⟩
  refine call_any0 fok52 rfl rfl (by simp) ?_
  simp only [s52, W_seq, W_ops]
  refine ops_box (cs := stL S wv vv sv) (by omega) rfl hy.one fun g1 hx1 => ?_
  have n1 := hx1.next
  have f1 := hx1.floor
  have hy1 := hy.mono hx1.sub
  have w1 := hx1.row.whole (n := 7) rfl
  have ec := check_c (n := n) (h := g1) (by omega) (by omega) hy1 hT
  by_cases hf : faultS S = 0
  case neg =>
    simp only [rn0, rn1, rn2, rn3, rn4, rn5, rn6, rn7, rn8, if_true, if_false, Nat.le_refl, true_and, and_true, decide_true, decide_false, Bool.not_true, Bool.not_false, reduceIte, Nat.reduceEqDiff, Nat.reduceAdd, Nat.reduceMul, Nat.reduceSub, Nat.reduceLeDiff, Nat.reduceLT, w1, ec, hf, ret_tt]
    exact ⟨fun i hi => hx1.old i hi, by omega, by omega, by omega, .inl ⟨hf, rfl⟩⟩
  have hG := good_of hf
  obtain ⟨v, g2, e2, i2, ov, o2, u2, m2, f2⟩ := smallest_c (n := n) (h := g1) (by omega) (by omega) (by omega) hy1 hG
  simp only [rn0, rn1, rn2, rn3, rn4, rn5, rn6, rn7, rn8, if_true, if_false, Nat.le_refl, true_and, and_true, decide_true, decide_false, Bool.not_true, Bool.not_false, reduceIte, Nat.reduceEqDiff, Nat.reduceAdd, Nat.reduceMul, Nat.reduceSub, Nat.reduceLeDiff, Nat.reduceLT, w1, ec, hf, build_wk, e2, ret_tt]
  exact ⟨fun i hi => by rw [o2 i (by omega), hx1.old i hi], by omega, by omega, by omega, .inr ⟨hf, v, rfl, i2, ov⟩⟩
end Go.Vm.St

namespace Go.Vm.St
open Go.Proofs Go.Vm.Vat
set_option linter.unusedSimpArgs false
set_option linter.unusedVariables false
set_option maxRecDepth 10000
variable {n : Nat} {h : AHeap}
end Go.Vm.St

namespace Go.Vm.St
open Go.Proofs Go.Vm.Vat
set_option linter.unusedSimpArgs false
set_option linter.unusedVariables false
set_option maxRecDepth 10000
variable {n : Nat} {h : AHeap}
theorem allE_mem {S : MS} {c : Nat → Int} : c ∈ allE S ↔ InU S c ∧ ∀ j, numU S ≤ j → c j = 0 := by
  unfold allE
  rw [enumB_ok, Nat.zero_add]
  constructor
  · rintro ⟨h1, h2⟩; exact ⟨fun i hi => h1 i (Nat.zero_le _) hi, fun j hj => h2 j (.inr hj)⟩
  · rintro ⟨h1, h2⟩; exact ⟨fun i _ hi => h1 i hi, fun j hj => h2 j (by omega)⟩
end Go.Vm.St

namespace Go.Vm.St
open Go.Proofs Go.Vm.Vat
set_option linter.unusedSimpArgs false
set_option linter.unusedVariables false
set_option maxRecDepth 10000
variable {n : Nat} {h : AHeap}
structure WidS (S X : MS) : Prop where
  last : X.last = S.last
  per : X.per = S.per
  nw : X.nw = S.nw
  nv : X.nv = S.nv
  ns : X.ns = S.ns
  vb : X.vb = S.vb
  vn : X.vn = S.vn
  sv : X.sv = S.sv
  sh : X.sh = S.sh
  sk : X.sk = S.sk
  u : ∀ i, i < numU S → uLo X i ≤ uLo S i ∧ uHi S i ≤ uHi X i
section
variable {S X : MS}
theorem WidS.num (hw : WidS S X) : numU X = numU S := by unfold numU; rw [hw.nw, hw.nv]
theorem WidS.all (hw : WidS S X) {c : Nat → Int} (hc : c ∈ allE S) : c ∈ allE X := by
  rw [allE_mem] at hc ⊢
  refine ⟨fun i hi => ?_, fun j hj => hc.2 j (by rw [← hw.num]; exact hj)⟩
  rw [hw.num] at hi
  have h1 := hc.1 i hi
  have h2 := hw.u i hi
  omega
theorem WidS.warm (hw : WidS S X) {u : Nat → Int} {v : Nat} {t : Int} : warmS X u v t = warmS S u v t := by unfold warmS; rw [hw.vb]
theorem WidS.blue (hw : WidS S X) {u : Nat → Int} {v : Nat} {t : Int} : blueS X u v t = blueS S u v t := by unfold blueS; rw [hw.per, hw.nw, hw.warm]
theorem WidS.kind (hw : WidS S X) {u : Nat → Int} {v : Nat} {t : Int} : kindS X u v t = kindS S u v t := by unfold kindS; rw [hw.nw, hw.warm, hw.blue, hw.vn]
theorem WidS.right (hw : WidS S X) {u : Nat → Int} {k : Nat} : RightS X u k ↔ RightS S u k := by unfold RightS; rw [hw.kind, hw.sv, hw.sh, hw.sk]
theorem WidS.truth (hw : WidS S X) {t : Nat → Int} (ht : t ∈ truthsS S) : t ∈ truthsS X := by
  rw [truths_mem, ← allE_mem] at ht ⊢
  exact ⟨hw.all ht.1, fun k hk => hw.right.2 (ht.2 k (by rw [← hw.ns]; exact hk))⟩
theorem WidS.hours (hw : WidS S X) {v : Nat} : hoursN X v = hoursN S v := by unfold hoursN; rw [hw.last, hw.vb]
theorem WidS.lo (hw : WidS S X) (hz : truthsS S ≠ []) {v q : Nat} : loB X v (truthsS X) ((truthsS X).length - 1) q ≤ loB S v (truthsS S) ((truthsS S).length - 1) q := by
  have hz' : truthsS X ≠ [] := by
    obtain ⟨t, ht⟩ := List.exists_mem_of_ne_nil _ hz
    exact List.ne_nil_of_mem (hw.truth ht)
  have e1 : loB X v (truthsS X) ((truthsS X).length - 1) q = loN (fun t => blueS X t v (X.vb v + (q : Int))) (truthsS X) := rfl
  have e2 : loB S v (truthsS S) ((truthsS S).length - 1) q = loN (fun t => blueS S t v (S.vb v + (q : Int))) (truthsS S) := rfl
  rw [e1, e2]
  refine (le_loN hz).2 fun t ht => ?_
  have h1 := (le_loN hz' (val := fun t => blueS X t v (X.vb v + (q : Int)))).1 (Int.le_refl _) t (hw.truth ht)
  simp only [hw.blue, hw.vb] at h1 ⊢
  exact h1
theorem WidS.hi (hw : WidS S X) (hz : truthsS S ≠ []) {v q : Nat} : hiB S v (truthsS S) ((truthsS S).length - 1) q ≤ hiB X v (truthsS X) ((truthsS X).length - 1) q := by
  have hz' : truthsS X ≠ [] := by
    obtain ⟨t, ht⟩ := List.exists_mem_of_ne_nil _ hz
    exact List.ne_nil_of_mem (hw.truth ht)
  have e1 : hiB X v (truthsS X) ((truthsS X).length - 1) q = hiN (fun t => blueS X t v (X.vb v + (q : Int))) (truthsS X) := rfl
  have e2 : hiB S v (truthsS S) ((truthsS S).length - 1) q = hiN (fun t => blueS S t v (S.vb v + (q : Int))) (truthsS S) := rfl
  rw [e1, e2]
  refine (hiN_le hz).2 fun t ht => ?_
  have h1 := (hiN_le hz' (val := fun t => blueS X t v (X.vb v + (q : Int)))).1 (Int.le_refl _) t (hw.truth ht)
  simp only [hw.blue, hw.vb] at h1 ⊢
  exact h1
theorem verd_1 {S : MS} {v : Nat} {t : Int} {L : List (Nat → Int)} (hL : L ≠ []) : verdS S v t 1 L = 1 ↔ ∀ c, c ∈ L → kindS S c v t = 1 := by
  unfold verdS
  by_cases c1 : ∀ c, c ∈ L → kindS S c v t ≠ 1
  · rw [if_pos c1]
    constructor
    · intro h; cases h
    · intro h
      obtain ⟨c, hc⟩ := List.exists_mem_of_ne_nil _ hL
      exact absurd (h c hc) (c1 c hc)
  · rw [if_neg c1]
    by_cases c2 : ∀ c, c ∈ L → kindS S c v t = 1
    · rw [if_pos c2]; exact ⟨fun _ => c2, fun _ => rfl⟩
    · rw [if_neg c2]
      constructor
      · intro h; cases h
      · intro h; exact absurd h c2
end
theorem leave_nil {S : MS} (hG : Good S) (hl : leaveS S = []) : truthsS S ≠ [] := by
  obtain ⟨⟨t, ht, e⟩, _⟩ := leaveS_min hG
  rw [hl] at e
  have hm : t ∈ truthsS S := truths_mem.2 ⟨allE_mem.1 ht, fun k hk => by
    apply Classical.byContradiction
    intro hw
    obtain ⟨i, h1, _⟩ := pick_has (p := wrS S t) hk hw
    have e : pickL (wrS S t) S.ns = [] := e.symm
    rw [e] at h1
    exact absurd h1 (Nat.not_lt_zero _)⟩
  intro hz
  rw [hz] at hm
  cases hm
def s66 : SCode := (.seq (.ops [⟨(some 4), none, .mov (.const (.bool false))⟩]) (.seq (.seq (.ops [⟨(some 6), none, .mov (T 0)⟩, ⟨(some 7), none, .len (T 6)⟩, ⟨(some 8), none, .mov (T 1)⟩, ⟨(some 9), none, .len (T 8)⟩, ⟨(some 10), none, .int2 .neq (T 7) (T 9)⟩]) (.cond (T 10) (.seq (.ops [⟨(some 4), none, .mov (.const (.bool false))⟩]) .ret) .skip)) (.seq (.seq (.ops [⟨(some 5), none, .mov (.const (.int .i64 (0)))⟩]) (.block 0 (.loop (.seq (.seq (.ops [⟨(some 11), none, .mov (T 5)⟩, ⟨(some 12), none, .mov (T 0)⟩, ⟨(some 13), none, .len (T 12)⟩, ⟨(some 14), none, .int2 .lss (T 11) (T 13)⟩]) (.cond (T 14) .skip (.exit 0))) (.seq (.block 1 (.seq (.draw [⟨.free, ⟨(some 17), none, .mov (T 0)⟩⟩, ⟨.free, ⟨(some 18), none, .mov (T 5)⟩⟩, ⟨.free, ⟨(some 19), none, .idxSl 2 (T 17) (T 18)⟩⟩, ⟨.free, ⟨(some 20), none, .fieldAddr 0 (T 19)⟩⟩, ⟨.rd1, ⟨(some 21), none, .load1 (T 20)⟩⟩, ⟨.free, ⟨(some 22), none, .mov (T 1)⟩⟩, ⟨.free, ⟨(some 23), none, .mov (T 5)⟩⟩, ⟨.free, ⟨(some 24), none, .idxSl 2 (T 22) (T 23)⟩⟩, ⟨.free, ⟨(some 25), none, .fieldAddr 0 (T 24)⟩⟩, ⟨.rd1, ⟨(some 26), none, .load1 (T 25)⟩⟩, ⟨.free, ⟨(some 27), none, .int2 .lss (T 21) (T 26)⟩⟩, ⟨.free, ⟨(some 28), none, .mov (T 27)⟩⟩, ⟨.free, ⟨(some 29), (some (28, false)), .mov (T 0)⟩⟩, ⟨.free, ⟨(some 30), (some (28, false)), .mov (T 5)⟩⟩, ⟨.free, ⟨(some 31), (some (28, false)), .idxSl 2 (T 29) (T 30)⟩⟩, ⟨.free, ⟨(some 32), (some (28, false)), .fieldAddr 1 (T 31)⟩⟩, ⟨.rd1, ⟨(some 33), (some (28, false)), .load1 (T 32)⟩⟩, ⟨.free, ⟨(some 34), (some (28, false)), .mov (T 1)⟩⟩, ⟨.free, ⟨(some 35), (some (28, false)), .mov (T 5)⟩⟩, ⟨.free, ⟨(some 36), (some (28, false)), .idxSl 2 (T 34) (T 35)⟩⟩, ⟨.free, ⟨(some 37), (some (28, false)), .fieldAddr 1 (T 36)⟩⟩, ⟨.rd1, ⟨(some 38), (some (28, false)), .load1 (T 37)⟩⟩, ⟨.free, ⟨(some 39), (some (28, false)), .int2 .gtr (T 33) (T 38)⟩⟩, ⟨.free, ⟨(some 40), none, .pick (T 28) (.const (.bool true)) (T 39)⟩⟩]) (.cond (T 40) (.seq (.ops [⟨(some 4), none, .mov (.const (.bool false))⟩]) .ret) .skip))) (.ops [⟨(some 15), none, .mov (T 5)⟩, ⟨(some 16), none, .int2 .add (T 15) (.const (.int .i64 (1)))⟩, ⟨(some 5), none, .mov (T 16)⟩])))))) (.seq (.ops [⟨(some 4), none, .mov (.const (.bool true))⟩]) .ret))))
theorem fok66 : FnOk Try.prog 66 41 s66 [.tmp 4] := ⟨Try.f66, _, Try.func66, rfl, Try.ntmps66, by kernel_rfl, by kernel_rfl⟩
theorem insideL_c (hn : 400 ≤ n) {va vb : Value} {m k : Nat} {a b a' b' : Nat → Int} (hm : m ≤ 300) (ha : Ranges h va m a b) (hb : Ranges h vb k a' b') (hmk : m = k) (hin : ∀ i, i < m → a' i ≤ a i ∧ b i ≤ b' i) :
    call n (.func (.func 66) #[] #[]) [va, vb] h = some (.bool true, h) := by
  obtain ⟨n, rfl⟩ : ∃ p, n = p + 1 := ⟨n - 1, by omega⟩
  subst hmk
  refine call_plain0 fok66 rfl rfl (by simp) rfl ?_
  have ha : Ranges h.shutAll va m a b := Cells.shut ha
  have hb : Ranges h.shutAll vb m a' b' := Cells.shut hb
  generalize h.shutAll = h at ha hb
  simp only [rn0, rn1, rn2, rn3, rn4, rn5, rn6, rn7, rn8, if_true, if_false, Nat.le_refl, true_and, and_true, decide_true, decide_false, Bool.not_true, Bool.not_false, reduceIte, Nat.reduceEqDiff, Nat.reduceAdd, Nat.reduceMul, Nat.reduceSub, Nat.reduceLeDiff, Nat.reduceLT, s66, Cells.len ha, Cells.len hb]
  refine W_loop m (fun k f g ms => g = h ∧ ms = [] ∧ f 0 = va ∧ f 1 = vb ∧ f 5 = .int .i64 (k : Int)) (by simp; omega) ?_ ?_ ?_
  · simp only [rn0, rn1, rn2, rn3, rn4, rn5, rn6, rn7, rn8, if_true, if_false, Nat.le_refl, true_and, and_true, decide_true, decide_false, Bool.not_true, Bool.not_false, reduceIte, Nat.reduceEqDiff, Nat.reduceAdd, Nat.reduceMul, Nat.reduceSub, Nat.reduceLeDiff, Nat.reduceLT]
    first | done | rfl
  · rintro k f g ms hk ⟨rfl, rfl, p0, p1, p5⟩
    have hk' : (k : Int) < (m : Int) := by omega
    have hw : wrapF .i64 ((k : Int) + 1) = ((k + 1 : Nat) : Int) := by rw [wrap_in (by omega) (by omega)]; rfl
    obtain ⟨q1, q2⟩ := hin k hk
    have c1 : ¬ a k < a' k := by omega
    have c2 : ¬ b' k < b k := by omega
    have la := Cells.ld ha hk (j := 0) (by omega)
    have lb := Cells.ld hb hk (j := 0) (by omega)
    have la1 := Cells.ld ha hk (j := 1) (by omega)
    have lb1 := Cells.ld hb hk (j := 1) (by omega)
    simp only [rn0, rn1, rn2, rn3, rn4, rn5, rn6, rn7, rn8, if_true, if_false, Nat.le_refl, true_and, and_true, decide_true, decide_false, Bool.not_true, Bool.not_false, reduceIte, Nat.reduceEqDiff, Nat.reduceAdd, Nat.reduceMul, Nat.reduceSub, Nat.reduceLeDiff, Nat.reduceLT, p0, p1, p5, Cells.len ha, hk']
    refine W_draw All ?_
    simp only [rn0, rn1, rn2, rn3, rn4, rn5, rn6, rn7, rn8, if_true, if_false, Nat.le_refl, true_and, and_true, decide_true, decide_false, Bool.not_true, Bool.not_false, reduceIte, Nat.reduceEqDiff, Nat.reduceAdd, Nat.reduceMul, Nat.reduceSub, Nat.reduceLeDiff, Nat.reduceLT, p0, p1, p5, d_guard, dg_tt, dg_tf, dg_ft, dg_ff, dg_un, Cells.idx ha hk, Cells.idx hb hk, Cells.fld ha hk, Cells.fld hb hk, la, lb, la1, lb1, c1, c2, hw, Nat.zero_add]
  · rintro f g ms ⟨rfl, rfl, p0, p1, p5⟩
    simp only [rn0, rn1, rn2, rn3, rn4, rn5, rn6, rn7, rn8, if_true, if_false, Nat.le_refl, true_and, and_true, decide_true, decide_false, Bool.not_true, Bool.not_false, reduceIte, Nat.reduceEqDiff, Nat.reduceAdd, Nat.reduceMul, Nat.reduceSub, Nat.reduceLeDiff, Nat.reduceLT, p0, p1, p5, Cells.len ha, Int.lt_irrefl]
end Go.Vm.St

namespace Go.Vm.St
open Go.Proofs Go.Vm.Vat
set_option linter.unusedSimpArgs false
set_option linter.unusedVariables false
set_option maxRecDepth 10000
variable {n : Nat} {h : AHeap}
structure CopyR (h0 g : AHeap) (p bw bv : Nat) (WV VV sv : Value) (S : MS) : Prop where
  row : g.get p = some (.row (stL S WV VV sv) true 0)
  w : WV = .slice (some ⟨bw, 0, none⟩) S.nw unk
  gw : g.get bw = some (.row (rngL S.nw S.wlo S.whi) true 2)
  v : 0 < S.nv → VV = .slice (some ⟨bv, 0, none⟩) S.nv unk ∧ g.get bv = some (.row (flatL 4 S.nv (vatC S)) true 4)
  v0 : S.nv = 0 → ∀ (g : AHeap) c, Cells g VV 4 0 c
  s : Samps h0 sv S.ns S.sv S.sh S.sk
  old : ∀ i, i < h0.next → g.get i = h0.get i
  ne : p ≠ bw ∧ p ≠ bv ∧ bw ≠ bv
  up : h0.next ≤ p ∧ h0.next ≤ bw ∧ h0.next ≤ bv
section
variable {h0 g : AHeap} {p bw bv : Nat} {WV VV sv : Value} {S : MS}
theorem CopyR.steep (hc : CopyR h0 g p bw bv WV VV sv S) : SteepR g WV VV sv S := by
  refine ⟨?_, ?_, cells_at hc.s fun a k cap e lt => hc.old _ lt⟩
  · rw [hc.w]; exact rngL_cells hc.gw
  · by_cases c : S.nv = 0
    · have := hc.v0 c g (vatC S)
      rw [← c] at this
      exact this
    · obtain ⟨e, hg⟩ := hc.v (by omega)
      rw [e]
      exact vats_row hg
def TurnsTo (g : AHeap) (p b off : Nat) (sv : Value) (S : MS) : Prop := ∃ gr cs lo hi, g.get b = some (.row cs true gr) ∧ off + 2 ≤ cs.length ∧ cs[off]? = some (.int .i64 lo) ∧ cs[off + 1]? = some (.int .i64 hi) ∧ 0 ≤ lo ∧ lo ≤ 100 ∧ 0 ≤ hi ∧ hi ≤ 100 ∧
  ∀ LO HI g5 g6, LO ≤ lo → hi ≤ HI → Set1 g g5 b (splice cs off [.int .i64 LO]) gr → Set1 g5 g6 b (splice (splice cs off [.int .i64 LO]) (off + 1) [.int .i64 HI]) gr → ∃ X W V, Row g6 p (stL X W V sv) ∧ SteepR g6 W V sv X ∧ WidS S X
theorem CopyR.warm (hc : CopyR h0 g p bw bv WV VV sv S) (hG : Good S) {k : Nat} (hk : k < S.nw) : TurnsTo g p bw (k * 2) sv S := by
  obtain ⟨b1, b2, b3⟩ := hG.args.warm k hk
  have hget : ∀ k j, k < S.nw → j < 2 → (rngL S.nw S.wlo S.whi)[k * 2 + j]? = some (.int .i64 (if j = 0 then S.wlo k else S.whi k)) := fun k j hk hj => flatL_get (c := fun k j => .int .i64 (if j = 0 then S.wlo k else S.whi k)) hk hj
  refine ⟨2, _, S.wlo k, S.whi k, hc.gw, by rw [rngL, flatL_len]; omega, hget k 0 hk (by omega), hget k 1 hk (by omega), b1, by omega, by omega, by omega, fun LO HI g5 g6 h1 h2 s5 s6 => ?_⟩
  have old : ∀ i, i ≠ bw → g6.get i = g.get i := fun i hi => by rw [s6.old i hi, s5.old i hi]
  obtain ⟨n1, n2, n3⟩ := hc.ne
  have c5 := Go.Vm.Vat.splice_at (x := .int .i64 LO) hget hk (show 0 < 2 by omega)
  have c6 := Go.Vm.Vat.splice_at (x := .int .i64 HI) c5 hk (show 1 < 2 by omega)
  refine ⟨{ S with wlo := fun i => if i = k then LO else S.wlo i, whi := fun i => if i = k then HI else S.whi i }, WV, VV, ⟨_, _, by rw [old _ n1]; exact hc.row⟩, ⟨?_, ?_, ?_⟩, ⟨rfl, rfl, rfl, rfl, rfl, rfl, rfl, rfl, rfl, rfl, fun i hi => ?_⟩⟩
  · rw [hc.w]
    refine cells_row (m := S.nw) (s := 2) s6.row fun k' j hk' hj => ?_
    rw [Nat.add_zero] at c6
    rw [c6 k' j hk' hj]
    by_cases ek : k' = k
    · subst ek
      obtain rfl | rfl : j = 0 ∨ j = 1 := by omega
      · simp
      · simp
    · simp [ek]
  · by_cases c : S.nv = 0
    · have := hc.v0 c g6 (vatC S)
      rw [← c] at this
      exact this
    · obtain ⟨e, hg⟩ := hc.v (by omega)
      rw [e]
      exact vats_row (S := S) (by rw [old _ (Ne.symm n3)]; exact hg)
  · exact cells_at hc.s fun a k cap e lt => by have u2 := hc.up; rw [old _ (by omega)]; exact hc.old _ lt
  · simp only [uLo, uHi]
    by_cases c1 : i < S.nw
    · simp only [c1, if_true]
      by_cases c2 : i = k
      · subst c2; simp only [if_true]; exact ⟨h1, h2⟩
      · simp only [c2, if_false]; omega
    · by_cases c2 : i = S.nw
      · simp only [c2, Nat.lt_irrefl, if_true, if_false]; omega
      · simp only [c1, c2, if_false]; omega
theorem CopyR.vat (hc : CopyR h0 g p bw bv WV VV sv S) (hG : Good S) {k : Nat} (hk : k < S.nv) : TurnsTo g p bv (k * 4 + 1) sv S := by
  obtain ⟨_, ⟨b1, b2, b3⟩, _⟩ := hG.args.vat k hk
  obtain ⟨e, hg⟩ := hc.v (by omega)
  have hget : ∀ k j, k < S.nv → j < 4 → (flatL 4 S.nv (vatC S))[k * 4 + j]? = some (vatC S k j) := fun k j hk hj => flatL_get (c := vatC S) hk hj
  refine ⟨4, _, S.vlo k, S.vhi k, hg, by rw [flatL_len]; omega, hget k 1 hk (by omega), hget k 2 hk (by omega), b1, by omega, by omega, by omega, fun LO HI g5 g6 h1 h2 s5 s6 => ?_⟩
  have old : ∀ i, i ≠ bv → g6.get i = g.get i := fun i hi => by rw [s6.old i hi, s5.old i hi]
  obtain ⟨n1, n2, n3⟩ := hc.ne
  have c5 := Go.Vm.Vat.splice_at (x := .int .i64 LO) hget hk (show 1 < 4 by omega)
  have c6 := Go.Vm.Vat.splice_at (x := .int .i64 HI) c5 hk (show 2 < 4 by omega)
  refine ⟨{ S with vlo := fun i => if i = k then LO else S.vlo i, vhi := fun i => if i = k then HI else S.vhi i }, WV, VV, ⟨_, _, by rw [old _ n2]; exact hc.row⟩, ⟨?_, ?_, ?_⟩, ⟨rfl, rfl, rfl, rfl, rfl, rfl, rfl, rfl, rfl, rfl, fun i hi => ?_⟩⟩
  · rw [hc.w]; exact rngL_cells (by rw [old _ n3]; exact hc.gw)
  · rw [e]
    refine cells_row (m := S.nv) (s := 4) s6.row fun k' j hk' hj => ?_
    rw [show k * 4 + 1 + 1 = k * 4 + 2 from rfl]
    rw [c6 k' j hk' hj]
    by_cases ek : k' = k
    · subst ek
      obtain rfl | rfl | rfl | rfl : j = 0 ∨ j = 1 ∨ j = 2 ∨ j = 3 := by omega
      all_goals simp [vatC]
    · simp [ek, vatC]
  · exact cells_at hc.s fun a k cap e lt => by have u3 := hc.up; rw [old _ (by omega)]; exact hc.old _ lt
  · simp only [uLo, uHi]
    by_cases c1 : i < S.nw
    · simp only [c1, if_true]; omega
    · by_cases c2 : i = S.nw
      · simp only [c2, Nat.lt_irrefl, if_true, if_false]; omega
      · simp only [c1, c2, if_false]
        by_cases c3 : i - S.nw - 1 = k
        · simp only [c3, if_true]; exact ⟨h1, h2⟩
        · simp only [c3, if_false]; omega
end
end Go.Vm.St

namespace Go.Vm.St
open Go.Proofs Go.Vm.Vat
set_option linter.unusedSimpArgs false
set_option linter.unusedVariables false
set_option maxRecDepth 10000
variable {n : Nat} {h : AHeap}
def s17 : SCode := (.seq (.ops [⟨(some 4), none, .box (T 0)⟩, ⟨(some 8), none, .mov (.const (.bool false))⟩]) (.seq (.seq (.ops [⟨(some 21), none, .loadN 7 (T 4)⟩, ⟨(some 22), none, .call (.func 59) [(T 21)]⟩, ⟨(some 23), none, .not (T 22)⟩]) (.cond (T 23) (.seq (.ops [⟨(some 24), none, .call (.func 24) []⟩, ⟨(some 8), none, .mov (T 24)⟩]) .ret) .skip)) (.seq (.ops [⟨(some 25), none, .loadN 7 (T 4)⟩, ⟨(some 9), none, .alloc [(.int .i64 (0)), (.int .i64 (0)), (.slice none 0 0), (.int .i64 (0)), (.int .i64 (0)), (.slice none 0 0), (.slice none 0 0)]⟩, ⟨none, none, .store 7 (T 9) (T 25)⟩]) (.seq (.draw [⟨.up, ⟨(some 26), none, .bslice 2 0 [(.int .i64 (0)), (.int .i64 (0))] [] []⟩⟩, ⟨.free, ⟨(some 27), none, .fieldAddr 2 (T 4)⟩⟩, ⟨.rd, ⟨(some 28), none, .load1 (T 27)⟩⟩, ⟨.up, ⟨(some 29), none, .append 2 16 (T 26) (T 28)⟩⟩, ⟨.up, ⟨(some 30), none, .bslice 4 0 [(.int .i64 (0)), (.int .i64 (0)), (.int .i64 (0)), (.int .i64 (0))] [] []⟩⟩, ⟨.free, ⟨(some 31), none, .fieldAddr 5 (T 4)⟩⟩, ⟨.rd, ⟨(some 32), none, .load1 (T 31)⟩⟩, ⟨.any, ⟨(some 33), none, .append 4 32 (T 30) (T 32)⟩⟩, ⟨.free, ⟨(some 34), none, .fieldAddr 2 (T 9)⟩⟩, ⟨.any, ⟨none, none, .store 1 (T 34) (T 29)⟩⟩, ⟨.free, ⟨(some 35), none, .fieldAddr 5 (T 9)⟩⟩, ⟨.any, ⟨none, none, .store 1 (T 35) (T 33)⟩⟩]) (.seq (.ops [⟨(some 36), none, .fieldAddr 3 (T 9)⟩, ⟨(some 10), none, .mov (T 36)⟩]) (.seq (.ops [⟨(some 37), none, .mov (T 1)⟩, ⟨(some 38), none, .plain (.convert 5 3 (T 37)) 3⟩, ⟨(some 39), none, .fieldAddr 2 (T 9)⟩, ⟨(some 40), none, .load1 (T 39)⟩, ⟨(some 41), none, .len (T 40)⟩, ⟨(some 42), none, .int2 .add (.const (.int .i64 (1))) (T 41)⟩, ⟨(some 43), none, .fieldAddr 5 (T 9)⟩, ⟨(some 44), none, .load1 (T 43)⟩, ⟨(some 45), none, .len (T 44)⟩, ⟨(some 46), none, .int2 .add (T 42) (T 45)⟩, ⟨(some 47), none, .plain (.binOp .rem 3 (T 38) (T 46) 3) 3⟩, ⟨(some 11), none, .mov (T 47)⟩]) (.seq (.seq (.ops [⟨(some 48), none, .mov (T 11)⟩, ⟨(some 49), none, .fieldAddr 2 (T 9)⟩, ⟨(some 50), none, .load1 (T 49)⟩, ⟨(some 51), none, .len (T 50)⟩, ⟨(some 52), none, .int2 .gtr (T 48) (T 51)⟩]) (.cond (T 52) (.ops [⟨(some 53), none, .fieldAddr 5 (T 9)⟩, ⟨(some 54), none, .load1 (T 53)⟩, ⟨(some 55), none, .mov (T 11)⟩, ⟨(some 56), none, .fieldAddr 2 (T 9)⟩, ⟨(some 57), none, .load1 (T 56)⟩, ⟨(some 58), none, .len (T 57)⟩, ⟨(some 59), none, .int2 .sub (T 55) (T 58)⟩, ⟨(some 60), none, .int2 .sub (T 59) (.const (.int .i64 (1)))⟩, ⟨(some 61), none, .idxSl 4 (T 54) (T 60)⟩, ⟨(some 62), none, .fieldAddr 1 (T 61)⟩, ⟨(some 10), none, .mov (T 62)⟩]) (.seq (.ops [⟨(some 63), none, .mov (T 11)⟩, ⟨(some 64), none, .int2 .gtr (T 63) (.const (.int .i64 (0)))⟩]) (.cond (T 64) (.ops [⟨(some 65), none, .fieldAddr 2 (T 9)⟩, ⟨(some 66), none, .load1 (T 65)⟩, ⟨(some 67), none, .mov (T 11)⟩, ⟨(some 68), none, .int2 .sub (T 67) (.const (.int .i64 (1)))⟩, ⟨(some 69), none, .idxSl 2 (T 66) (T 68)⟩, ⟨(some 10), none, .mov (T 69)⟩]) .skip)))) (.seq (.draw [⟨.free, ⟨(some 70), none, .mov (T 10)⟩⟩, ⟨.free, ⟨(some 71), none, .mov (T 10)⟩⟩, ⟨.free, ⟨(some 72), none, .mov (T 10)⟩⟩, ⟨.free, ⟨(some 73), none, .there (T 72)⟩⟩, ⟨.free, ⟨(some 74), none, .fieldAddr 0 (T 73)⟩⟩, ⟨.rd1, ⟨(some 75), none, .load1 (T 74)⟩⟩, ⟨.free, ⟨(some 76), none, .mov (T 2)⟩⟩, ⟨.free, ⟨(some 77), none, .plain (.convert 5 3 (T 76)) 3⟩⟩, ⟨.free, ⟨(some 78), none, .plain (.binOp .rem 3 (T 77) (.const (.int .i64 (2))) 3) 3⟩⟩, ⟨.free, ⟨(some 79), none, .int2 .sub (T 75) (T 78)⟩⟩, ⟨.free, ⟨(some 80), none, .mov (T 10)⟩⟩, ⟨.free, ⟨(some 81), none, .there (T 80)⟩⟩, ⟨.free, ⟨(some 82), none, .fieldAddr 1 (T 81)⟩⟩, ⟨.rd1, ⟨(some 83), none, .load1 (T 82)⟩⟩, ⟨.free, ⟨(some 84), none, .mov (T 2)⟩⟩, ⟨.free, ⟨(some 85), none, .plain (.convert 5 3 (T 84)) 3⟩⟩, ⟨.free, ⟨(some 86), none, .plain (.binOp .quo 3 (T 85) (.const (.int .i64 (2))) 3) 3⟩⟩, ⟨.free, ⟨(some 87), none, .plain (.binOp .rem 3 (T 86) (.const (.int .i64 (2))) 3) 3⟩⟩, ⟨.free, ⟨(some 88), none, .int2 .add (T 83) (T 87)⟩⟩, ⟨.free, ⟨(some 89), none, .there (T 70)⟩⟩, ⟨.free, ⟨(some 90), none, .fieldAddr 0 (T 89)⟩⟩, ⟨.any, ⟨none, none, .store 1 (T 90) (T 79)⟩⟩, ⟨.free, ⟨(some 91), none, .there (T 71)⟩⟩, ⟨.free, ⟨(some 92), none, .fieldAddr 1 (T 91)⟩⟩, ⟨.any, ⟨none, none, .store 1 (T 92) (T 88)⟩⟩]) (.seq (.seq (.ops [⟨(some 93), none, .loadN 7 (T 9)⟩, ⟨(some 94), none, .call (.func 59) [(T 93)]⟩, ⟨(some 95), none, .not (T 94)⟩]) (.cond (T 95) (.seq (.ops [⟨(some 96), none, .call (.func 24) []⟩, ⟨(some 8), none, .mov (T 96)⟩]) .ret) .skip)) (.seq (.ops [⟨(some 98), none, .loadN 7 (T 4)⟩, ⟨(some 99), none, .call (.func 26) [(T 98)]⟩, ⟨(some 100), none, .call (.func 52) [(T 99)]⟩, ⟨(some 97), none, .mov (T 100)⟩, ⟨(some 101), none, .extract 0 (T 97)⟩, ⟨(some 102), none, .extract 1 (T 97)⟩, ⟨(some 12), none, .mov (T 101)⟩, ⟨(some 13), none, .mov (T 102)⟩]) (.seq (.ops [⟨(some 104), none, .loadN 7 (T 9)⟩, ⟨(some 105), none, .call (.func 26) [(T 104)]⟩, ⟨(some 106), none, .call (.func 52) [(T 105)]⟩, ⟨(some 103), none, .mov (T 106)⟩, ⟨(some 107), none, .extract 0 (T 103)⟩, ⟨(some 108), none, .extract 1 (T 103)⟩, ⟨(some 14), none, .mov (T 107)⟩, ⟨(some 15), none, .mov (T 108)⟩]) (.seq (.seq (.ops [⟨(some 109), none, .mov (T 13)⟩, ⟨(some 110), none, .int2 .neq (T 109) (.const (.int .i64 (0)))⟩, ⟨(some 111), none, .mov (T 110)⟩, ⟨(some 112), (some (111, false)), .mov (T 15)⟩, ⟨(some 113), (some (111, false)), .int2 .neq (T 112) (.const (.int .i64 (0)))⟩, ⟨(some 114), none, .pick (T 111) (.const (.bool true)) (T 113)⟩, ⟨(some 115), none, .mov (T 114)⟩, ⟨(some 116), (some (115, false)), .mov (T 14)⟩, ⟨(some 117), (some (115, false)), .len (T 116)⟩, ⟨(some 118), (some (115, false)), .mov (T 12)⟩, ⟨(some 119), (some (115, false)), .len (T 118)⟩, ⟨(some 120), (some (115, false)), .int2 .gtr (T 117) (T 119)⟩, ⟨(some 121), none, .pick (T 115) (.const (.bool true)) (T 120)⟩]) (.cond (T 121) (.seq (.ops [⟨(some 8), none, .mov (.const (.bool false))⟩]) .ret) .skip)) (.seq (.seq (.ops [⟨(some 122), none, .mov (T 12)⟩, ⟨(some 123), none, .len (T 122)⟩, ⟨(some 124), none, .int2 .gtr (T 123) (.const (.int .i64 (0)))⟩, ⟨(some 125), none, .mov (T 124)⟩, ⟨(some 126), (some (125, false)), .fieldAddr 5 (T 4)⟩, ⟨(some 127), (some (125, false)), .load1 (T 126)⟩, ⟨(some 128), (some (125, false)), .len (T 127)⟩, ⟨(some 129), (some (125, false)), .int2 .eql (T 128) (.const (.int .i64 (0)))⟩, ⟨(some 130), none, .pick (T 125) (.const (.bool true)) (T 129)⟩]) (.cond (T 130) (.seq (.ops [⟨(some 131), none, .call (.func 24) []⟩, ⟨(some 8), none, .mov (T 131)⟩]) .ret) .skip)) (.seq (.ops [⟨(some 132), none, .mov (T 3)⟩, ⟨(some 133), none, .plain (.convert 5 3 (T 132)) 3⟩, ⟨(some 134), none, .fieldAddr 5 (T 4)⟩, ⟨(some 135), none, .load1 (T 134)⟩, ⟨(some 136), none, .len (T 135)⟩, ⟨(some 137), none, .plain (.binOp .rem 3 (T 133) (T 136) 3) 3⟩, ⟨(some 16), none, .mov (T 137)⟩]) (.seq (.ops [⟨(some 139), none, .loadN 7 (T 4)⟩, ⟨(some 140), none, .call (.func 26) [(T 139)]⟩, ⟨(some 141), none, .mov (T 16)⟩, ⟨(some 142), none, .call (.func 35) [(T 140), (T 141)]⟩, ⟨(some 138), none, .mov (T 142)⟩, ⟨(some 143), none, .extract 0 (T 138)⟩, ⟨(some 144), none, .extract 1 (T 138)⟩, ⟨(some 17), none, .mov (T 143)⟩, ⟨(some 18), none, .mov (T 144)⟩]) (.seq (.ops [⟨(some 146), none, .loadN 7 (T 9)⟩, ⟨(some 147), none, .call (.func 26) [(T 146)]⟩, ⟨(some 148), none, .mov (T 16)⟩, ⟨(some 149), none, .call (.func 35) [(T 147), (T 148)]⟩, ⟨(some 145), none, .mov (T 149)⟩, ⟨(some 150), none, .extract 0 (T 145)⟩, ⟨(some 151), none, .extract 1 (T 145)⟩, ⟨(some 19), none, .mov (T 150)⟩, ⟨(some 20), none, .mov (T 151)⟩]) (.seq (.ops [⟨(some 152), none, .mov (T 18)⟩, ⟨(some 153), none, .int2 .eql (T 152) (.const (.int .i64 (0)))⟩, ⟨(some 154), none, .mov (T 153)⟩, ⟨(some 155), (some (154, true)), .mov (T 20)⟩, ⟨(some 156), (some (154, true)), .int2 .eql (T 155) (.const (.int .i64 (0)))⟩, ⟨(some 157), none, .pick (T 154) (T 156) (.const (.bool false))⟩, ⟨(some 158), none, .mov (T 157)⟩, ⟨(some 159), (some (158, true)), .mov (T 17)⟩, ⟨(some 160), (some (158, true)), .mov (T 19)⟩, ⟨(some 161), (some (158, true)), .call (.func 66) [(T 159), (T 160)]⟩, ⟨(some 162), none, .pick (T 158) (T 161) (.const (.bool false))⟩, ⟨(some 163), none, .mov (T 162)⟩, ⟨(some 164), (some (163, true)), .loadN 7 (T 9)⟩, ⟨(some 165), (some (163, true)), .loadN 7 (T 4)⟩, ⟨(some 166), (some (163, true)), .mov (T 16)⟩, ⟨(some 167), (some (163, true)), .call (.func 67) [(T 164), (T 165), (T 166)]⟩, ⟨(some 168), none, .pick (T 163) (T 167) (.const (.bool false))⟩, ⟨(some 169), none, .mov (T 168)⟩, ⟨(some 170), (some (169, true)), .call (.func 24) []⟩, ⟨(some 171), none, .pick (T 169) (T 170) (.const (.bool false))⟩, ⟨(some 8), none, .mov (T 171)⟩]) .ret)))))))))))))))))
end Go.Vm.St

namespace Go.Vm.St
open Go.Proofs Go.Vm.Vat
set_option linter.unusedSimpArgs false
set_option linter.unusedVariables false
set_option maxRecDepth 10000
variable {n : Nat} {h : AHeap}
theorem pick_succ' {p : Nat → Prop} {k : Nat} : (pickL p k).length ≤ (pickL p (k + 1)).length ∧ (pickL p (k + 1)).length ≤ (pickL p k).length + 1 := by
  by_cases c : p k
  · rw [pick_yes c, List.length_append, List.length_singleton]; omega
  · rw [pick_no c]; omega
section
variable {S : MS} {v hh kk : Int}
theorem plus_right {t : Nat → Int} {k : Nat} (hk : k < S.ns) : RightS (moreS S v hh kk) t k ↔ RightS S t k := by
  show kindS S t (if k = S.ns then v else S.sv k).toNat (if k = S.ns then hh else S.sh k) = (if k = S.ns then kk else S.sk k) ↔ _
  have : ¬ k = S.ns := by omega
  simp only [this, if_false]
  rfl
theorem plus_wrong {t : Nat → Int} : (wrongL S t).length ≤ (wrongL (moreS S v hh kk) t).length ∧ (wrongL (moreS S v hh kk) t).length ≤ (wrongL S t).length + 1 := by
  have e : pickL (wrS (moreS S v hh kk) t) S.ns = pickL (wrS S t) S.ns := pick_congr fun j hj => by unfold wrS; rw [plus_right hj]
  have h1 := pick_succ' (p := wrS (moreS S v hh kk) t) (k := S.ns)
  rw [e] at h1
  exact h1
theorem plus_leave (hG : Good S) (hX : Good (moreS S v hh kk)) : (leaveS S).length ≤ (leaveS (moreS S v hh kk)).length ∧ (leaveS (moreS S v hh kk)).length ≤ (leaveS S).length + 1 := by
  have ea : ∀ t, t ∈ allE (moreS S v hh kk) ↔ t ∈ allE S := fun t => Iff.rfl
  constructor
  · obtain ⟨⟨t, ht, e⟩, _⟩ := leaveS_min hX
    have h2 := (leaveS_min hG).2 t ((ea t).1 ht)
    have h3 := (plus_wrong (S := S) (v := v) (hh := hh) (kk := kk) (t := t)).1
    rw [e]
    apply Classical.byContradiction
    intro hc
    exact h2 (.inl (by omega))
  · obtain ⟨⟨t, ht, e⟩, _⟩ := leaveS_min hG
    have h2 := (leaveS_min hX).2 t ((ea t).2 ht)
    have h3 := (plus_wrong (S := S) (v := v) (hh := hh) (kk := kk) (t := t)).2
    rw [← e] at h3
    apply Classical.byContradiction
    intro hc
    exact h2 (.inl (by omega))
theorem plus_truth {t : Nat → Int} (ht : t ∈ truthsS (moreS S v hh kk)) : t ∈ truthsS S := by
  rw [truths_mem] at ht ⊢
  exact ⟨ht.1, fun k hk => (plus_right hk).1 (ht.2 k (by show k < S.ns + 1; omega))⟩
theorem plus_ne (hz : truthsS (moreS S v hh kk) ≠ []) : truthsS S ≠ [] := by
  obtain ⟨t, ht⟩ := List.exists_mem_of_ne_nil _ hz
  exact List.ne_nil_of_mem (plus_truth ht)
theorem plus_lo (hz : truthsS (moreS S v hh kk) ≠ []) {o q : Nat} : loB S o (truthsS S) ((truthsS S).length - 1) q ≤ loB (moreS S v hh kk) o (truthsS (moreS S v hh kk)) ((truthsS (moreS S v hh kk)).length - 1) q := by
  have e1 : loB S o (truthsS S) ((truthsS S).length - 1) q = loN (fun t => blueS S t o (S.vb o + (q : Int))) (truthsS S) := rfl
  have e2 : loB (moreS S v hh kk) o (truthsS (moreS S v hh kk)) ((truthsS (moreS S v hh kk)).length - 1) q = loN (fun t => blueS S t o (S.vb o + (q : Int))) (truthsS (moreS S v hh kk)) := rfl
  rw [e1, e2]
  exact (le_loN hz).2 fun t ht => (le_loN (plus_ne hz) (val := fun t => blueS S t o (S.vb o + (q : Int)))).1 (Int.le_refl _) t (plus_truth ht)
theorem plus_hi (hz : truthsS (moreS S v hh kk) ≠ []) {o q : Nat} : hiB (moreS S v hh kk) o (truthsS (moreS S v hh kk)) ((truthsS (moreS S v hh kk)).length - 1) q ≤ hiB S o (truthsS S) ((truthsS S).length - 1) q := by
  have e1 : hiB S o (truthsS S) ((truthsS S).length - 1) q = hiN (fun t => blueS S t o (S.vb o + (q : Int))) (truthsS S) := rfl
  have e2 : hiB (moreS S v hh kk) o (truthsS (moreS S v hh kk)) ((truthsS (moreS S v hh kk)).length - 1) q = hiN (fun t => blueS S t o (S.vb o + (q : Int))) (truthsS (moreS S v hh kk)) := rfl
  rw [e1, e2]
  exact (hiN_le hz).2 fun t ht => (hiN_le (plus_ne hz) (val := fun t => blueS S t o (S.vb o + (q : Int)))).1 (Int.le_refl _) t (plus_truth ht)
theorem plus_stay (hG : Good S) (hX : Good (moreS S v hh kk)) (hz : truthsS (moreS S v hh kk) ≠ []) {o : Nat} (ho : o < S.nv) : stayB S (moreS S v hh kk) (o : Int) = true := by
  refine stay_of hG hX ho ho (plus_ne hz) hz rfl rfl fun x hx h1 => ?_
  rw [verd_1 (plus_ne hz)] at h1
  rw [verd_1 hz]
  intro c hc
  exact h1 c (plus_truth hc)
theorem plus_verd (hz : truthsS (moreS S v hh kk) ≠ []) {o : Nat} {x : Int} : verdS S o x 1 (truthsS S) = 3 ∨ verdS S o x 1 (truthsS S) = verdS (moreS S v hh kk) o x 1 (truthsS (moreS S v hh kk)) := by
  unfold verdS
  by_cases c1 : ∀ t, t ∈ truthsS S → kindS S t o x ≠ 1
  · right
    have c1' : ∀ t, t ∈ truthsS (moreS S v hh kk) → kindS (moreS S v hh kk) t o x ≠ 1 := fun t ht => c1 t (plus_truth ht)
    rw [if_pos c1, if_pos c1']
  · rw [if_neg c1]
    by_cases c2 : ∀ t, t ∈ truthsS S → kindS S t o x = 1
    · right
      have c3 : ∀ t, t ∈ truthsS (moreS S v hh kk) → kindS (moreS S v hh kk) t o x = 1 := fun t ht => c2 t (plus_truth ht)
      have c4 : ¬ ∀ t, t ∈ truthsS (moreS S v hh kk) → kindS (moreS S v hh kk) t o x ≠ 1 := fun q => by
        obtain ⟨t, ht⟩ := List.exists_mem_of_ne_nil _ hz
        exact q t ht (c3 t ht)
      rw [if_pos c2, if_neg c4, if_pos c3]
    · left; rw [if_neg c2]
theorem plus_vats (hX : Good (moreS S v hh kk)) : 0 < S.nv := by
  obtain ⟨⟨h1, h2⟩, _⟩ := hX.args.smell S.ns (by show S.ns < S.ns + 1; omega)
  have h2 : (if S.ns = S.ns then v else S.sv S.ns) ≤ (S.nv : Int) - 1 := h2
  have h1 : 0 ≤ (if S.ns = S.ns then v else S.sv S.ns) := h1
  rw [if_pos rfl] at h1 h2
  omega
end
theorem more_app {sv : Value} {m : Nat} {sA lA rA : Nat → Int} (hS : Samps h sv m sA lA rA) (hm : m ≤ 1048576) (hr : h.next + 10 < far) (hfl : h.floor ≤ h.next) :
    ∃ e0 g1 a1 g2, buildSl 3 0 [.int .i64 0, .int .i64 0, .int .i64 0] [] h [] = some (e0, g1) ∧ appendA 3 24 g1 e0 sv = some (a1, g2) ∧ (∀ i, i < h.next → g1.get i = h.get i) ∧ (∀ i, i < h.next → g2.get i = h.get i) ∧ h.next ≤ g1.next ∧ g1.next ≤ g2.next ∧ g2.next ≤ h.next + 2 ∧
      ∀ v l r : Int, ∃ b1 g3 S' g4, buildSl 3 1 [.int .i64 0, .int .i64 0, .int .i64 0] [0] g2 [.agg ⟨[.int .i64 v, .int .i64 l, .int .i64 r]⟩] = some (b1, g3) ∧ appendA 3 24 g3 a1 b1 = some (S', g4) ∧ oneCell S' = true ∧
        Samps g4 S' (m + 1) (fun k => if k = m then v else sA k) (fun k => if k = m then l else lA k) (fun k => if k = m then r else rA k) ∧ (∀ i, i < h.next → g4.get i = h.get i) ∧ g2.next ≤ g3.next ∧ g3.next ≤ g4.next ∧ g4.next ≤ h.next + 4 ∧ g4.floor = h.floor ∧
        (∀ a k c, S' = .slice (some a) k c → h.next ≤ a.block) := by
  obtain ⟨xs, ks, es, ls⟩ := Cells.list (by omega) hS
  obtain ⟨g1, q1, hx1⟩ := newSlice_ex (h := h) (cs := []) (n := 0) (cap := 0) (gr := 0) (by omega) rfl
  have n1 := hx1.next
  have f1 := hx1.floor
  have hap := append_none (h := g1) (s := 3) (bytes := 24) (b := h.next) ⟨xs, ks, es⟩ (cells_sub hx1.sub hS (by omega) ls) flatL_len (by simp [maxBytes]; omega) (by simp [maxBytes]; omega)
  by_cases hm0 : m = 0
  · rw [if_pos hm0] at hap
    refine ⟨_, g1, _, g1, by rw [build_none3]; exact q1, hap, hx1.old, hx1.old, by omega, by omega, by omega, fun v l r => ?_⟩
    obtain ⟨g3, q3, hx3⟩ := newSlice_ex (h := g1) (cs := [.int .i64 v, .int .i64 l, .int .i64 r]) (n := 1) (cap := 1) (gr := 0) (by omega) rfl
    have n3 := hx3.next
    have f3 := hx3.floor
    have hap2 := append_none (h := g3) (s := 3) (bytes := 24) (b := h.next) (m := 1) ⟨_, _, rfl⟩ (one_cells (cap := 1) hx3.get rfl) rfl (by simp [maxBytes]) (by simp [maxBytes])
    rw [if_neg (by omega)] at hap2
    obtain ⟨g4, q4, hx4⟩ := newSlice_ex (h := g3) (cs := [.int .i64 v, .int .i64 l, .int .i64 r]) (n := 1) (cap := unk) (gr := 3) (by omega) rfl
    have n4 := hx4.next
    have f4 := hx4.floor
    refine ⟨_, g3, _, g4, by rw [sl_samp]; exact q3, by rw [hap2]; exact q4, rfl, ?_, fun i hi => by rw [hx4.old i (by omega), hx3.old i (by omega), hx1.old i hi], by omega, by omega, by omega, by omega, fun a k c e => by cases e; show h.next ≤ g3.next; omega⟩
    rw [hm0]
    refine cells_row (b := g3.next) ⟨true, 3, hx4.get⟩ fun k j hk hj => ?_
    obtain rfl : k = 0 := by omega
    obtain rfl | rfl | rfl : j = 0 ∨ j = 1 ∨ j = 2 := by omega
    all_goals rfl
  · rw [if_neg hm0] at hap
    obtain ⟨g2, q2, hx2⟩ := newSlice_ex (h := g1) (cs := flatL 3 m fun k j => .int .i64 (if j = 0 then sA k else if j = 1 then lA k else rA k)) (n := m) (cap := unk) (gr := 3) (by omega) flatL_one
    have n2 := hx2.next
    have f2 := hx2.floor
    refine ⟨_, g1, _, g2, by rw [build_none3]; exact q1, by rw [hap]; exact q2, hx1.old, fun i hi => by rw [hx2.old i (by omega), hx1.old i hi], by omega, by omega, by omega, fun v l r => ?_⟩
    obtain ⟨g3, q3, hx3⟩ := newSlice_ex (h := g2) (cs := [.int .i64 v, .int .i64 l, .int .i64 r]) (n := 1) (cap := 1) (gr := 0) (by omega) rfl
    have n3 := hx3.next
    have f3 := hx3.floor
    have gS : GrowC h.next g3 (.slice (some ⟨g1.next, 0, none⟩) m unk) 3 m (fun k j => .int .i64 (if j = 0 then (if k = m then v else sA k) else if j = 1 then (if k = m then l else lA k) else if k = m then r else rA k)) :=
      ⟨_, .inr ⟨_, rfl, by rw [hx3.old _ (by omega)]; exact hx2.get, flatL_len, by omega⟩, flatL_one, fun k j hk hj => by
        rw [flatL_get (c := fun k j => .int .i64 (if j = 0 then sA k else if j = 1 then lA k else rA k)) hk hj]
        have : ¬ k = m := by omega
        simp only [this, if_false]⟩
    obtain ⟨S', g4, e, e', gS', hk4⟩ := gS.append (bytes := 24) (cap := 1) (by omega) (by omega) (by omega) hx3.get rfl rfl (fun j hj => by
      simp only [if_true]
      obtain rfl | rfl | rfl : j = 0 ∨ j = 1 ∨ j = 2 := by omega
      all_goals rfl) (by simp [maxBytes]; omega) (by simp [maxBytes]; omega)
    have n4 := hk4.next
    have f4 := hk4.floor
    refine ⟨_, g3, S', g4, by rw [sl_samp]; exact q3, e, gS'.one, gS'.cells, fun i hi => ?_, by omega, by omega, by omega, by omega, fun a k c e2 => by rw [e'] at e2; cases e2; show h.next ≤ g3.next; omega⟩
    rw [hk4.old i (by omega) fun b k c e => by cases e; show i ≠ g1.next; omega, hx3.old i (by omega), hx2.old i (by omega), hx1.old i hi]
end Go.Vm.St

namespace Go.Vm.St
open Go.Proofs Go.Vm.Vat
set_option linter.unusedSimpArgs false
set_option linter.unusedVariables false
set_option maxRecDepth 10000
variable {n : Nat} {h : AHeap}
theorem self_3s {x y z : Int} : eqV (.agg ⟨[.int .i64 x, .int .i64 y, .int .i64 z]⟩) (.agg ⟨[.int .i64 x, .int .i64 y, .int .i64 z]⟩) = true := by simp [eqV, eqCells, eqC_int]
theorem errH_0 {S : MS} {a x : Int} (hf : faultS S = 0) (hi : InH S a x) (hz : truthsS S ≠ []) : errH S a x = 0 := by unfold errH; rw [if_neg (by simpa using hf), if_neg (fun q => q hi), if_neg hz]
def s16 : SCode := (.seq (.ops [⟨(some 4), none, .box (T 0)⟩, ⟨(some 5), none, .box (T 1)⟩, ⟨(some 8), none, .mov (.const (.bool false))⟩]) (.seq (.ops [⟨(some 24), none, .loadN 7 (T 4)⟩, ⟨(some 9), none, .alloc [(.int .i64 (0)), (.int .i64 (0)), (.slice none 0 0), (.int .i64 (0)), (.int .i64 (0)), (.slice none 0 0), (.slice none 0 0)]⟩, ⟨none, none, .store 7 (T 9) (T 24)⟩]) (.seq (.draw [⟨.up, ⟨(some 25), none, .bslice 3 0 [(.int .i64 (0)), (.int .i64 (0)), (.int .i64 (0))] [] []⟩⟩, ⟨.free, ⟨(some 26), none, .fieldAddr 6 (T 4)⟩⟩, ⟨.rd, ⟨(some 27), none, .load1 (T 26)⟩⟩, ⟨.up, ⟨(some 28), none, .append 3 24 (T 25) (T 27)⟩⟩, ⟨.rd, ⟨(some 29), none, .loadN 3 (T 5)⟩⟩, ⟨.any, ⟨(some 30), none, .bslice 3 1 [(.int .i64 (0)), (.int .i64 (0)), (.int .i64 (0))] [0] [(T 29)]⟩⟩, ⟨.any, ⟨(some 31), none, .append 3 24 (T 28) (T 30)⟩⟩, ⟨.free, ⟨(some 32), none, .fieldAddr 6 (T 9)⟩⟩, ⟨.any, ⟨none, none, .store 1 (T 32) (T 31)⟩⟩]) (.seq (.seq (.ops [⟨(some 33), none, .loadN 7 (T 4)⟩, ⟨(some 34), none, .call (.func 59) [(T 33)]⟩, ⟨(some 35), none, .not (T 34)⟩, ⟨(some 36), none, .mov (T 35)⟩, ⟨(some 37), (some (36, false)), .loadN 7 (T 9)⟩, ⟨(some 38), (some (36, false)), .call (.func 59) [(T 37)]⟩, ⟨(some 39), (some (36, false)), .not (T 38)⟩, ⟨(some 40), none, .pick (T 36) (.const (.bool true)) (T 39)⟩]) (.cond (T 40) (.seq (.ops [⟨(some 41), none, .call (.func 24) []⟩, ⟨(some 8), none, .mov (T 41)⟩]) .ret) .skip)) (.seq (.ops [⟨(some 43), none, .loadN 7 (T 4)⟩, ⟨(some 44), none, .call (.func 26) [(T 43)]⟩, ⟨(some 45), none, .call (.func 52) [(T 44)]⟩, ⟨(some 42), none, .mov (T 45)⟩, ⟨(some 46), none, .extract 0 (T 42)⟩, ⟨(some 47), none, .extract 1 (T 42)⟩, ⟨(some 10), none, .mov (T 46)⟩, ⟨(some 11), none, .mov (T 47)⟩]) (.seq (.ops [⟨(some 49), none, .loadN 7 (T 9)⟩, ⟨(some 50), none, .call (.func 26) [(T 49)]⟩, ⟨(some 51), none, .call (.func 52) [(T 50)]⟩, ⟨(some 48), none, .mov (T 51)⟩, ⟨(some 52), none, .extract 0 (T 48)⟩, ⟨(some 53), none, .extract 1 (T 48)⟩, ⟨(some 12), none, .mov (T 52)⟩, ⟨(some 13), none, .mov (T 53)⟩]) (.seq (.seq (.ops [⟨(some 54), none, .mov (T 11)⟩, ⟨(some 55), none, .int2 .neq (T 54) (.const (.int .i64 (0)))⟩, ⟨(some 56), none, .mov (T 55)⟩, ⟨(some 57), (some (56, false)), .mov (T 13)⟩, ⟨(some 58), (some (56, false)), .int2 .neq (T 57) (.const (.int .i64 (0)))⟩, ⟨(some 59), none, .pick (T 56) (.const (.bool true)) (T 58)⟩, ⟨(some 60), none, .mov (T 59)⟩, ⟨(some 61), (some (60, false)), .mov (T 12)⟩, ⟨(some 62), (some (60, false)), .len (T 61)⟩, ⟨(some 63), (some (60, false)), .mov (T 10)⟩, ⟨(some 64), (some (60, false)), .len (T 63)⟩, ⟨(some 65), (some (60, false)), .int2 .lss (T 62) (T 64)⟩, ⟨(some 66), none, .pick (T 60) (.const (.bool true)) (T 65)⟩, ⟨(some 67), none, .mov (T 66)⟩, ⟨(some 68), (some (67, false)), .mov (T 12)⟩, ⟨(some 69), (some (67, false)), .len (T 68)⟩, ⟨(some 70), (some (67, false)), .mov (T 10)⟩, ⟨(some 71), (some (67, false)), .len (T 70)⟩, ⟨(some 72), (some (67, false)), .int2 .add (T 71) (.const (.int .i64 (1)))⟩, ⟨(some 73), (some (67, false)), .int2 .gtr (T 69) (T 72)⟩, ⟨(some 74), none, .pick (T 67) (.const (.bool true)) (T 73)⟩]) (.cond (T 74) (.seq (.ops [⟨(some 8), none, .mov (.const (.bool false))⟩]) .ret) .skip)) (.seq (.seq (.ops [⟨(some 75), none, .mov (T 12)⟩, ⟨(some 76), none, .len (T 75)⟩, ⟨(some 77), none, .int2 .gtr (T 76) (.const (.int .i64 (0)))⟩]) (.cond (T 77) (.seq (.ops [⟨(some 78), none, .call (.func 24) []⟩, ⟨(some 8), none, .mov (T 78)⟩]) .ret) .skip)) (.seq (.ops [⟨(some 79), none, .mov (T 2)⟩, ⟨(some 80), none, .plain (.convert 5 3 (T 79)) 3⟩, ⟨(some 81), none, .fieldAddr 5 (T 4)⟩, ⟨(some 82), none, .load1 (T 81)⟩, ⟨(some 83), none, .len (T 82)⟩, ⟨(some 84), none, .plain (.binOp .rem 3 (T 80) (T 83) 3) 3⟩, ⟨(some 14), none, .mov (T 84)⟩]) (.seq (.draw [⟨.free, ⟨(some 85), none, .fieldAddr 5 (T 4)⟩⟩, ⟨.rd1, ⟨(some 86), none, .load1 (T 85)⟩⟩, ⟨.free, ⟨(some 87), none, .mov (T 14)⟩⟩, ⟨.free, ⟨(some 88), none, .idxSl 4 (T 86) (T 87)⟩⟩, ⟨.free, ⟨(some 89), none, .fieldAddr 0 (T 88)⟩⟩, ⟨.rd1, ⟨(some 90), none, .load1 (T 89)⟩⟩, ⟨.free, ⟨(some 91), none, .mov (T 3)⟩⟩, ⟨.free, ⟨(some 92), none, .plain (.convert 5 3 (T 91)) 3⟩⟩, ⟨.free, ⟨(some 93), none, .fieldAddr 0 (T 4)⟩⟩, ⟨.rd1, ⟨(some 94), none, .load1 (T 93)⟩⟩, ⟨.free, ⟨(some 95), none, .fieldAddr 5 (T 4)⟩⟩, ⟨.rd1, ⟨(some 96), none, .load1 (T 95)⟩⟩, ⟨.free, ⟨(some 97), none, .mov (T 14)⟩⟩, ⟨.free, ⟨(some 98), none, .idxSl 4 (T 96) (T 97)⟩⟩, ⟨.free, ⟨(some 99), none, .fieldAddr 0 (T 98)⟩⟩, ⟨.rd1, ⟨(some 100), none, .load1 (T 99)⟩⟩, ⟨.free, ⟨(some 101), none, .int2 .sub (T 94) (T 100)⟩⟩, ⟨.free, ⟨(some 102), none, .int2 .add (T 101) (.const (.int .i64 (1)))⟩⟩, ⟨.free, ⟨(some 103), none, .plain (.binOp .rem 3 (T 92) (T 102) 3) 3⟩⟩, ⟨.free, ⟨(some 104), none, .int2 .add (T 90) (T 103)⟩⟩, ⟨.free, ⟨(some 15), none, .mov (T 104)⟩⟩]) (.seq (.ops [⟨(some 106), none, .loadN 7 (T 4)⟩, ⟨(some 107), none, .call (.func 26) [(T 106)]⟩, ⟨(some 108), none, .mov (T 14)⟩, ⟨(some 109), none, .call (.func 35) [(T 107), (T 108)]⟩, ⟨(some 105), none, .mov (T 109)⟩, ⟨(some 110), none, .extract 0 (T 105)⟩, ⟨(some 111), none, .extract 1 (T 105)⟩, ⟨(some 16), none, .mov (T 110)⟩, ⟨(some 17), none, .mov (T 111)⟩]) (.seq (.ops [⟨(some 113), none, .loadN 7 (T 9)⟩, ⟨(some 114), none, .call (.func 26) [(T 113)]⟩, ⟨(some 115), none, .mov (T 14)⟩, ⟨(some 116), none, .call (.func 35) [(T 114), (T 115)]⟩, ⟨(some 112), none, .mov (T 116)⟩, ⟨(some 117), none, .extract 0 (T 112)⟩, ⟨(some 118), none, .extract 1 (T 112)⟩, ⟨(some 18), none, .mov (T 117)⟩, ⟨(some 19), none, .mov (T 118)⟩]) (.seq (.ops [⟨(some 120), none, .loadN 7 (T 4)⟩, ⟨(some 121), none, .call (.func 26) [(T 120)]⟩, ⟨(some 122), none, .mov (T 14)⟩, ⟨(some 123), none, .mov (T 15)⟩, ⟨(some 124), none, .call (.func 40) [(T 121), (T 122), (T 123)]⟩, ⟨(some 119), none, .mov (T 124)⟩, ⟨(some 125), none, .extract 0 (T 119)⟩, ⟨(some 126), none, .extract 1 (T 119)⟩, ⟨(some 20), none, .mov (T 125)⟩, ⟨(some 21), none, .mov (T 126)⟩]) (.seq (.ops [⟨(some 128), none, .loadN 7 (T 9)⟩, ⟨(some 129), none, .call (.func 26) [(T 128)]⟩, ⟨(some 130), none, .mov (T 14)⟩, ⟨(some 131), none, .mov (T 15)⟩, ⟨(some 132), none, .call (.func 40) [(T 129), (T 130), (T 131)]⟩, ⟨(some 127), none, .mov (T 132)⟩, ⟨(some 133), none, .extract 0 (T 127)⟩, ⟨(some 134), none, .extract 1 (T 127)⟩, ⟨(some 22), none, .mov (T 133)⟩, ⟨(some 23), none, .mov (T 134)⟩]) (.seq (.ops [⟨(some 135), none, .mov (T 17)⟩, ⟨(some 136), none, .int2 .eql (T 135) (.const (.int .i64 (0)))⟩, ⟨(some 137), none, .mov (T 136)⟩, ⟨(some 138), (some (137, true)), .mov (T 19)⟩, ⟨(some 139), (some (137, true)), .int2 .eql (T 138) (.const (.int .i64 (0)))⟩, ⟨(some 140), none, .pick (T 137) (T 139) (.const (.bool false))⟩, ⟨(some 141), none, .mov (T 140)⟩, ⟨(some 142), (some (141, true)), .mov (T 18)⟩, ⟨(some 143), (some (141, true)), .mov (T 16)⟩, ⟨(some 144), (some (141, true)), .call (.func 66) [(T 142), (T 143)]⟩, ⟨(some 145), none, .pick (T 141) (T 144) (.const (.bool false))⟩, ⟨(some 146), none, .mov (T 145)⟩, ⟨(some 147), (some (146, true)), .mov (T 21)⟩, ⟨(some 148), (some (146, true)), .int2 .eql (T 147) (.const (.int .i64 (0)))⟩, ⟨(some 149), none, .pick (T 146) (T 148) (.const (.bool false))⟩, ⟨(some 150), none, .mov (T 149)⟩, ⟨(some 151), (some (150, true)), .mov (T 23)⟩, ⟨(some 152), (some (150, true)), .int2 .eql (T 151) (.const (.int .i64 (0)))⟩, ⟨(some 153), none, .pick (T 150) (T 152) (.const (.bool false))⟩, ⟨(some 154), none, .mov (T 153)⟩, ⟨(some 155), (some (154, true)), .mov (T 20)⟩, ⟨(some 156), (some (154, true)), .int2 .eql (T 155) (.const (.int .i64 (3)))⟩, ⟨(some 157), (some (154, true)), .mov (T 156)⟩, ⟨(some 158), (some (157, false)), .mov (T 20)⟩, ⟨(some 159), (some (157, false)), .mov (T 22)⟩, ⟨(some 160), (some (157, false)), .int2 .eql (T 158) (T 159)⟩, ⟨(some 161), (some (154, true)), .pick (T 157) (.const (.bool true)) (T 160)⟩, ⟨(some 162), none, .pick (T 154) (T 161) (.const (.bool false))⟩, ⟨(some 163), none, .mov (T 162)⟩, ⟨(some 164), (some (163, true)), .loadN 7 (T 4)⟩, ⟨(some 165), (some (163, true)), .loadN 7 (T 9)⟩, ⟨(some 166), (some (163, true)), .mov (T 14)⟩, ⟨(some 167), (some (163, true)), .call (.func 67) [(T 164), (T 165), (T 166)]⟩, ⟨(some 168), none, .pick (T 163) (T 167) (.const (.bool false))⟩, ⟨(some 169), none, .mov (T 168)⟩, ⟨(some 170), (some (169, true)), .call (.func 24) []⟩, ⟨(some 171), none, .pick (T 169) (T 170) (.const (.bool false))⟩, ⟨(some 8), none, .mov (T 171)⟩]) .ret)))))))))))))))
theorem fok16 : FnOk Try.prog 16 172 s16 [.tmp 8] := ⟨Try.f16, _, Try.func16, rfl, Try.ntmps16, by kernel_rfl, by kernel_rfl⟩
set_option maxHeartbeats 6000000 in
theorem moreL_c (hn : 3100 ≤ n) (hr : h.next + 12000000 < far) (hfl : h.floor ≤ h.next) {wv vv sv : Value} {S : MS} (hy : SteepR h wv vv sv S) (hm : S.ns ≤ 1048576) {v hh kk : Int} {a2 a3 : Nat} (w2 : a2 < 256) (w3 : a3 < 256) :
    ∃ v' h', call n (.func (.func 16) #[] #[]) [.agg ⟨stL S wv vv sv⟩, .agg ⟨[.int .i64 v, .int .i64 hh, .int .i64 kk]⟩, .int .u8 (a2 : Int), .int .u8 (a3 : Int)] h = some (v', h') ∧ v' = .bool true := by
  obtain ⟨n, rfl⟩ : ∃ p, n = p + 1 := ⟨n - 1, by omega⟩
  refine call_any0 fok16 rfl rfl (by simp) ?_
  simp only [s16, W_seq, W_ops]
  refine ops_box (cs := stL S wv vv sv) (by omega) rfl hy.one fun g1 hx1 => ?_
  have n1 := hx1.next
  have f1 := hx1.floor
  refine ops_box (cs := [.int .i64 v, .int .i64 hh, .int .i64 kk]) (by omega) rfl rfl fun g2 hx2 => ?_
  have n2 := hx2.next
  have f2 := hx2.floor
  have r2 := hx1.row.mono hx2.sub
  have q2 := hx2.row
  simp only [rn0, rn1, rn2, rn3, rn4, rn5, rn6, rn7, rn8, if_true, if_false, Nat.le_refl, true_and, and_true, decide_true, decide_false, Bool.not_true, Bool.not_false, reduceIte, Nat.reduceEqDiff, Nat.reduceAdd, Nat.reduceMul, Nat.reduceSub, Nat.reduceLeDiff, Nat.reduceLT, r2.whole (n := 7) rfl]
  refine step_new (vs := stL S wv vv sv) (by omega) (by omega) rfl (by simp only [rn0, rn1, rn2, rn3, rn4, rn5, rn6, rn7, rn8, if_true, if_false, Nat.le_refl, true_and, and_true, decide_true, decide_false, Bool.not_true, Bool.not_false, reduceIte, Nat.reduceEqDiff, Nat.reduceAdd, Nat.reduceMul, Nat.reduceSub, Nat.reduceLeDiff, Nat.reduceLT]; rfl) hy.one rfl rfl fun g3 hx3 => ?_
  have n3 := hx3.next
  have f3 := hx3.floor
  have sub3 : Sub All h g3 := hx1.sub.trans (hx2.sub.trans hx3.sub)
  have r3 : Row g3 h.next (stL S wv vv sv) := r2.mono hx3.sub
  have t3 : Row g3 g1.next [.int .i64 v, .int .i64 hh, .int .i64 kk] := q2.mono hx3.sub
  have x3 : g3.get g2.next = some (.row (stL S wv vv sv) true 0) := hx3.get
  have hy3 := hy.mono sub3
  obtain ⟨e0, ga, av1, gb, t1, t2, oa, ob, na1, na2, na3, happ⟩ := more_app (h := g3) hy3.s hm (by omega) (by omega)
  have suba : Sub All g3 ga := AHeap.subOf oa
  have subb : Sub All g3 gb := AHeap.subOf ob
  obtain ⟨b1v, gc, SX, gd, t5, t4, o8, hSX, old8, nc1, nc2, nc3, f8, blk8⟩ := happ v hh kk
  have subd : Sub All g3 gd := AHeap.subOf old8
  have selfS : eqV sv sv = true := Cells.self hy3.s
  simp only [rn0, rn1, rn2, rn3, rn4, rn5, rn6, rn7, rn8, if_true, if_false, Nat.le_refl, true_and, and_true, decide_true, decide_false, Bool.not_true, Bool.not_false, reduceIte, Nat.reduceEqDiff, Nat.reduceAdd, Nat.reduceMul, Nat.reduceSub, Nat.reduceLeDiff, Nat.reduceLT]
  refine W_draw All ?_
  simp only [rn0, rn1, rn2, rn3, rn4, rn5, rn6, rn7, rn8, if_true, if_false, Nat.le_refl, true_and, and_true, decide_true, decide_false, Bool.not_true, Bool.not_false, reduceIte, Nat.reduceEqDiff, Nat.reduceAdd, Nat.reduceMul, Nat.reduceSub, Nat.reduceLeDiff, Nat.reduceLT, r3.ld, stg, Nat.zero_add, selfS, self_3s, t3.whole (n := 3) rfl, t1, t2, t5, t4]
  refine ⟨⟨na1, suba⟩, ⟨na2, subb⟩, by omega, by omega, ?_⟩
  refine up_store (b := g2.next) (off := 6) (vs := [SX]) rfl (by rw [old8 _ (by omega)]; exact x3) (by omega) (by omega) (by cases SX <;> first | rfl | cases o8) (by simp [allB, o8]) rfl (by simp [stL]) (fun _ _ => trivial) fun g6 hs6 => ?_
  have es6 : splice (stL S wv vv sv) 6 [SX] = stL (moreS S v hh kk) wv vv SX := rfl
  rw [es6] at hs6
  have n6 := hs6.next
  have f6 := hs6.floor
  have old6 : ∀ i, i < g2.next → g6.get i = g3.get i := fun i hi => by rw [hs6.old i (by omega), old8 i (by omega)]
  have sub6 : Sub All g2 g6 := AHeap.subOf fun i hi => by rw [old6 i hi, hx3.old i hi]
  have hy6 := hy.mono (hx1.sub.trans (hx2.sub.trans sub6))
  have ry := r2.mono sub6
  have rx : Row g6 g2.next (stL (moreS S v hh kk) wv vv SX) := hs6.row
  have hX : SteepR g6 wv vv SX (moreS S v hh kk) := ⟨hy6.w, hy6.v, Cells.keep hSX hs6.keep fun x k c e => by have := blk8 x k c e; omega⟩
  have b6 : g6.next ≤ h.next + 20 := by omega
  have fg6 : g6.floor ≤ g6.next := by omega
  clear hx1 hx2 hx3 x3 t3 r3 t1 t2 t4 t5 happ oa ob suba subb subd hs6 old6
  have er := ready_c (n := n) (h := g6) (by omega) (by omega) hy6
  have erx := ready_c (n := n) (h := g6) (by omega) (by omega) hX
  have haw6 := awake_c (n := n) (h := g6) (by omega)
  by_cases c1 : ThinS S ∧ faultS S = 0
  case neg =>
    rw [decide_eq_false c1] at er
    simp only [rn0, rn1, rn2, rn3, rn4, rn5, rn6, rn7, rn8, if_true, if_false, Nat.le_refl, true_and, and_true, decide_true, decide_false, Bool.not_true, Bool.not_false, reduceIte, Nat.reduceEqDiff, Nat.reduceAdd, Nat.reduceMul, Nat.reduceSub, Nat.reduceLeDiff, Nat.reduceLT, ry.whole (n := 7) rfl, er, g_un, haw6]
  rw [decide_eq_true c1] at er
  by_cases c2 : ThinS (moreS S v hh kk) ∧ faultS (moreS S v hh kk) = 0
  case neg =>
    rw [decide_eq_false c2] at erx
    simp only [rn0, rn1, rn2, rn3, rn4, rn5, rn6, rn7, rn8, if_true, if_false, Nat.le_refl, true_and, and_true, decide_true, decide_false, Bool.not_true, Bool.not_false, reduceIte, Nat.reduceEqDiff, Nat.reduceAdd, Nat.reduceMul, Nat.reduceSub, Nat.reduceLeDiff, Nat.reduceLT, ry.whole (n := 7) rfl, er, rx.whole (n := 7) rfl, erx, haw6]
  rw [decide_eq_true c2] at erx
  obtain ⟨hth, hf⟩ := c1
  obtain ⟨hTX, hfx⟩ := c2
  have hG := good_of hf
  have hGX := good_of hfx
  obtain ⟨zl0, zl5, zw, zw6, zv4, z5, _, _, zs0, zs1, zs2⟩ := hG.sizes
  have hnv := plus_vats hGX
  obtain ⟨w7, v7, s7, g7, e7, hy7, o7, u7, m7, f7⟩ := steepL_c (n := n) (h := g6) (by omega) (by omega) (by omega) hy6 hth
  obtain ⟨l8, g8, e8, o8', u8, m8, f8', hL1⟩ := leaveP_c (n := n) (h := g7) (by omega) (by omega) (by omega) hy7 hth
  have s8 : Sub All g6 g8 := (AHeap.subOf o7).trans (AHeap.subOf o8')
  obtain ⟨w9, v9, s9', g9, e9, hy9, o9, u9, m9, f9⟩ := steepL_c (n := n) (h := g8) (by omega) (by omega) (by omega) (hX.mono s8) hTX
  obtain ⟨l10, g10, e10, o10, u10, m10, f10, hL2⟩ := leaveP_c (n := n) (h := g9) (by omega) (by omega) (by omega) hy9 hTX
  have s10 : Sub All g8 g10 := (AHeap.subOf o9).trans (AHeap.subOf o10)
  have sg10 : Sub All g6 g10 := s8.trans s10
  rcases hL1 with ⟨h0, _⟩ | ⟨_, l1, rfl, hl1, _⟩
  · exact absurd hf h0
  rcases hL2 with ⟨h0, _⟩ | ⟨_, l2, rfl, hl2, _⟩
  · exact absurd hfx h0
  have hl1' := Cells.mono hl1 s10
  have wx8 := (rx.mono s8).whole (n := 7) rfl
  have ry10 := ry.mono sg10
  have rx10 := rx.mono sg10
  have hS10 := hy6.mono sg10
  have hX10 := hX.mono sg10
  obtain ⟨pl1, pl2⟩ := plus_leave hG hGX
  have z3 := leaveS_len hG
  have hp1 : ¬ ((leaveS (moreS S v hh kk)).length : Int) < ((leaveS S).length : Int) := by omega
  have hwp : wrapF .i64 (((leaveS S).length : Int) + 1) = ((leaveS S).length : Int) + 1 := wrap_in (by omega) (by omega)
  have hp2 : ¬ ((leaveS S).length : Int) + 1 < ((leaveS (moreS S v hh kk)).length : Int) := by omega
  have haw := awake_c (n := n) (h := g10) (by omega)
  have b10 : g10.next ≤ h.next + 4000000 := by omega
  have fg10 : g10.floor ≤ g10.next := by omega
  by_cases hzl : leaveS (moreS S v hh kk) = []
  case neg =>
    have hpos : (0 : Int) < ((leaveS (moreS S v hh kk)).length : Int) := by have := List.length_pos_iff.2 hzl; omega
    simp only [rn0, rn1, rn2, rn3, rn4, rn5, rn6, rn7, rn8, if_true, if_false, Nat.le_refl, true_and, and_true, decide_true, decide_false, Bool.not_true, Bool.not_false, reduceIte, Nat.reduceEqDiff, Nat.reduceAdd, Nat.reduceMul, Nat.reduceSub, Nat.reduceLeDiff, Nat.reduceLT, ry.whole (n := 7) rfl, er, rx.whole (n := 7) rfl, erx, e7, e8, ex0, ex1, wx8, e9, e10, g_un, Cells.len hl1', Cells.len hl2, hp1, hwp, hp2, hpos, haw]
  have hpos : ¬ (0 : Int) < ((leaveS (moreS S v hh kk)).length : Int) := by rw [hzl]; decide
  have hzx := leave_nil hGX hzl
  have hzs := plus_ne hzx
  have z1 : ¬ (S.nv : Int) = 0 := by omega
  obtain ⟨o, ho⟩ : ∃ o : Nat, o = a2 % S.nv := ⟨_, rfl⟩
  have hov : o < S.nv := by rw [ho]; exact Nat.mod_lt _ hnv
  have ho' : (a2 : Int).tmod (S.nv : Int) = (o : Int) := by rw [ho]; rfl
  obtain ⟨hh1, hh2, hh3⟩ := hoursN_ok hG hov
  have hvb := (hG.args.vat o hov).1
  obtain ⟨q, hq⟩ : ∃ q : Nat, q = a3 % hoursN S o := ⟨_, rfl⟩
  have hql : q < hoursN S o := by rw [hq]; exact Nat.mod_lt _ (by omega)
  have hq' : (a3 : Int).tmod (hoursN S o : Int) = (q : Int) := by rw [hq]; rfl
  have zh : ¬ (hoursN S o : Int) = 0 := by omega
  have wa1 : wrapF .i64 (S.last - S.vb o) = S.last - S.vb o := wrap_in (by omega) (by omega)
  have wa2 : wrapF .i64 (S.last - S.vb o + 1) = (hoursN S o : Int) := by rw [wrap_in (by omega) (by omega)]; omega
  have wa3 : wrapF .i64 (S.vb o + (q : Int)) = S.vb o + (q : Int) := wrap_in (by omega) (by omega)
  obtain ⟨w11, v11, s11, g11, e11, hy11, o11, u11, m11, f11⟩ := steepL_c (n := n) (h := g10) (by omega) (by omega) (by omega) hS10 hth
  obtain ⟨t12, g12, e12, s12, u12, m12, f12, hO1⟩ := out_c (n := n) (h := g11) (by omega) (by omega) (by omega) hy11 hth (o : Int)
  have sub12 : Sub All g10 g12 := (AHeap.subOf o11).trans s12
  obtain ⟨w13, v13, s13, g13, e13, hy13, o13, u13, m13, f13⟩ := steepL_c (n := n) (h := g12) (by omega) (by omega) (by omega) (hX10.mono sub12) hTX
  obtain ⟨t14, g14, e14, s14, u14, m14, f14, hO2⟩ := out_c (n := n) (h := g13) (by omega) (by omega) (by omega) hy13 hTX (o : Int)
  have sub14 : Sub All g12 g14 := (AHeap.subOf o13).trans s14
  have sub1014 := sub12.trans sub14
  have hi1 : InV S (o : Int) := by unfold InV; omega
  have hi2 : InV (moreS S v hh kk) (o : Int) := hi1
  rcases hO1 with ⟨h0, _⟩ | ⟨_, h0, _⟩ | ⟨_, _, h0, _⟩ | ⟨_, _, _, r1, rfl, hr1⟩
  · exact absurd hf h0
  · exact absurd hi1 h0
  · exact absurd h0 hzs
  rcases hO2 with ⟨h0, _⟩ | ⟨_, h0, _⟩ | ⟨_, _, h0, _⟩ | ⟨_, _, _, r2, rfl, hr2⟩
  · exact absurd hfx h0
  · exact absurd hi2 h0
  · exact absurd h0 hzx
  simp only [Int.toNat_natCast] at hr1 hr2
  obtain ⟨w15, v15, s15, g15, e15, hy15, o15, u15, m15, f15⟩ := steepL_c (n := n) (h := g14) (by omega) (by omega) (by omega) (hS10.mono sub1014) hth
  have eg15 := rightP_c (n := n) (h := g15) (by omega) (by omega) hy15 hth (o : Int) (S.vb o + (q : Int))
  have s15' : Sub All g14 g15 := AHeap.subOf o15
  obtain ⟨w17, v17, s17, g17, e17, hy17, o17, u17, m17, f17⟩ := steepL_c (n := n) (h := g15) (by omega) (by omega) (by omega) (hX10.mono (sub1014.trans s15')) hTX
  have eg17 := rightP_c (n := n) (h := g17) (by omega) (by omega) hy17 hTX (o : Int) (S.vb o + (q : Int))
  have s17' : Sub All g15 g17 := AHeap.subOf o17
  have s1417 : Sub All g14 g17 := s15'.trans s17'
  have s1217 := sub14.trans s1417
  have s1017 := sub1014.trans s1417
  have hin1 : InH S (o : Int) (S.vb o + (q : Int)) := ⟨hi1, by rw [Int.toNat_natCast]; omega, by omega⟩
  have hin2 : InH (moreS S v hh kk) (o : Int) (S.vb o + (q : Int)) := hin1
  have q1 := errH_0 hf hin1 hzs
  have q2' := errH_0 hfx hin2 hzx
  have q3 : rightV S (o : Int) (S.vb o + (q : Int)) = verdS S o (S.vb o + (q : Int)) 1 (truthsS S) := by unfold rightV; rw [if_pos q1, Int.toNat_natCast]
  have q4 : rightV (moreS S v hh kk) (o : Int) (S.vb o + (q : Int)) = verdS (moreS S v hh kk) o (S.vb o + (q : Int)) 1 (truthsS (moreS S v hh kk)) := by unfold rightV; rw [if_pos q2', Int.toNat_natCast]
  rw [q1, q3] at eg15
  rw [q2', q4] at eg17
  have hpv := plus_verd hzx (o := o) (x := S.vb o + (q : Int))
  have ein := insideL_c (n := n) (h := g17) (by omega) (m := hoursN S o) (k := hoursN S o) (by omega) (Cells.mono hr2 s1417) (Cells.mono hr1 s1217) rfl (fun i _ => ⟨plus_lo hzx, plus_hi hzx⟩)
  have est := stay_c (n := n) (h := g17) (by omega) (by omega) (hS10.mono s1017) hth (hX10.mono s1017) hTX (o : Int)
  rw [plus_stay hG hGX hzx hov] at est
  have haw17 := awake_c (n := n) (h := g17) (by omega)
  simp only [rn0, rn1, rn2, rn3, rn4, rn5, rn6, rn7, rn8, if_true, if_false, Nat.le_refl, true_and, and_true, decide_true, decide_false, Bool.not_true, Bool.not_false, reduceIte, Nat.reduceEqDiff, Nat.reduceAdd, Nat.reduceMul, Nat.reduceSub, Nat.reduceLeDiff, Nat.reduceLT, ry.whole (n := 7) rfl, er, rx.whole (n := 7) rfl, erx, e7, e8, ex0, ex1, wx8, e9, e10, g_un, Cells.len hl1', Cells.len hl2, hp1, hwp, hp2, hpos, ry10.ld, stg, Nat.zero_add, Cells.len hS10.v, p_conv8, r_8 w2, valN_tmp, valN_const, Nat.reduceLT, p_rem, r_rem z1, ho', z1]
  refine W_draw All ?_
  simp only [rn0, rn1, rn2, rn3, rn4, rn5, rn6, rn7, rn8, if_true, if_false, Nat.le_refl, true_and, and_true, decide_true, decide_false, Bool.not_true, Bool.not_false, reduceIte, Nat.reduceEqDiff, Nat.reduceAdd, Nat.reduceMul, Nat.reduceSub, Nat.reduceLeDiff, Nat.reduceLT, ry10.ld, stg, Nat.zero_add, Cells.idx hS10.v hov, Cells.fld hS10.v hov, begin_ld hS10 hov, p_conv8, r_8 w3, valN_tmp, valN_const, Nat.reduceLT, wa1, wa2, p_rem, r_rem zh, zh, hq', wa3, ry10.whole (n := 7) rfl, e11, e12, ex0, ex1, (rx10.mono sub12).whole (n := 7) rfl, e13, e14, (ry10.mono sub1014).whole (n := 7) rfl, e15, eg15, (rx10.mono (sub1014.trans s15')).whole (n := 7) rfl, e17, eg17]
  rcases hpv with hp | hp
  · simp only [rn0, rn1, rn2, rn3, rn4, rn5, rn6, rn7, rn8, if_true, if_false, Nat.le_refl, true_and, and_true, decide_true, decide_false, Bool.not_true, Bool.not_false, reduceIte, Nat.reduceEqDiff, Nat.reduceAdd, Nat.reduceMul, Nat.reduceSub, Nat.reduceLeDiff, Nat.reduceLT, ein, hp, g_un, (ry10.mono s1017).whole (n := 7) rfl, (rx10.mono s1017).whole (n := 7) rfl, est, haw17]
  · by_cases c3 : verdS S o (S.vb o + (q : Int)) 1 (truthsS S) = 3
    · simp only [rn0, rn1, rn2, rn3, rn4, rn5, rn6, rn7, rn8, if_true, if_false, Nat.le_refl, true_and, and_true, decide_true, decide_false, Bool.not_true, Bool.not_false, reduceIte, Nat.reduceEqDiff, Nat.reduceAdd, Nat.reduceMul, Nat.reduceSub, Nat.reduceLeDiff, Nat.reduceLT, ein, c3, g_un, (ry10.mono s1017).whole (n := 7) rfl, (rx10.mono s1017).whole (n := 7) rfl, est, haw17]
    · rw [← hp] 
      simp only [rn0, rn1, rn2, rn3, rn4, rn5, rn6, rn7, rn8, if_true, if_false, Nat.le_refl, true_and, and_true, decide_true, decide_false, Bool.not_true, Bool.not_false, reduceIte, Nat.reduceEqDiff, Nat.reduceAdd, Nat.reduceMul, Nat.reduceSub, Nat.reduceLeDiff, Nat.reduceLT, ein, c3, g_un, (ry10.mono s1017).whole (n := 7) rfl, (rx10.mono s1017).whole (n := 7) rfl, est, haw17]
end Go.Vm.St
