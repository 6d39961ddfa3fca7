/- Texts of the proofs of this seat, put together: VatMore, VatSpread2, VatSpread3, VatBefore, VatLeave, VatSome, VatFirstL, VatShort, VatSpPure, VatSpPut, VatNeeds2, VatNeeds3, VatNeeded, VatNoBetter. -/
import Derived.Test.YtnibceeoejeimaaPk6
import Derived.Laws.Entries

namespace Go.Vm.Vat
open Go.Proofs
set_option linter.unusedSimpArgs false
set_option linter.unusedVariables false
set_option maxRecDepth 10000
variable {n : Nat} {h : AHeap}
/-- in a truth, more blue in the one vat than in the other -/
def Above (Y : MY) (a b : Nat) (t : Nat → Int) : Prop := blueN t (Y.q b) Y.nf < blueN t (Y.q a) Y.nf
def MoreArgs (Y : MY) (one other : Int) : Prop := (0 ≤ one ∧ one ≤ (Y.nv : Int) - 1) ∧ (0 ≤ other ∧ other ≤ (Y.nv : Int) - 1)
open Classical in
noncomputable def verdictV (Y : MY) (a b : Nat) : Int := if ∀ t, t ∈ truths Y → ¬ Above Y a b t then 2 else if ∀ t, t ∈ truths Y → Above Y a b t then 1 else 3
open Classical in
/-- what More answers -/
noncomputable def moreV (Y : MY) (one other : Int) : Int × Int :=
  if faultN Y ≠ 0 then (0, faultN Y) else if ¬ MoreArgs Y one other then (0, 2) else if one = other then (0, 6) else if truths Y = [] then (0, 11)
  else (verdictV Y one.toNat other.toNat, 0)
/-- how many of the first k -/
noncomputable def cntTo (p : Nat → Prop) : Nat → Nat
  | 0 => 0
  | k + 1 => open Classical in cntTo p k + (if p k then 1 else 0)
theorem cntTo_yes {p : Nat → Prop} {k : Nat} (h : p k) : cntTo p (k + 1) = cntTo p k + 1 := by rw [cntTo, if_pos h]
theorem cntTo_no {p : Nat → Prop} {k : Nat} (h : ¬ p k) : cntTo p (k + 1) = cntTo p k := by rw [cntTo, if_neg h, Nat.add_zero]
theorem cntTo_le {p : Nat → Prop} : ∀ k, cntTo p k ≤ k
  | 0 => Nat.le_refl _
  | k + 1 => by
    have := cntTo_le (p := p) k
    by_cases h : p k
    · rw [cntTo_yes h]; omega
    · rw [cntTo_no h]; omega
theorem cntTo_none {p : Nat → Prop} : ∀ k, cntTo p k = 0 ↔ ∀ i, i < k → ¬ p i
  | 0 => ⟨fun _ i hi => by omega, fun _ => rfl⟩
  | k + 1 => by
    have := cntTo_none (p := p) k
    by_cases h : p k
    · rw [cntTo_yes h]
      exact ⟨fun e => by omega, fun e => absurd h (e k (by omega))⟩
    · rw [cntTo_no h, this]
      refine ⟨fun e i hi => ?_, fun e i hi => e i (by omega)⟩
      by_cases e1 : i = k
      · subst e1; exact h
      · exact e i (by omega)
theorem cntTo_all {p : Nat → Prop} : ∀ k, cntTo p k = k ↔ ∀ i, i < k → p i
  | 0 => ⟨fun _ i hi => by omega, fun _ => rfl⟩
  | k + 1 => by
    have := cntTo_all (p := p) k
    have hl := cntTo_le (p := p) k
    by_cases h : p k
    · rw [cntTo_yes h]
      refine ⟨fun e i hi => ?_, fun e => by rw [this.2 fun i hi => e i (by omega)]⟩
      by_cases e1 : i = k
      · subst e1; exact h
      · exact this.1 (by omega) i (by omega)
    · rw [cntTo_no h]
      exact ⟨fun e => by omega, fun e => absurd (e k (by omega)) h⟩
theorem self4 {F V S tv : Value} {Y : MY} (hy : YardR h F V S Y) (ht : TruthsR h tv (truths Y)) : eqV (.agg ⟨[F, V, S, tv]⟩) (.agg ⟨[F, V, S, tv]⟩) = true := by
  obtain ⟨rr, hr, _⟩ := hy.v
  simp [eqV, eqCells, Cells.selfC hy.f, Cells.selfC hr, Cells.selfC hy.s, Cells.selfC ht]
theorem self_arr {t : Nat → Int} : eqV (.agg ⟨arr t⟩) (.agg ⟨arr t⟩) = true := by simp [arr, List.range_succ, eqV, eqCells, eqCell, sameK, eqI_eq]
def s40 : SCode := (.seq (.ops [⟨(some 3), none, .box (T 0)⟩, ⟨(some 6), none, .mov (.const (.int .i64 (0)))⟩, ⟨(some 7), none, .mov (.const (.int .i64 (0)))⟩]) (.seq (.ops [⟨(some 14), none, .loadN 3 (T 3)⟩, ⟨(some 15), none, .call (.func 78) [(T 14)]⟩, ⟨(some 13), none, .mov (T 15)⟩, ⟨(some 16), none, .extract 0 (T 13)⟩, ⟨(some 17), none, .extract 1 (T 13)⟩, ⟨(some 8), none, .alloc [(.slice none 0 0), (.slice none 0 0), (.slice none 0 0), (.slice none 0 0)]⟩, ⟨none, none, .store 4 (T 8) (T 16)⟩, ⟨(some 9), none, .mov (T 17)⟩]) (.seq (.block 0 (.seq (.ops [⟨(some 19), none, .mov (T 9)⟩, ⟨(some 20), none, .int2 .neq (T 19) (.const (.int .i64 (0)))⟩, ⟨(some 18), none, .mov (T 20)⟩]) (.cond (T 18) (.seq (.ops [⟨(some 21), none, .mov (T 9)⟩, ⟨(some 6), none, .mov (.const (.int .i64 (0)))⟩, ⟨(some 7), none, .mov (T 21)⟩]) .ret) (.seq (.ops [⟨(some 23), none, .loadN 4 (T 8)⟩, ⟨(some 24), none, .mov (T 1)⟩, ⟨(some 25), none, .call (.func 92) [(T 23), (T 24)]⟩, ⟨(some 26), none, .not (T 25)⟩, ⟨(some 27), none, .mov (T 26)⟩, ⟨(some 28), (some (27, false)), .loadN 4 (T 8)⟩, ⟨(some 29), (some (27, false)), .mov (T 2)⟩, ⟨(some 30), (some (27, false)), .call (.func 92) [(T 28), (T 29)]⟩, ⟨(some 31), (some (27, false)), .not (T 30)⟩, ⟨(some 32), none, .pick (T 27) (.const (.bool true)) (T 31)⟩, ⟨(some 22), none, .mov (T 32)⟩]) (.cond (T 22) (.seq (.ops [⟨(some 6), none, .mov (.const (.int .i64 (0)))⟩, ⟨(some 7), none, .mov (.const (.int .i64 (2)))⟩]) .ret) (.seq (.ops [⟨(some 34), none, .mov (T 1)⟩, ⟨(some 35), none, .mov (T 2)⟩, ⟨(some 36), none, .int2 .eql (T 34) (T 35)⟩, ⟨(some 33), none, .mov (T 36)⟩]) (.cond (T 33) (.seq (.ops [⟨(some 6), none, .mov (.const (.int .i64 (0)))⟩, ⟨(some 7), none, .mov (.const (.int .i64 (6)))⟩]) .ret) (.seq (.ops [⟨(some 38), none, .fieldAddr 3 (T 8)⟩, ⟨(some 39), none, .load1 (T 38)⟩, ⟨(some 40), none, .len (T 39)⟩, ⟨(some 41), none, .int2 .eql (T 40) (.const (.int .i64 (0)))⟩, ⟨(some 37), none, .mov (T 41)⟩]) (.cond (T 37) (.seq (.ops [⟨(some 6), none, .mov (.const (.int .i64 (0)))⟩, ⟨(some 7), none, .mov (.const (.int .i64 (11)))⟩]) .ret) .skip))))))))) (.seq (.ops [⟨(some 10), none, .mov (.const (.int .i64 (0)))⟩]) (.seq (.seq (.ops [⟨(some 42), none, .fieldAddr 3 (T 8)⟩, ⟨(some 43), none, .load1 (T 42)⟩, ⟨(some 44), none, .len (T 43)⟩, ⟨(some 45), none, .mov (.const (.int .i64 (0)))⟩]) (.block 1 (.loop (.seq (.ops [⟨(some 46), none, .int2 .lss (T 45) (T 44)⟩]) (.seq (.cond (T 46) .skip (.exit 1)) (.seq (.block 2 (.seq (.ops [⟨(some 47), none, .idxSl 5 (T 43) (T 45)⟩, ⟨(some 48), none, .loadN 5 (T 47)⟩, ⟨(some 12), none, .alloc [(.int .i64 (0)), (.int .i64 (0)), (.int .i64 (0)), (.int .i64 (0)), (.int .i64 (0))]⟩, ⟨none, none, .store 5 (T 12) (T 48)⟩]) (.seq (.draw [⟨.rd1, ⟨(some 49), none, .loadN 4 (T 8)⟩⟩, ⟨.rd1, ⟨(some 50), none, .loadN 5 (T 12)⟩⟩, ⟨.free, ⟨(some 51), none, .mov (T 1)⟩⟩, ⟨.up, ⟨(some 52), none, .call (.func 77) [(T 49), (T 50), (T 51)]⟩⟩, ⟨.rd, ⟨(some 53), none, .loadN 4 (T 8)⟩⟩, ⟨.rd, ⟨(some 54), none, .loadN 5 (T 12)⟩⟩, ⟨.free, ⟨(some 55), none, .mov (T 2)⟩⟩, ⟨.any, ⟨(some 56), none, .call (.func 77) [(T 53), (T 54), (T 55)]⟩⟩, ⟨.free, ⟨(some 57), none, .int2 .gtr (T 52) (T 56)⟩⟩]) (.cond (T 57) (.ops [⟨(some 58), none, .mov (T 10)⟩, ⟨(some 59), none, .int2 .add (T 58) (.const (.int .i64 (1)))⟩, ⟨(some 10), none, .mov (T 59)⟩]) .skip)))) (.ops [⟨(some 60), none, .int2 .add (T 45) (.const (.int .i64 (1)))⟩, ⟨(some 45), none, .mov (T 60)⟩]))))))) (.seq (.seq (.ops [⟨(some 61), none, .mov (T 10)⟩]) (.block 3 (.seq (.ops [⟨(some 63), none, .int2 .eql (T 61) (.const (.int .i64 (0)))⟩, ⟨(some 62), none, .mov (T 63)⟩]) (.cond (T 62) (.seq (.ops [⟨(some 6), none, .mov (.const (.int .i64 (2)))⟩, ⟨(some 7), none, .mov (.const (.int .i64 (0)))⟩]) .ret) (.seq (.ops [⟨(some 65), none, .fieldAddr 3 (T 8)⟩, ⟨(some 66), none, .load1 (T 65)⟩, ⟨(some 67), none, .len (T 66)⟩, ⟨(some 68), none, .int2 .eql (T 61) (T 67)⟩, ⟨(some 64), none, .mov (T 68)⟩]) (.cond (T 64) (.seq (.ops [⟨(some 6), none, .mov (.const (.int .i64 (1)))⟩, ⟨(some 7), none, .mov (.const (.int .i64 (0)))⟩]) .ret) .skip)))))) (.seq (.ops [⟨(some 6), none, .mov (.const (.int .i64 (3)))⟩, ⟨(some 7), none, .mov (.const (.int .i64 (0)))⟩]) .ret)))))))
theorem fok40 : FnOk Try.prog 40 69 s40 [.tmp 6, .tmp 7] := ⟨Try.f40, _, Try.func40, rfl, Try.ntmps40, by kernel_rfl, by kernel_rfl⟩
open Classical in
theorem more_c (hn : 10060 ≤ n) (hr : h.next + 500000 < far) {F V S : Value} {Y : MY} (hy : YardR h F V S Y) (hY : Thin Y) (one other : Int) :
    call n (.func (.func 40) #[] #[]) [.agg ⟨[F, V, S]⟩, .int .i64 one, .int .i64 other] h = some (.tuple ⟨[.int .i64 (moreV Y one other).1, .int .i64 (moreV Y one other).2]⟩, h) := by
  obtain ⟨n, rfl⟩ : ∃ p, n = p + 1 := ⟨n - 1, by omega⟩
  refine call_plain0 fok40 rfl rfl (by simp) rfl ?_
  have hy := hy.shut
  have hr : h.shutAll.next + 500000 < far := hr
  have hfl : h.shutAll.floor ≤ h.shutAll.next := Nat.le_refl _
  generalize h.shutAll = h at hy hr hfl
  generalize hres : moreV Y one other = res
  simp only [s40, W_seq, W_ops]
  refine ops_box (cs := [F, V, S]) (by omega) rfl hy.one fun g1 hx1 => ?_
  have n1 := hx1.next
  have f1 := hx1.floor
  have w1 := hx1.row.whole (n := 3) rfl
  obtain ⟨v, g2, eo, hm, ho⟩ := open_c (n := n) (h := g1) (by omega) (by omega) (by omega) (hy.mono hx1.sub) hY
  have n2 := hm.next
  have u2 := hm.up
  have f2 := hm.floor
  rcases ho with ⟨hf, rfl⟩ | ⟨hf, tv, rfl, htr, hlong⟩
  · have hrr : res = (0, faultN Y) := by rw [← hres]; unfold moreV; rw [if_pos hf]
    rw [hrr]
    simp only [rn0, rn1, rn2, rn3, rn4, rn5, rn6, rn7, rn8, if_true, if_false, Nat.le_refl, true_and, and_true, decide_true, decide_false, Bool.not_true, Bool.not_false, reduceIte, Nat.reduceEqDiff, Nat.reduceAdd, Nat.reduceMul, Nat.reduceSub, Nat.reduceLeDiff, Nat.reduceLT, w1, eo, ex0, ex1]
    refine step_new (vs := [nilS, nilS, nilS, nilS]) (by omega) (by omega) rfl (by simp only [rn0, rn1, rn2, rn3, rn4, rn5, rn6, rn7, rn8, if_true, if_false, Nat.le_refl, true_and, and_true, decide_true, decide_false, Bool.not_true, Bool.not_false, reduceIte, Nat.reduceEqDiff, Nat.reduceAdd, Nat.reduceMul, Nat.reduceSub, Nat.reduceLeDiff, Nat.reduceLT]; rfl) rfl rfl rfl fun g3 hx3 => ?_
    simp only [rn0, rn1, rn2, rn3, rn4, rn5, rn6, rn7, rn8, if_true, if_false, Nat.le_refl, true_and, and_true, decide_true, decide_false, Bool.not_true, Bool.not_false, reduceIte, Nat.reduceEqDiff, Nat.reduceAdd, Nat.reduceMul, Nat.reduceSub, Nat.reduceLeDiff, Nat.reduceLT, hf, ret_tt]
  have hG := good_of hf
  have ho4 : allB oneCell [F, V, S, tv] = true := by have h1 := hy.one; have h2 := Cells.one htr; simp [allB] at h1 ⊢; simp [h1, h2]
  have hrr : res = if ¬ MoreArgs Y one other then (0, 2) else if one = other then (0, 6) else if truths Y = [] then (0, 11)
      else (verdictV Y one.toNat other.toNat, 0) := by rw [← hres]; unfold moreV; rw [if_neg (by simpa using hf)]
  clear hres
  simp only [rn0, rn1, rn2, rn3, rn4, rn5, rn6, rn7, rn8, if_true, if_false, Nat.le_refl, true_and, and_true, decide_true, decide_false, Bool.not_true, Bool.not_false, reduceIte, Nat.reduceEqDiff, Nat.reduceAdd, Nat.reduceMul, Nat.reduceSub, Nat.reduceLeDiff, Nat.reduceLT, w1, eo, ex0, ex1, hf]
  refine step_new (vs := [F, V, S, tv]) (by omega) (by omega) rfl (by simp only [rn0, rn1, rn2, rn3, rn4, rn5, rn6, rn7, rn8, if_true, if_false, Nat.le_refl, true_and, and_true, decide_true, decide_false, Bool.not_true, Bool.not_false, reduceIte, Nat.reduceEqDiff, Nat.reduceAdd, Nat.reduceMul, Nat.reduceSub, Nat.reduceLeDiff, Nat.reduceLT]; rfl) ho4 rfl rfl fun g3 hx3 => ?_
  have n3 := hx3.next
  have f3 := hx3.floor
  have hs3 : Sub All h g3 := hx1.sub.trans (hm.sub.trans hx3.sub)
  have hy3 := hy.mono hs3
  have w3 := hx3.row.whole (n := 4) rfl
  have htr3 : TruthsR g3 tv (truths Y) := Cells.mono htr hx3.sub
  obtain ⟨rr, hrw, hq⟩ := hy3.v
  have ev := hasVat_c (n := n) (h := g3) (by omega) (by omega) hrw ho4 one
  have eg := hasVat_c (n := n) (h := g3) (by omega) (by omega) hrw ho4 other
  by_cases a1 : 0 ≤ one ∧ one ≤ (Y.nv : Int) - 1
  case neg =>
    rw [if_pos (fun (e : MoreArgs Y one other) => a1 e.1)] at hrr
    rw [hrr]
    simp only [rn0, rn1, rn2, rn3, rn4, rn5, rn6, rn7, rn8, if_true, if_false, Nat.le_refl, true_and, and_true, decide_true, decide_false, Bool.not_true, Bool.not_false, reduceIte, Nat.reduceEqDiff, Nat.reduceAdd, Nat.reduceMul, Nat.reduceSub, Nat.reduceLeDiff, Nat.reduceLT, w3, ev, a1, ret_tt]
  by_cases a2 : 0 ≤ other ∧ other ≤ (Y.nv : Int) - 1
  case neg =>
    rw [if_pos (fun (e : MoreArgs Y one other) => a2 e.2)] at hrr
    rw [hrr]
    simp only [rn0, rn1, rn2, rn3, rn4, rn5, rn6, rn7, rn8, if_true, if_false, Nat.le_refl, true_and, and_true, decide_true, decide_false, Bool.not_true, Bool.not_false, reduceIte, Nat.reduceEqDiff, Nat.reduceAdd, Nat.reduceMul, Nat.reduceSub, Nat.reduceLeDiff, Nat.reduceLT, w3, ev, a1, eg, a2, and_self, ret_tt]
  have hargs : MoreArgs Y one other := ⟨a1, a2⟩
  rw [if_neg (by simpa using hargs)] at hrr
  by_cases a3 : one = other
  · rw [if_pos a3] at hrr
    rw [hrr]
    simp only [rn0, rn1, rn2, rn3, rn4, rn5, rn6, rn7, rn8, if_true, if_false, Nat.le_refl, true_and, and_true, decide_true, decide_false, Bool.not_true, Bool.not_false, reduceIte, Nat.reduceEqDiff, Nat.reduceAdd, Nat.reduceMul, Nat.reduceSub, Nat.reduceLeDiff, Nat.reduceLT, w3, ev, a1, eg, a2, and_self, a3, ret_tt]
  rw [if_neg a3] at hrr
  by_cases he : truths Y = []
  · rw [if_pos he] at hrr
    rw [hrr]
    have hl : (truths Y).length = 0 := by rw [he]; rfl
    simp only [rn0, rn1, rn2, rn3, rn4, rn5, rn6, rn7, rn8, if_true, if_false, Nat.le_refl, true_and, and_true, decide_true, decide_false, Bool.not_true, Bool.not_false, reduceIte, Nat.reduceEqDiff, Nat.reduceAdd, Nat.reduceMul, Nat.reduceSub, Nat.reduceLeDiff, Nat.reduceLT, w3, ev, a1, eg, a2, and_self, a3, hx3.row.ld, Nat.zero_add, List.getElem?_cons_zero, List.getElem?_cons_succ, Cells.len htr3, hl, Int.natCast_zero, ret_tt]
  rw [if_neg he] at hrr
  have hl : ¬ ((truths Y).length : Int) = 0 := fun e => he (List.eq_nil_of_length_eq_zero (by omega))
  obtain ⟨aN, rfl⟩ : ∃ k : Nat, one = k := ⟨one.toNat, by omega⟩
  obtain ⟨bN, rfl⟩ : ∃ k : Nat, other = k := ⟨other.toNat, by omega⟩
  simp only [Int.toNat_natCast] at hrr
  have hlen := truths_len hf
  have hav : aN < Y.nv := by omega
  have hbv : bN < Y.nv := by omega
  simp only [rn0, rn1, rn2, rn3, rn4, rn5, rn6, rn7, rn8, if_true, if_false, Nat.le_refl, true_and, and_true, decide_true, decide_false, Bool.not_true, Bool.not_false, reduceIte, Nat.reduceEqDiff, Nat.reduceAdd, Nat.reduceMul, Nat.reduceSub, Nat.reduceLeDiff, Nat.reduceLT, w3, ev, a1, eg, a2, and_self, a3, hx3.row.ld, Nat.zero_add, List.getElem?_cons_zero, List.getElem?_cons_succ, Cells.len htr3, hl]
  refine W_loop (truths Y).length (fun k f' g ms => (Sub All g3 g ∧ g.floor = g3.floor ∧ g3.next ≤ g.next ∧ g.next ≤ g3.next + k) ∧ ms = [] ∧ f' 1 = .int .i64 (aN : Int) ∧ f' 2 = .int .i64 (bN : Int) ∧ f' 8 = .pointer (some ⟨g2.next, 0, none⟩) ∧
    f' 10 = .int .i64 (cntTo (fun i => Above Y aN bN ((truths Y).getD i fun _ => 0)) k : Int) ∧ f' 43 = tv ∧ f' 44 = .int .i64 ((truths Y).length : Int) ∧ f' 45 = .int .i64 (k : Int)) (by simp; omega) ?_ ?_ ?_
  · simp only [rn0, rn1, rn2, rn3, rn4, rn5, rn6, rn7, rn8, if_true, if_false, Nat.le_refl, true_and, and_true, decide_true, decide_false, Bool.not_true, Bool.not_false, reduceIte, Nat.reduceEqDiff, Nat.reduceAdd, Nat.reduceMul, Nat.reduceSub, Nat.reduceLeDiff, Nat.reduceLT, cntTo]
    first | exact ⟨by omega, rfl⟩ | exact ⟨by omega, rfl, rfl⟩
  · rintro k f' g ms hk ⟨⟨hs, hfg, hup, hnx⟩, rfl, p1, p2, p8, p10, p43, p44, p45⟩
    have hk' : (k : Int) < ((truths Y).length : Int) := by omega
    have hw : wrapF .i64 ((k : Int) + 1) = ((k + 1 : Nat) : Int) := by rw [wrap_in (by omega) (by omega)]; rfl
    have hcl := cntTo_le (p := fun i => Above Y aN bN ((truths Y).getD i fun _ => 0)) k
    have hwc : wrapF .i64 ((cntTo (fun i => Above Y aN bN ((truths Y).getD i fun _ => 0)) k : Int) + 1) = ((cntTo (fun i => Above Y aN bN ((truths Y).getD i fun _ => 0)) k + 1 : Nat) : Int) := by rw [wrap_in (by omega) (by omega)]; rfl
    have ht := Cells.mono htr3 hs
    have hld : loadAgg 5 g (ptrO tv 5 k 0) = some (.agg ⟨arr ((truths Y).getD k fun _ => 0)⟩) := truths_ld ht hk
    simp only [rn0, rn1, rn2, rn3, rn4, rn5, rn6, rn7, rn8, if_true, if_false, Nat.le_refl, true_and, and_true, decide_true, decide_false, Bool.not_true, Bool.not_false, reduceIte, Nat.reduceEqDiff, Nat.reduceAdd, Nat.reduceMul, Nat.reduceSub, Nat.reduceLeDiff, Nat.reduceLT, p1, p2, p8, p10, p43, p44, p45, hk', Cells.idx ht hk, hld]
    refine step_new (vs := arr ((truths Y).getD k fun _ => 0)) (by omega) (by omega) rfl (by simp only [rn0, rn1, rn2, rn3, rn4, rn5, rn6, rn7, rn8, if_true, if_false, Nat.le_refl, true_and, and_true, decide_true, decide_false, Bool.not_true, Bool.not_false, reduceIte, Nat.reduceEqDiff, Nat.reduceAdd, Nat.reduceMul, Nat.reduceSub, Nat.reduceLeDiff, Nat.reduceLT]; rfl) arr_one arr_len rfl fun g6 hx6 => ?_
    have n6 := hx6.next
    have f6 := hx6.floor
    have s36 : Sub All g3 g6 := hs.trans hx6.sub
    have w6 := (hx3.row.mono s36).whole (n := 4) rfl
    have t6 := hx6.row.whole arr_len
    have hy6 := hy3.mono s36
    obtain ⟨v1, v2⟩ := hG.v aN hav
    obtain ⟨u1, u2'⟩ := hG.v bN hbv
    have hrg := truths_range hf (truths_at hk)
    have hsz := hG.sz.1
    have e1 := inVat_c (n := n) (h := g6) (b := (truths Y).getD k fun _ => 0) (F := F) (S := S) (T := tv) (at_ := aN) (by omega) (by omega) hy6.v ho4 hav v1 hsz hrg (fun i hi => v2 i (by omega))
    have e2 := inVat_c (n := n) (h := g6) (b := (truths Y).getD k fun _ => 0) (F := F) (S := S) (T := tv) (at_ := bN) (by omega) (by omega) hy6.v ho4 hbv u1 hsz hrg (fun i hi => u2' i (by omega))
    simp only [rn0, rn1, rn2, rn3, rn4, rn5, rn6, rn7, rn8, if_true, if_false, Nat.le_refl, true_and, and_true, decide_true, decide_false, Bool.not_true, Bool.not_false, reduceIte, Nat.reduceEqDiff, Nat.reduceAdd, Nat.reduceMul, Nat.reduceSub, Nat.reduceLeDiff, Nat.reduceLT, p1, p2, p8, p10, p43, p44, p45]
    refine W_draw All ?_
    by_cases hA : Above Y aN bN ((truths Y).getD k fun _ => 0)
    · have hA' : blueN ((truths Y).getD k fun _ => 0) (Y.q bN) Y.nf < blueN ((truths Y).getD k fun _ => 0) (Y.q aN) Y.nf := hA
      have hc := cntTo_yes (p := fun i => Above Y aN bN ((truths Y).getD i fun _ => 0)) (k := k) hA
      simp only [rn0, rn1, rn2, rn3, rn4, rn5, rn6, rn7, rn8, if_true, if_false, Nat.le_refl, true_and, and_true, decide_true, decide_false, Bool.not_true, Bool.not_false, reduceIte, Nat.reduceEqDiff, Nat.reduceAdd, Nat.reduceMul, Nat.reduceSub, Nat.reduceLeDiff, Nat.reduceLT, p1, p2, p8, p10, p43, p44, p45, w6, t6, e1, e2, self4 hy6 (Cells.mono ht hx6.sub), self_arr, hA', hwc, hw, hc]
      exact ⟨s36, by omega, by omega, by omega⟩
    · have hA' : ¬ blueN ((truths Y).getD k fun _ => 0) (Y.q bN) Y.nf < blueN ((truths Y).getD k fun _ => 0) (Y.q aN) Y.nf := hA
      have hc := cntTo_no (p := fun i => Above Y aN bN ((truths Y).getD i fun _ => 0)) (k := k) hA
      simp only [rn0, rn1, rn2, rn3, rn4, rn5, rn6, rn7, rn8, if_true, if_false, Nat.le_refl, true_and, and_true, decide_true, decide_false, Bool.not_true, Bool.not_false, reduceIte, Nat.reduceEqDiff, Nat.reduceAdd, Nat.reduceMul, Nat.reduceSub, Nat.reduceLeDiff, Nat.reduceLT, p1, p2, p8, p10, p43, p44, p45, w6, t6, e1, e2, self4 hy6 (Cells.mono ht hx6.sub), self_arr, hA', hw, hc]
      exact ⟨s36, by omega, by omega, by omega⟩
  · rintro f' g ms ⟨⟨hs, hfg, hup, hnx⟩, rfl, p1, p2, p8, p10, p43, p44, p45⟩
    have r3 := hx3.row.mono hs
    have ht := Cells.mono htr3 hs
    have hcl := cntTo_le (p := fun i => Above Y aN bN ((truths Y).getD i fun _ => 0)) (truths Y).length
    have hno : ((cntTo (fun i => Above Y aN bN ((truths Y).getD i fun _ => 0)) (truths Y).length : Int) = 0) ↔ ∀ t, t ∈ truths Y → ¬ Above Y aN bN t := by
      rw [← all_getD' (p := fun t => ¬ Above Y aN bN t), ← cntTo_none (p := fun i => Above Y aN bN ((truths Y).getD i fun _ => 0))]; omega
    have hal : ((cntTo (fun i => Above Y aN bN ((truths Y).getD i fun _ => 0)) (truths Y).length : Int) = ((truths Y).length : Int)) ↔ ∀ t, t ∈ truths Y → Above Y aN bN t := by
      rw [← all_getD' (p := fun t => Above Y aN bN t), ← cntTo_all (p := fun i => Above Y aN bN ((truths Y).getD i fun _ => 0))]; omega
    unfold verdictV at hrr
    by_cases c1 : ∀ t, t ∈ truths Y → ¬ Above Y aN bN t
    · rw [if_pos c1] at hrr
      rw [hrr]
      have c1' := hno.2 c1
      simp only [rn0, rn1, rn2, rn3, rn4, rn5, rn6, rn7, rn8, if_true, if_false, Nat.le_refl, true_and, and_true, decide_true, decide_false, Bool.not_true, Bool.not_false, reduceIte, Nat.reduceEqDiff, Nat.reduceAdd, Nat.reduceMul, Nat.reduceSub, Nat.reduceLeDiff, Nat.reduceLT, p1, p2, p8, p10, p43, p44, p45, Int.lt_irrefl, c1', ret_tt]
    have c1' := mt hno.1 c1
    rw [if_neg c1] at hrr
    by_cases c2 : ∀ t, t ∈ truths Y → Above Y aN bN t
    · rw [if_pos c2] at hrr
      rw [hrr]
      have c2' := hal.2 c2
      have hl2 : ¬ ((truths Y).length : Int) = 0 := hl
      simp only [rn0, rn1, rn2, rn3, rn4, rn5, rn6, rn7, rn8, if_true, if_false, Nat.le_refl, true_and, and_true, decide_true, decide_false, Bool.not_true, Bool.not_false, reduceIte, Nat.reduceEqDiff, Nat.reduceAdd, Nat.reduceMul, Nat.reduceSub, Nat.reduceLeDiff, Nat.reduceLT, p1, p2, p8, p10, p43, p44, p45, Int.lt_irrefl, c2', hl2, r3.ld, Nat.zero_add, List.getElem?_cons_zero, List.getElem?_cons_succ, Cells.len ht, ret_tt]
    have c2' := mt hal.1 c2
    rw [if_neg c2] at hrr
    rw [hrr]
    simp only [rn0, rn1, rn2, rn3, rn4, rn5, rn6, rn7, rn8, if_true, if_false, Nat.le_refl, true_and, and_true, decide_true, decide_false, Bool.not_true, Bool.not_false, reduceIte, Nat.reduceEqDiff, Nat.reduceAdd, Nat.reduceMul, Nat.reduceSub, Nat.reduceLeDiff, Nat.reduceLT, p1, p2, p8, p10, p43, p44, p45, Int.lt_irrefl, c1', c2', r3.ld, Nat.zero_add, List.getElem?_cons_zero, List.getElem?_cons_succ, Cells.len ht, ret_tt]
end Go.Vm.Vat

namespace Go.Vm.Vat
open Go.Proofs
set_option linter.unusedSimpArgs false
set_option linter.unusedVariables false
set_option maxRecDepth 10000
variable {n : Nat} {h : AHeap}
theorem x_eqNil {P : Program} {cf : CallF} {N : Nat} {f : Fr} {w : Bool} {x y : Operand} : sem P cf N f h (.eqNil w x y) = eqNilA w (val f x) (val f y) h := id rfl
theorem eqNil_no {w : Bool} {a : Addr} {k c k2 c2 : Nat} : eqNilA w (.slice (some a) k c) (.slice none k2 c2) h = some (.bool (!w), h) := id rfl
def s102 : SCode := (.seq (.ops [⟨(some 2), none, .mov (.const (.slice none 0 0))⟩]) (.seq (.seq (.ops [⟨(some 3), none, .mov (T 0)⟩, ⟨(some 4), none, .eqNil true (T 3) (.const (.slice none 0 0))⟩]) (.cond (T 4) (.seq (.ops [⟨(some 2), none, .mov (.const (.slice none 0 0))⟩]) .ret) .skip)) (.seq (.ops [⟨(some 5), none, .bslice 1 0 [(.int .i64 (0))] [] []⟩, ⟨(some 6), none, .mov (T 0)⟩, ⟨(some 7), none, .append 1 8 (T 5) (T 6)⟩, ⟨(some 2), none, .mov (T 7)⟩]) .ret)))
theorem fok102 : FnOk Try.prog 102 8 s102 [.tmp 2] := ⟨Try.f102, _, Try.func102, rfl, Try.ntmps102, by kernel_rfl, by kernel_rfl⟩
theorem clone_c (hn : 1 ≤ n) (hr : h.next + 2 < far) {b cap m : Nat} {a : Nat → Int} (hi : Ints h (.slice (some ⟨b, 0, none⟩) m cap) m a) (hm : m ≤ 30) :
    ∃ v' h', call n (.func (.func 102) #[] #[]) [.slice (some ⟨b, 0, none⟩) m cap] h = some (v', h') ∧ Ints h' v' m a ∧ Made h h' 2 ∧ oneCell v' = true ∧ ∀ a k c, v' = .slice (some a) k c → h.next ≤ a.block ∧ a.block < h'.next := by
  obtain ⟨n, rfl⟩ : ∃ p, n = p + 1 := ⟨n - 1, by omega⟩
  refine call_any0 fok102 rfl rfl (by simp) ?_
  simp only [rn0, rn1, rn2, rn3, rn4, rn5, rn6, rn7, rn8, if_true, if_false, Nat.le_refl, true_and, and_true, decide_true, decide_false, Bool.not_true, Bool.not_false, reduceIte, Nat.reduceEqDiff, Nat.reduceAdd, Nat.reduceMul, Nat.reduceSub, Nat.reduceLeDiff, Nat.reduceLT, s102, build_none, x_eqNil, eqNil_no]
  refine step_slice (by omega) rfl fun h1 hx => ?_
  have hi1 := Cells.mono hi hx.sub
  obtain ⟨x, k, e1, e2⟩ := Ints.cells hi1
  have hap := append_none (s := 1) (bytes := 8) (b := h.next) ⟨x, k, e1⟩ e2 (by simp) (by simp [maxBytes]; omega) (by simp [maxBytes]; omega)
  by_cases hz : m = 0
  · rw [if_pos hz] at hap
    simp only [rn0, rn1, rn2, rn3, rn4, rn5, rn6, rn7, rn8, if_true, if_false, Nat.le_refl, true_and, and_true, decide_true, decide_false, Bool.not_true, Bool.not_false, reduceIte, Nat.reduceEqDiff, Nat.reduceAdd, Nat.reduceMul, Nat.reduceSub, Nat.reduceLeDiff, Nat.reduceLT, hap]
    refine ⟨⟨_, _, by rw [hz], fun x e => by cases e; rfl, .inl hz⟩, ⟨hx.sub, by rw [hx.next]; omega, by rw [hx.next]; omega, hx.floor⟩, rfl, fun a k c e => by cases e; exact ⟨Nat.le_refl _, by rw [hx.next]; exact Nat.lt_succ_self _⟩⟩
  · rw [if_neg hz] at hap
    simp only [rn0, rn1, rn2, rn3, rn4, rn5, rn6, rn7, rn8, if_true, if_false, Nat.le_refl, true_and, and_true, decide_true, decide_false, Bool.not_true, Bool.not_false, reduceIte, Nat.reduceEqDiff, Nat.reduceAdd, Nat.reduceMul, Nat.reduceSub, Nat.reduceLeDiff, Nat.reduceLT, hap]
    refine step_slice (by rw [hx.next]; omega) (by rw [allB_iff]; intro v hv; obtain ⟨i, _, rfl⟩ := List.mem_map.1 hv; rfl) fun h2 hx2 => ?_
    simp only [rn0, rn1, rn2, rn3, rn4, rn5, rn6, rn7, rn8, if_true, if_false, Nat.le_refl, true_and, and_true, decide_true, decide_false, Bool.not_true, Bool.not_false, reduceIte, Nat.reduceEqDiff, Nat.reduceAdd, Nat.reduceMul, Nat.reduceSub, Nat.reduceLeDiff, Nat.reduceLT]
    refine ⟨⟨_, _, rfl, fun x e => by cases e; rfl, .inr ⟨_, 0, _, _, _, rfl, hx2.get, fun k j hk hj => ?_⟩⟩, ⟨hx.sub.trans hx2.sub, by rw [hx2.next, hx.next]; omega, by rw [hx2.next, hx.next]; omega, by rw [hx2.floor, hx.floor]⟩, rfl, fun a k c e => by cases e; exact ⟨by show h.next ≤ h1.next; rw [hx.next]; omega, by rw [hx2.next]; exact Nat.lt_succ_self _⟩⟩
    rw [show 0 + k * 1 + j = k by omega, List.getElem?_map, List.getElem?_range hk]
    rfl
def s100 : SCode := (.seq (.ops [⟨(some 2), none, .mov (.const (.bool false))⟩]) (.seq (.ops [⟨(some 3), none, .mov (T 0)⟩, ⟨(some 4), none, .int2 .leq (.const (.int .i64 (0))) (T 3)⟩, ⟨(some 5), none, .mov (T 4)⟩, ⟨(some 6), (some (5, true)), .mov (T 0)⟩, ⟨(some 7), (some (5, true)), .int2 .leq (T 6) (.const (.int .i64 (9)))⟩, ⟨(some 8), none, .pick (T 5) (T 7) (.const (.bool false))⟩, ⟨(some 2), none, .mov (T 8)⟩]) .ret))
theorem fok100 : FnOk Try.prog 100 9 s100 [.tmp 2] := ⟨Try.f100, _, Try.func100, rfl, Try.ntmps100, by kernel_rfl, by kernel_rfl⟩
theorem isFurther_c (hn : 1 ≤ n) (m : Int) : call n (.func (.func 100) #[] #[]) [.int .i64 m] h = some (.bool (decide (0 ≤ m ∧ m ≤ 9)), h) := by
  obtain ⟨n, rfl⟩ : ∃ p, n = p + 1 := ⟨n - 1, by omega⟩
  refine call_plain0 fok100 rfl rfl (by simp) rfl ?_
  by_cases c1 : 0 ≤ m <;> by_cases c2 : m ≤ 9 <;> simp only [rn0, rn1, rn2, rn3, rn4, rn5, rn6, rn7, rn8, if_true, if_false, Nat.le_refl, true_and, and_true, decide_true, decide_false, Bool.not_true, Bool.not_false, reduceIte, Nat.reduceEqDiff, Nat.reduceAdd, Nat.reduceMul, Nat.reduceSub, Nat.reduceLeDiff, Nat.reduceLT, s100, c1, c2, and_self, and_false, false_and]
/-- what Spread asks of its arguments -/
def SpreadArgs (Y : MY) (field many : Int) : Prop := (0 ≤ field ∧ field ≤ (Y.nf : Int) - 1) ∧ 0 ≤ many ∧ many ≤ 9
open Classical in
/-- the error of Spread -/
noncomputable def spreadE (Y : MY) (field many : Int) : Int := if faultN Y ≠ 0 then faultN Y else if ¬ SpreadArgs Y field many then 2 else if truths Y = [] then 11 else if Y.nv = 0 then 7 else 0
/-- the best spread, and its least blue -/
noncomputable def bestS (Y : MY) (f many : Nat) : (Nat → Int) × Int := spRun (fun v k => sureN Y v f k (truths Y)) Y.nv many
/-- what Spread answers -/
def SpreadR (h : AHeap) (Y : MY) (field many : Int) (v : Value) (h' : AHeap) : Prop := Made h h' 400000 ∧
  ((spreadE Y field many ≠ 0 ∧ v = .tuple ⟨[nilS, .int .i64 0, .int .i64 (spreadE Y field many)]⟩) ∨
    (spreadE Y field many = 0 ∧ ∃ l, v = .tuple ⟨[l, .int .i64 (bestS Y field.toNat many.toNat).2, .int .i64 0]⟩ ∧ Ints h' l Y.nv (bestS Y field.toNat many.toNat).1 ∧ oneCell l = true ∧ ∀ a k c, l = .slice (some a) k c → h.next ≤ a.block ∧ a.block < h'.next))
theorem ret_ttt {a b c : Nat} {f : Fr} : resV f h [.tmp a, .tmp b, .tmp c] = some (.tuple ⟨[f a, f b, f c]⟩) := id rfl
theorem x_sliceArr {P : Program} {cf : CallF} {N : Nat} {f : Fr} {m s : Nat} {x : Operand} {lo hi : Option Operand} : sem P cf N f h (.sliceArr m s x lo hi) = sliceArr m s h (val f x) (lo.map (val f)) (hi.map (val f)) := id rfl
theorem sliceArr4 {b m : Nat} (hm : m ≤ 4) : sliceArr 4 1 h (.pointer (some ⟨b, 0, none⟩)) none (some (.int .i64 (m : Int))) = some (.slice (some ⟨b, 0, none⟩) m 4, h) := by
  have e1 : boundA 0 none = some 0 := rfl
  have e2 : boundA 4 (some (.int .i64 (m : Int))) = some m := rfl
  have e3 : Nat.ble 0 m = true := ble_iff.2 (Nat.zero_le _)
  have e4 : Nat.ble m 4 = true := ble_iff.2 hm
  have e5 : Nat.beq 4 0 = false := rfl
  unfold sliceArr
  simp only [e1, e2, e3, e4, e5, Bool.and_self, cond_true, cond_false, addrPlus, Nat.zero_mul, Nat.add_zero, Nat.sub_zero]
def s48 : SCode := (.seq (.ops [⟨(some 3), none, .box (T 0)⟩, ⟨(some 6), none, .mov (.const (.slice none 0 0))⟩, ⟨(some 7), none, .mov (.const (.int .i64 (0)))⟩, ⟨(some 8), none, .mov (.const (.int .i64 (0)))⟩]) (.seq (.ops [⟨(some 12), none, .loadN 3 (T 3)⟩, ⟨(some 13), none, .call (.func 78) [(T 12)]⟩, ⟨(some 11), none, .mov (T 13)⟩, ⟨(some 14), none, .extract 0 (T 11)⟩, ⟨(some 15), none, .extract 1 (T 11)⟩, ⟨(some 9), none, .alloc [(.slice none 0 0), (.slice none 0 0), (.slice none 0 0), (.slice none 0 0)]⟩, ⟨none, none, .store 4 (T 9) (T 14)⟩, ⟨(some 8), none, .mov (T 15)⟩]) (.seq (.block 0 (.seq (.ops [⟨(some 17), none, .mov (T 8)⟩, ⟨(some 18), none, .int2 .neq (T 17) (.const (.int .i64 (0)))⟩, ⟨(some 16), none, .mov (T 18)⟩]) (.cond (T 16) (.seq (.ops [⟨(some 19), none, .mov (T 8)⟩, ⟨(some 6), none, .mov (.const (.slice none 0 0))⟩, ⟨(some 7), none, .mov (.const (.int .i64 (0)))⟩, ⟨(some 8), none, .mov (T 19)⟩]) .ret) (.seq (.ops [⟨(some 21), none, .loadN 4 (T 9)⟩, ⟨(some 22), none, .mov (T 1)⟩, ⟨(some 23), none, .call (.func 98) [(T 21), (T 22)]⟩, ⟨(some 24), none, .not (T 23)⟩, ⟨(some 25), none, .mov (T 24)⟩, ⟨(some 26), (some (25, false)), .mov (T 2)⟩, ⟨(some 27), (some (25, false)), .call (.func 100) [(T 26)]⟩, ⟨(some 28), (some (25, false)), .not (T 27)⟩, ⟨(some 29), none, .pick (T 25) (.const (.bool true)) (T 28)⟩, ⟨(some 20), none, .mov (T 29)⟩]) (.cond (T 20) (.seq (.ops [⟨(some 6), none, .mov (.const (.slice none 0 0))⟩, ⟨(some 7), none, .mov (.const (.int .i64 (0)))⟩, ⟨(some 8), none, .mov (.const (.int .i64 (2)))⟩]) .ret) (.seq (.ops [⟨(some 31), none, .fieldAddr 3 (T 9)⟩, ⟨(some 32), none, .load1 (T 31)⟩, ⟨(some 33), none, .len (T 32)⟩, ⟨(some 34), none, .int2 .eql (T 33) (.const (.int .i64 (0)))⟩, ⟨(some 30), none, .mov (T 34)⟩]) (.cond (T 30) (.seq (.ops [⟨(some 6), none, .mov (.const (.slice none 0 0))⟩, ⟨(some 7), none, .mov (.const (.int .i64 (0)))⟩, ⟨(some 8), none, .mov (.const (.int .i64 (11)))⟩]) .ret) (.seq (.ops [⟨(some 36), none, .fieldAddr 0 (T 9)⟩, ⟨(some 37), none, .fieldAddr 1 (T 36)⟩, ⟨(some 38), none, .load1 (T 37)⟩, ⟨(some 39), none, .len (T 38)⟩, ⟨(some 40), none, .int2 .eql (T 39) (.const (.int .i64 (0)))⟩, ⟨(some 35), none, .mov (T 40)⟩]) (.cond (T 35) (.seq (.ops [⟨(some 6), none, .mov (.const (.slice none 0 0))⟩, ⟨(some 7), none, .mov (.const (.int .i64 (0)))⟩, ⟨(some 8), none, .mov (.const (.int .i64 (7)))⟩]) .ret) .skip))))))))) (.seq (.ops [⟨(some 42), none, .loadN 4 (T 9)⟩, ⟨(some 43), none, .mov (T 1)⟩, ⟨(some 44), none, .mov (T 2)⟩, ⟨(some 45), none, .call (.func 101) [(T 42), (T 43), (T 44)]⟩, ⟨(some 41), none, .mov (T 45)⟩, ⟨(some 46), none, .extract 0 (T 41)⟩, ⟨(some 47), none, .extract 1 (T 41)⟩, ⟨(some 10), none, .alloc [(.int .i64 (0)), (.int .i64 (0)), (.int .i64 (0)), (.int .i64 (0))]⟩, ⟨none, none, .store 4 (T 10) (T 46)⟩, ⟨(some 7), none, .mov (T 47)⟩]) (.seq (.ops [⟨(some 48), none, .fieldAddr 0 (T 9)⟩, ⟨(some 49), none, .fieldAddr 1 (T 48)⟩, ⟨(some 50), none, .load1 (T 49)⟩, ⟨(some 51), none, .len (T 50)⟩, ⟨(some 52), none, .sliceArr 4 1 (T 10) none (some (T 51))⟩, ⟨(some 53), none, .call (.func 102) [(T 52)]⟩, ⟨(some 54), none, .mov (T 7)⟩, ⟨(some 6), none, .mov (T 53)⟩, ⟨(some 7), none, .mov (T 54)⟩, ⟨(some 8), none, .mov (.const (.int .i64 (0)))⟩]) .ret)))))
theorem fok48 : FnOk Try.prog 48 55 s48 [.tmp 6, .tmp 7, .tmp 8] := ⟨Try.f48, _, Try.func48, rfl, Try.ntmps48, by kernel_rfl, by kernel_rfl⟩
open Classical in
theorem spread_c (hn : 10070 ≤ n) (hr : h.next + 600000 < far) (hfl : h.floor ≤ h.next) {F V S : Value} {Y : MY} (hy : YardR h F V S Y) (hY : Thin Y) (field many : Int) :
    ∃ v h', call n (.func (.func 48) #[] #[]) [.agg ⟨[F, V, S]⟩, .int .i64 field, .int .i64 many] h = some (v, h') ∧ SpreadR h Y field many v h' := by
  obtain ⟨n, rfl⟩ : ∃ p, n = p + 1 := ⟨n - 1, by omega⟩
  refine call_any0 fok48 rfl rfl (by simp) ?_
  simp only [s48, W_seq, W_ops]
  refine ops_box (cs := [F, V, S]) (by omega) rfl hy.one fun g1 hx1 => ?_
  have n1 := hx1.next
  have f1 := hx1.floor
  have w1 := hx1.row.whole (n := 3) rfl
  obtain ⟨v, g2, eo, hm, ho⟩ := open_c (n := n) (h := g1) (by omega) (by omega) (by omega) (hy.mono hx1.sub) hY
  have n2 := hm.next
  have u2 := hm.up
  have f2 := hm.floor
  generalize hres : spreadE Y field many = E
  have made : ∀ g g', Sub All h g → Made g g' 130000 → h.next ≤ g.next → g.next ≤ h.next + 240000 → g.floor = h.floor → Made h g' 400000 := fun g g' hs hg h1 h2 h3 => by
    have a1 := hg.next
    have a2 := hg.up
    have a3 := hg.floor
    exact ⟨hs.trans hg.sub, by omega, by omega, by omega⟩
  have made0 : ∀ g, Made g g 130000 := fun g => ⟨Sub.refl, by omega, Nat.le_refl _, rfl⟩
  rcases ho with ⟨hf, rfl⟩ | ⟨hf, tv, rfl, htr, hlong⟩
  · have hE : E = faultN Y := by rw [← hres]; unfold spreadE; rw [if_pos hf]
    simp only [rn0, rn1, rn2, rn3, rn4, rn5, rn6, rn7, rn8, if_true, if_false, Nat.le_refl, true_and, and_true, decide_true, decide_false, Bool.not_true, Bool.not_false, reduceIte, Nat.reduceEqDiff, Nat.reduceAdd, Nat.reduceMul, Nat.reduceSub, Nat.reduceLeDiff, Nat.reduceLT, w1, eo, ex0, ex1]
    refine step_new (vs := [nilS, nilS, nilS, nilS]) (by omega) (by omega) rfl (by simp only [rn0, rn1, rn2, rn3, rn4, rn5, rn6, rn7, rn8, if_true, if_false, Nat.le_refl, true_and, and_true, decide_true, decide_false, Bool.not_true, Bool.not_false, reduceIte, Nat.reduceEqDiff, Nat.reduceAdd, Nat.reduceMul, Nat.reduceSub, Nat.reduceLeDiff, Nat.reduceLT]; rfl) rfl rfl rfl fun g3 hx3 => ?_
    have n3 := hx3.next
    have f3 := hx3.floor
    simp only [rn0, rn1, rn2, rn3, rn4, rn5, rn6, rn7, rn8, if_true, if_false, Nat.le_refl, true_and, and_true, decide_true, decide_false, Bool.not_true, Bool.not_false, reduceIte, Nat.reduceEqDiff, Nat.reduceAdd, Nat.reduceMul, Nat.reduceSub, Nat.reduceLeDiff, Nat.reduceLT, hf, ret_ttt]
    exact ⟨made g3 g3 (hx1.sub.trans (hm.sub.trans hx3.sub)) (made0 _) (by omega) (by omega) (by omega), .inl ⟨by rw [hres, hE]; exact hf, by rw [hres, hE]⟩⟩
  have hG := good_of hf
  obtain ⟨z1, z2, z3⟩ := hG.sz
  have ho4 : allB oneCell [F, V, S, tv] = true := by have h1 := hy.one; have h2 := Cells.one htr; simp [allB] at h1 ⊢; simp [h1, h2]
  have hE : E = if ¬ SpreadArgs Y field many then 2 else if truths Y = [] then 11 else if Y.nv = 0 then 7 else 0 := by rw [← hres]; unfold spreadE; rw [if_neg (by simpa using hf)]
  simp only [rn0, rn1, rn2, rn3, rn4, rn5, rn6, rn7, rn8, if_true, if_false, Nat.le_refl, true_and, and_true, decide_true, decide_false, Bool.not_true, Bool.not_false, reduceIte, Nat.reduceEqDiff, Nat.reduceAdd, Nat.reduceMul, Nat.reduceSub, Nat.reduceLeDiff, Nat.reduceLT, w1, eo, ex0, ex1, hf]
  refine step_new (vs := [F, V, S, tv]) (by omega) (by omega) rfl (by simp only [rn0, rn1, rn2, rn3, rn4, rn5, rn6, rn7, rn8, if_true, if_false, Nat.le_refl, true_and, and_true, decide_true, decide_false, Bool.not_true, Bool.not_false, reduceIte, Nat.reduceEqDiff, Nat.reduceAdd, Nat.reduceMul, Nat.reduceSub, Nat.reduceLeDiff, Nat.reduceLT]; rfl) ho4 rfl rfl fun g3 hx3 => ?_
  have n3 := hx3.next
  have f3 := hx3.floor
  have hs3 : Sub All h g3 := hx1.sub.trans (hm.sub.trans hx3.sub)
  have hy3 := hy.mono hs3
  have w3 := hx3.row.whole (n := 4) rfl
  have htr3 : TruthsR g3 tv (truths Y) := Cells.mono htr hx3.sub
  obtain ⟨rr, hrw, hq⟩ := hy3.v
  have eg := hasField_c (n := n) (h := g3) (by omega) (by omega) hy3.f ho4 field
  have ef := isFurther_c (n := n) (h := g3) (by omega) many
  have M3 := made g3 g3 hs3 (made0 _) (by omega) (by omega) (by omega)
  have bad : ∀ x : Int, E = x → x ≠ 0 → SpreadR h Y field many (.tuple ⟨[nilS, .int .i64 0, .int .i64 x]⟩) g3 := fun x e hx => ⟨M3, .inl ⟨by rw [hres, e]; exact hx, by rw [hres, e]⟩⟩
  by_cases a1 : 0 ≤ field ∧ field ≤ (Y.nf : Int) - 1
  case neg =>
    have h2 := bad 2 (by rw [hE, if_pos fun h => a1 h.1]) (by omega)
    simp only [rn0, rn1, rn2, rn3, rn4, rn5, rn6, rn7, rn8, if_true, if_false, Nat.le_refl, true_and, and_true, decide_true, decide_false, Bool.not_true, Bool.not_false, reduceIte, Nat.reduceEqDiff, Nat.reduceAdd, Nat.reduceMul, Nat.reduceSub, Nat.reduceLeDiff, Nat.reduceLT, w3, eg, a1, ret_ttt]
    exact h2
  by_cases a2 : 0 ≤ many ∧ many ≤ 9
  case neg =>
    have h2 := bad 2 (by rw [hE, if_pos fun h => a2 h.2]) (by omega)
    simp only [rn0, rn1, rn2, rn3, rn4, rn5, rn6, rn7, rn8, if_true, if_false, Nat.le_refl, true_and, and_true, decide_true, decide_false, Bool.not_true, Bool.not_false, reduceIte, Nat.reduceEqDiff, Nat.reduceAdd, Nat.reduceMul, Nat.reduceSub, Nat.reduceLeDiff, Nat.reduceLT, w3, eg, a1, ef, a2, and_self, ret_ttt]
    exact h2
  have hargs : SpreadArgs Y field many := ⟨a1, a2⟩
  rw [if_neg (by simpa using hargs)] at hE
  by_cases he : truths Y = []
  · have h2 := bad 11 (by rw [hE, if_pos he]) (by omega)
    have hl : (truths Y).length = 0 := by rw [he]; rfl
    simp only [rn0, rn1, rn2, rn3, rn4, rn5, rn6, rn7, rn8, if_true, if_false, Nat.le_refl, true_and, and_true, decide_true, decide_false, Bool.not_true, Bool.not_false, reduceIte, Nat.reduceEqDiff, Nat.reduceAdd, Nat.reduceMul, Nat.reduceSub, Nat.reduceLeDiff, Nat.reduceLT, w3, eg, a1, ef, a2, and_self, hx3.row.ld, Nat.zero_add, List.getElem?_cons_zero, List.getElem?_cons_succ, Cells.len htr3, hl, Int.natCast_zero, ret_ttt]
    exact h2
  rw [if_neg he] at hE
  have hl : ¬ ((truths Y).length : Int) = 0 := fun e => he (List.eq_nil_of_length_eq_zero (by omega))
  by_cases hv0 : Y.nv = 0
  · have h2 := bad 7 (by rw [hE, if_pos hv0]) (by omega)
    simp only [rn0, rn1, rn2, rn3, rn4, rn5, rn6, rn7, rn8, if_true, if_false, Nat.le_refl, true_and, and_true, decide_true, decide_false, Bool.not_true, Bool.not_false, reduceIte, Nat.reduceEqDiff, Nat.reduceAdd, Nat.reduceMul, Nat.reduceSub, Nat.reduceLeDiff, Nat.reduceLT, w3, eg, a1, ef, a2, and_self, hx3.row.ld, Nat.zero_add, List.getElem?_cons_zero, List.getElem?_cons_succ, Cells.len htr3, hl, Cells.len hrw, hv0, Int.natCast_zero, ret_ttt]
    exact h2
  rw [if_neg hv0] at hE
  have hv0' : ¬ (Y.nv : Int) = 0 := by omega
  obtain ⟨fN, rfl⟩ : ∃ k : Nat, field = k := ⟨field.toNat, by omega⟩
  obtain ⟨mN, rfl⟩ : ∃ k : Nat, many = k := ⟨many.toNat, by omega⟩
  obtain ⟨bv, g4, eb, rfl, hm4⟩ := bestSpread_c (n := n) (h := g3) (f := fN) (many := mN) (by omega) (by omega) (by omega) hy3 hf he htr3 hlong (by omega) (by omega) (by omega)
  have hbs : spRun (fun v k => sureN Y v fN k (truths Y)) Y.nv mN = bestS Y fN mN := rfl
  rw [hbs] at eb
  generalize hbb : bestS Y fN mN = B at eb
  have n4 := hm4.next
  have u4 := hm4.up
  have f4 := hm4.floor
  simp only [rn0, rn1, rn2, rn3, rn4, rn5, rn6, rn7, rn8, if_true, if_false, Nat.le_refl, true_and, and_true, decide_true, decide_false, Bool.not_true, Bool.not_false, reduceIte, Nat.reduceEqDiff, Nat.reduceAdd, Nat.reduceMul, Nat.reduceSub, Nat.reduceLeDiff, Nat.reduceLT, w3, eg, a1, ef, a2, and_self, hx3.row.ld, Nat.zero_add, List.getElem?_cons_zero, List.getElem?_cons_succ, Cells.len htr3, hl, Cells.len hrw, hv0', eb, ex0, ex1]
  refine step_new (vs := arr4 B.1) (by omega) (by omega) rfl (by simp only [rn0, rn1, rn2, rn3, rn4, rn5, rn6, rn7, rn8, if_true, if_false, Nat.le_refl, true_and, and_true, decide_true, decide_false, Bool.not_true, Bool.not_false, reduceIte, Nat.reduceEqDiff, Nat.reduceAdd, Nat.reduceMul, Nat.reduceSub, Nat.reduceLeDiff, Nat.reduceLT]; rfl) arr4_one arr4_len rfl fun g5 hx5 => ?_
  have n5 := hx5.next
  have f5 := hx5.floor
  have r35 : Row g5 g2.next [F, V, S, tv] := (hx3.row.mono hm4.sub).mono hx5.sub
  have hrw5 := (Cells.mono hrw hm4.sub).mono hx5.sub
  have hin : Ints g5 (.slice (some ⟨g4.next, 0, none⟩) Y.nv 4) Y.nv B.1 := ⟨_, _, rfl, fun x e => by cases e; rfl, .inr ⟨_, 0, _, _, _, rfl, hx5.get, fun k j hk hj => by
    obtain rfl : j = 0 := by omega
    unfold arr4
    rw [List.getElem?_map, List.getElem?_range (by omega), show 0 + k * 1 + 0 = k by omega]; rfl⟩⟩
  obtain ⟨cv, g6, ec, hci, hcm, hc1, hcb⟩ := clone_c (n := n) (h := g5) (by omega) (by omega) hin (by omega)
  have n6 := hcm.next
  have u6 := hcm.up
  have f6 := hcm.floor
  simp only [rn0, rn1, rn2, rn3, rn4, rn5, rn6, rn7, rn8, if_true, if_false, Nat.le_refl, true_and, and_true, decide_true, decide_false, Bool.not_true, Bool.not_false, reduceIte, Nat.reduceEqDiff, Nat.reduceAdd, Nat.reduceMul, Nat.reduceSub, Nat.reduceLeDiff, Nat.reduceLT, r35.ld, Nat.zero_add, List.getElem?_cons_zero, List.getElem?_cons_succ, Cells.len hrw5, sliceArr4 (h := g5) (b := g4.next) (m := Y.nv) (by omega), ec, ret_ttt, x_sliceArr, Option.map_none, Option.map_some]
  refine ⟨⟨hs3.trans (hm4.sub.trans (hx5.sub.trans hcm.sub)), by omega, by omega, by omega⟩, .inr ⟨by rw [hres, hE], cv, ?_, ?_, hc1, fun a k c e => by have := hcb a k c e; omega⟩⟩
  · simp only [Int.toNat_natCast, hbb]
  · simp only [Int.toNat_natCast, hbb]; exact hci
end Go.Vm.Vat

namespace Go.Vm.Vat
open Go.Proofs
set_option linter.unusedSimpArgs false
set_option linter.unusedVariables false
set_option maxRecDepth 10000
variable {n : Nat} {h : AHeap}
end Go.Vm.Vat

namespace Go.Vm.Vat
open Go.Proofs
set_option linter.unusedSimpArgs false
set_option linter.unusedVariables false
set_option maxRecDepth 10000
variable {n : Nat} {h : AHeap}
/-! ### Lists in order -/
/-- lexicographically before, both as long -/
def LexLt (a b : Nat → Int) (m : Nat) : Prop := ∃ j, j < m ∧ (∀ i, i < j → a i = b i) ∧ a j < b j
noncomputable instance (a b : Nat → Int) (m : Nat) : Decidable (LexLt a b m) := Classical.propDecidable _
/-- shorter, or as long and before it -/
def Shortlex (a : Nat → Int) (m : Nat) (b : Nat → Int) (k : Nat) : Prop := m < k ∨ m = k ∧ LexLt a b m
noncomputable instance (a : Nat → Int) (m : Nat) (b : Nat → Int) (k : Nat) : Decidable (Shortlex a m b k) := Classical.propDecidable _
noncomputable def lexC (a b : Nat → Int) (m : Nat) : Int := if LexLt a b m then -1 else if LexLt b a m then 1 else 0
theorem lex_at {a b : Nat → Int} {m k : Nat} (hk : k < m) (he : ∀ i, i < k → a i = b i) (hl : a k < b k) : lexC a b m = -1 := by unfold lexC; rw [if_pos ⟨k, hk, he, hl⟩]
theorem lex_at' {a b : Nat → Int} {m k : Nat} (hk : k < m) (he : ∀ i, i < k → a i = b i) (hl : b k < a k) : lexC a b m = 1 := by
  unfold lexC
  rw [if_neg, if_pos ⟨k, hk, fun i hi => (he i hi).symm, hl⟩]
  rintro ⟨j, j1, j2, j3⟩
  by_cases e : j < k
  · have := he j e; omega
  · by_cases e2 : j = k
    · subst e2; omega
    · have := j2 k (by omega); omega
theorem lex_eq {a b : Nat → Int} {m : Nat} (he : ∀ i, i < m → a i = b i) : lexC a b m = 0 := by
  unfold lexC
  rw [if_neg, if_neg]
  · rintro ⟨j, j1, j2, j3⟩; have := he j j1; omega
  · rintro ⟨j, j1, j2, j3⟩; have := he j j1; omega
def s130 : SCode := (.seq (.ops [⟨(some 2), none, .mov (.const (.bool false))⟩]) (.seq (.ops [⟨(some 3), none, .mov (T 0)⟩, ⟨(some 4), none, .mov (T 0)⟩, ⟨(some 5), none, .int2 .neq (T 3) (T 4)⟩, ⟨(some 2), none, .mov (T 5)⟩]) .ret))
theorem fok130 : FnOk Try.prog 130 6 s130 [.tmp 2] := ⟨Try.f130, _, Try.func130, rfl, Try.ntmps130, by kernel_rfl, by kernel_rfl⟩
theorem isNaN_c (hn : 1 ≤ n) {x : Int} : call n (.func (.func 130) #[] #[]) [.int .i64 x] h = some (.bool false, h) := by
  obtain ⟨n, rfl⟩ : ∃ p, n = p + 1 := ⟨n - 1, by omega⟩
  refine call_plain0 fok130 rfl rfl (by simp) rfl ?_
  generalize h.shutAll = h
  simp only [rn0, rn1, rn2, rn3, rn4, rn5, rn6, rn7, rn8, if_true, if_false, Nat.le_refl, true_and, and_true, decide_true, decide_false, Bool.not_true, Bool.not_false, reduceIte, Nat.reduceEqDiff, Nat.reduceAdd, Nat.reduceMul, Nat.reduceSub, Nat.reduceLeDiff, Nat.reduceLT, s130]
def s129 : SCode := (.seq (.ops [⟨(some 4), none, .mov (.const (.int .i64 (0)))⟩]) (.seq (.ops [⟨(some 7), none, .mov (T 0)⟩, ⟨(some 8), none, .call (.func 130) [(T 7)]⟩, ⟨(some 5), none, .mov (T 8)⟩]) (.seq (.ops [⟨(some 9), none, .mov (T 1)⟩, ⟨(some 10), none, .call (.func 130) [(T 9)]⟩, ⟨(some 6), none, .mov (T 10)⟩]) (.seq (.seq (.ops [⟨(some 11), none, .mov (T 5)⟩]) (.cond (T 11) (.seq (.seq (.ops [⟨(some 12), none, .mov (T 6)⟩]) (.cond (T 12) (.seq (.ops [⟨(some 4), none, .mov (.const (.int .i64 (0)))⟩]) .ret) .skip)) (.seq (.ops [⟨(some 4), none, .mov (.const (.int .i64 (-1)))⟩]) .ret)) .skip)) (.seq (.seq (.ops [⟨(some 13), none, .mov (T 6)⟩]) (.cond (T 13) (.seq (.ops [⟨(some 4), none, .mov (.const (.int .i64 (1)))⟩]) .ret) .skip)) (.seq (.seq (.ops [⟨(some 14), none, .mov (T 0)⟩, ⟨(some 15), none, .mov (T 1)⟩, ⟨(some 16), none, .int2 .lss (T 14) (T 15)⟩]) (.cond (T 16) (.seq (.ops [⟨(some 4), none, .mov (.const (.int .i64 (-1)))⟩]) .ret) .skip)) (.seq (.seq (.ops [⟨(some 17), none, .mov (T 0)⟩, ⟨(some 18), none, .mov (T 1)⟩, ⟨(some 19), none, .int2 .gtr (T 17) (T 18)⟩]) (.cond (T 19) (.seq (.ops [⟨(some 4), none, .mov (.const (.int .i64 (1)))⟩]) .ret) .skip)) (.seq (.ops [⟨(some 4), none, .mov (.const (.int .i64 (0)))⟩]) .ret))))))))
theorem fok129 : FnOk Try.prog 129 20 s129 [.tmp 4] := ⟨Try.f129, _, Try.func129, rfl, Try.ntmps129, by kernel_rfl, by kernel_rfl⟩
theorem cmpI_c (hn : 2 ≤ n) {x y : Int} : call n (.func (.func 129) #[] #[]) [.int .i64 x, .int .i64 y] h = some (.int .i64 (if x < y then -1 else if y < x then 1 else 0), h) := by
  obtain ⟨n, rfl⟩ : ∃ p, n = p + 1 := ⟨n - 1, by omega⟩
  refine call_plain0 fok129 rfl rfl (by simp) rfl ?_
  generalize h.shutAll = h
  have e1 := isNaN_c (n := n) (h := h) (x := x) (by omega)
  have e2 := isNaN_c (n := n) (h := h) (x := y) (by omega)
  by_cases c1 : x < y
  · simp only [rn0, rn1, rn2, rn3, rn4, rn5, rn6, rn7, rn8, if_true, if_false, Nat.le_refl, true_and, and_true, decide_true, decide_false, Bool.not_true, Bool.not_false, reduceIte, Nat.reduceEqDiff, Nat.reduceAdd, Nat.reduceMul, Nat.reduceSub, Nat.reduceLeDiff, Nat.reduceLT, s129, e1, e2, c1]
  · by_cases c2 : y < x
    · simp only [rn0, rn1, rn2, rn3, rn4, rn5, rn6, rn7, rn8, if_true, if_false, Nat.le_refl, true_and, and_true, decide_true, decide_false, Bool.not_true, Bool.not_false, reduceIte, Nat.reduceEqDiff, Nat.reduceAdd, Nat.reduceMul, Nat.reduceSub, Nat.reduceLeDiff, Nat.reduceLT, s129, e1, e2, c1, c2]
    · simp only [rn0, rn1, rn2, rn3, rn4, rn5, rn6, rn7, rn8, if_true, if_false, Nat.le_refl, true_and, and_true, decide_true, decide_false, Bool.not_true, Bool.not_false, reduceIte, Nat.reduceEqDiff, Nat.reduceAdd, Nat.reduceMul, Nat.reduceSub, Nat.reduceLeDiff, Nat.reduceLT, s129, e1, e2, c1, c2]
def s124 : SCode := (.seq (.ops [⟨(some 4), none, .mov (.const (.int .i64 (0)))⟩]) (.seq (.seq (.ops [⟨(some 9), none, .mov (T 0)⟩, ⟨(some 10), none, .len (T 9)⟩, ⟨(some 11), none, .mov (.const (.int .i64 (0)))⟩]) (.block 0 (.loop (.seq (.ops [⟨(some 12), none, .int2 .lss (T 11) (T 10)⟩]) (.seq (.cond (T 12) .skip (.exit 0)) (.seq (.block 1 (.seq (.ops [⟨(some 13), none, .mov (T 11)⟩, ⟨(some 14), none, .idxSl 1 (T 9) (T 11)⟩, ⟨(some 15), none, .load1 (T 14)⟩, ⟨(some 5), none, .mov (T 13)⟩, ⟨(some 6), none, .mov (T 15)⟩]) (.seq (.seq (.ops [⟨(some 16), none, .mov (T 5)⟩, ⟨(some 17), none, .mov (T 1)⟩, ⟨(some 18), none, .len (T 17)⟩, ⟨(some 19), none, .int2 .geq (T 16) (T 18)⟩]) (.cond (T 19) (.seq (.ops [⟨(some 4), none, .mov (.const (.int .i64 (1)))⟩]) .ret) .skip)) (.seq (.ops [⟨(some 20), none, .mov (T 1)⟩, ⟨(some 21), none, .mov (T 5)⟩, ⟨(some 22), none, .idxSl 1 (T 20) (T 21)⟩, ⟨(some 23), none, .load1 (T 22)⟩, ⟨(some 7), none, .mov (T 23)⟩]) (.seq (.ops [⟨(some 24), none, .mov (T 6)⟩, ⟨(some 25), none, .mov (T 7)⟩, ⟨(some 26), none, .call (.func 129) [(T 24), (T 25)]⟩, ⟨(some 8), none, .mov (T 26)⟩]) (.seq (.ops [⟨(some 27), none, .mov (T 8)⟩, ⟨(some 28), none, .int2 .neq (T 27) (.const (.int .i64 (0)))⟩]) (.cond (T 28) (.seq (.ops [⟨(some 29), none, .mov (T 8)⟩, ⟨(some 4), none, .mov (T 29)⟩]) .ret) .skip))))))) (.ops [⟨(some 30), none, .int2 .add (T 11) (.const (.int .i64 (1)))⟩, ⟨(some 11), none, .mov (T 30)⟩]))))))) (.seq (.seq (.ops [⟨(some 31), none, .mov (T 0)⟩, ⟨(some 32), none, .len (T 31)⟩, ⟨(some 33), none, .mov (T 1)⟩, ⟨(some 34), none, .len (T 33)⟩, ⟨(some 35), none, .int2 .lss (T 32) (T 34)⟩]) (.cond (T 35) (.seq (.ops [⟨(some 4), none, .mov (.const (.int .i64 (-1)))⟩]) .ret) .skip)) (.seq (.ops [⟨(some 4), none, .mov (.const (.int .i64 (0)))⟩]) .ret))))
theorem fok124 : FnOk Try.prog 124 36 s124 [.tmp 4] := ⟨Try.f124, _, Try.func124, rfl, Try.ntmps124, by kernel_rfl, by kernel_rfl⟩
theorem compare_c {m : Nat} (hn : m + 3 ≤ n) (hm : m ≤ 1000) {va vb : Value} {a b : Nat → Int} (ha : Ints h va m a) (hb : Ints h vb m b) : call n (.func (.func 124) #[] #[]) [va, vb] h = some (.int .i64 (lexC a b m), h) := by
  obtain ⟨n, rfl⟩ : ∃ p, n = p + 1 := ⟨n - 1, by omega⟩
  refine call_plain0 fok124 rfl rfl (by simp) rfl ?_
  have ha : Ints h.shutAll va m a := Cells.shut ha
  have hb : Ints h.shutAll vb m b := Cells.shut hb
  generalize h.shutAll = h at ha hb
  generalize hres : lexC a b m = res
  simp only [rn0, rn1, rn2, rn3, rn4, rn5, rn6, rn7, rn8, if_true, if_false, Nat.le_refl, true_and, and_true, decide_true, decide_false, Bool.not_true, Bool.not_false, reduceIte, Nat.reduceEqDiff, Nat.reduceAdd, Nat.reduceMul, Nat.reduceSub, Nat.reduceLeDiff, Nat.reduceLT, s124, Cells.len ha]
  refine W_loop m (fun k f g ms => (∀ i, i < k → a i = b i) ∧ g = h ∧ ms = [] ∧ f 0 = va ∧ f 1 = vb ∧ f 9 = va ∧ f 10 = .int .i64 (m : Int) ∧ f 11 = .int .i64 (k : Int)) (by simp; omega) ?_ ?_ ?_
  · simp only [rn0, rn1, rn2, rn3, rn4, rn5, rn6, rn7, rn8, if_true, if_false, Nat.le_refl, true_and, and_true, decide_true, decide_false, Bool.not_true, Bool.not_false, reduceIte, Nat.reduceEqDiff, Nat.reduceAdd, Nat.reduceMul, Nat.reduceSub, Nat.reduceLeDiff, Nat.reduceLT]
    exact ⟨fun i hi => by omega, rfl⟩
  · rintro k f g ms hk ⟨he, rfl, rfl, p0, p1, p9, p10, p11⟩
    have hk' : (k : Int) < (m : Int) := by omega
    have hk2 : ¬ (m : Int) ≤ (k : Int) := by omega
    have hw : wrapF .i64 ((k : Int) + 1) = ((k + 1 : Nat) : Int) := by rw [wrap_in (by omega) (by omega)]; rfl
    have ec := cmpI_c (n := n) (h := g) (x := a k) (y := b k) (by omega)
    have la := Cells.ld ha hk Nat.zero_lt_one
    have lb := Cells.ld hb hk Nat.zero_lt_one
    by_cases c1 : a k < b k
    · rw [if_pos c1] at ec
      rw [lex_at hk he c1] at hres
      subst hres
      simp only [rn0, rn1, rn2, rn3, rn4, rn5, rn6, rn7, rn8, if_true, if_false, Nat.le_refl, true_and, and_true, decide_true, decide_false, Bool.not_true, Bool.not_false, reduceIte, Nat.reduceEqDiff, Nat.reduceAdd, Nat.reduceMul, Nat.reduceSub, Nat.reduceLeDiff, Nat.reduceLT, p0, p1, p9, p10, p11, Cells.len hb, hk', hk2, Cells.idx ha hk, Cells.idx hb hk, la, lb, ec, Int.reduceEq, Int.reduceNeg]
    · rw [if_neg c1] at ec
      by_cases c2 : b k < a k
      · rw [if_pos c2] at ec
        rw [lex_at' hk he c2] at hres
        subst hres
        simp only [rn0, rn1, rn2, rn3, rn4, rn5, rn6, rn7, rn8, if_true, if_false, Nat.le_refl, true_and, and_true, decide_true, decide_false, Bool.not_true, Bool.not_false, reduceIte, Nat.reduceEqDiff, Nat.reduceAdd, Nat.reduceMul, Nat.reduceSub, Nat.reduceLeDiff, Nat.reduceLT, p0, p1, p9, p10, p11, Cells.len hb, hk', hk2, Cells.idx ha hk, Cells.idx hb hk, la, lb, ec, Int.reduceEq]
      · rw [if_neg c2] at ec
        simp only [rn0, rn1, rn2, rn3, rn4, rn5, rn6, rn7, rn8, if_true, if_false, Nat.le_refl, true_and, and_true, decide_true, decide_false, Bool.not_true, Bool.not_false, reduceIte, Nat.reduceEqDiff, Nat.reduceAdd, Nat.reduceMul, Nat.reduceSub, Nat.reduceLeDiff, Nat.reduceLT, p0, p1, p9, p10, p11, Cells.len hb, hk', hk2, Cells.idx ha hk, Cells.idx hb hk, la, lb, ec, Int.reduceEq, hw]
        intro i hi
        by_cases e : i = k
        · subst e; omega
        · exact he i (by omega)
  · rintro f g ms ⟨he, rfl, rfl, p0, p1, p9, p10, p11⟩
    rw [lex_eq he] at hres
    subst hres
    simp only [rn0, rn1, rn2, rn3, rn4, rn5, rn6, rn7, rn8, if_true, if_false, Nat.le_refl, true_and, and_true, decide_true, decide_false, Bool.not_true, Bool.not_false, reduceIte, Nat.reduceEqDiff, Nat.reduceAdd, Nat.reduceMul, Nat.reduceSub, Nat.reduceLeDiff, Nat.reduceLT, p0, p1, p9, p10, p11, Cells.len ha, Cells.len hb, Int.lt_irrefl]
def s107 : SCode := (.seq (.ops [⟨(some 4), none, .mov (.const (.bool false))⟩]) (.seq (.seq (.ops [⟨(some 5), none, .mov (T 0)⟩, ⟨(some 6), none, .len (T 5)⟩, ⟨(some 7), none, .mov (T 1)⟩, ⟨(some 8), none, .len (T 7)⟩, ⟨(some 9), none, .int2 .neq (T 6) (T 8)⟩]) (.cond (T 9) (.seq (.ops [⟨(some 10), none, .mov (T 0)⟩, ⟨(some 11), none, .len (T 10)⟩, ⟨(some 12), none, .mov (T 1)⟩, ⟨(some 13), none, .len (T 12)⟩, ⟨(some 14), none, .int2 .lss (T 11) (T 13)⟩, ⟨(some 4), none, .mov (T 14)⟩]) .ret) .skip)) (.seq (.ops [⟨(some 15), none, .mov (T 0)⟩, ⟨(some 16), none, .mov (T 1)⟩, ⟨(some 17), none, .call (.func 124) [(T 15), (T 16)]⟩, ⟨(some 18), none, .int2 .lss (T 17) (.const (.int .i64 (0)))⟩, ⟨(some 4), none, .mov (T 18)⟩]) .ret)))
theorem fok107 : FnOk Try.prog 107 19 s107 [.tmp 4] := ⟨Try.f107, _, Try.func107, rfl, Try.ntmps107, by kernel_rfl, by kernel_rfl⟩
theorem isBefore_c {m k : Nat} (hn : 1010 ≤ n) (hm : m ≤ 1000) (hk : k ≤ 1000) {va vb : Value} {a b : Nat → Int} (ha : Ints h va m a) (hb : Ints h vb k b) : call n (.func (.func 107) #[] #[]) [va, vb] h = some (.bool (decide (Shortlex a m b k)), h) := by
  obtain ⟨n, rfl⟩ : ∃ p, n = p + 1 := ⟨n - 1, by omega⟩
  refine call_plain0 fok107 rfl rfl (by simp) rfl ?_
  have ha : Ints h.shutAll va m a := Cells.shut ha
  have hb : Ints h.shutAll vb k b := Cells.shut hb
  generalize h.shutAll = h at ha hb
  by_cases c : m = k
  · subst c
    have ec := compare_c (n := n) (h := h) (by omega) hm ha hb
    have hd : decide (lexC a b m < 0) = decide (Shortlex a m b m) := decide_eq_decide.2 (by
      unfold Shortlex lexC
      by_cases h1 : LexLt a b m
      · rw [if_pos h1]; exact ⟨fun _ => .inr ⟨rfl, h1⟩, fun _ => by omega⟩
      · rw [if_neg h1]
        refine ⟨fun e => ?_, fun e => ?_⟩
        · by_cases h2 : LexLt b a m
          · rw [if_pos h2] at e; omega
          · rw [if_neg h2] at e; omega
        · rcases e with e | e
          · omega
          · exact absurd e.2 h1)
    generalize lexC a b m = z at ec hd
    simp only [rn0, rn1, rn2, rn3, rn4, rn5, rn6, rn7, rn8, if_true, if_false, Nat.le_refl, true_and, and_true, decide_true, decide_false, Bool.not_true, Bool.not_false, reduceIte, Nat.reduceEqDiff, Nat.reduceAdd, Nat.reduceMul, Nat.reduceSub, Nat.reduceLeDiff, Nat.reduceLT, s107, Cells.len ha, Cells.len hb, ec, hd]
  · have c' : ¬ (m : Int) = (k : Int) := by omega
    have hd : decide ((m : Int) < (k : Int)) = decide (Shortlex a m b k) := decide_eq_decide.2 ⟨fun e => .inl (by omega), fun e => by rcases e with e | e <;> omega⟩
    simp only [rn0, rn1, rn2, rn3, rn4, rn5, rn6, rn7, rn8, if_true, if_false, Nat.le_refl, true_and, and_true, decide_true, decide_false, Bool.not_true, Bool.not_false, reduceIte, Nat.reduceEqDiff, Nat.reduceAdd, Nat.reduceMul, Nat.reduceSub, Nat.reduceLeDiff, Nat.reduceLT, s107, Cells.len ha, Cells.len hb, c', hd]
end Go.Vm.Vat

namespace Go.Vm.Vat
open Go.Proofs
set_option linter.unusedSimpArgs false
set_option linter.unusedVariables false
set_option maxRecDepth 10000
variable {n : Nat} {h : AHeap}
def mixI (k : Nat) (i : Nat) : Value := .int .i64 (if i < k then (i : Int) else 0)
theorem mixI_one {m k : Nat} : allB oneCell ((List.range m).map (mixI k)) = true := by rw [allB_iff]; intro v hv; obtain ⟨i, _, rfl⟩ := List.mem_map.1 hv; rfl
theorem mixI_splice {m k : Nat} (hk : k < m) : splice ((List.range m).map (mixI k)) k [.int .i64 (k : Int)] = (List.range m).map (mixI (k + 1)) := by
  refine map_splice (by simp; omega) (fun i hi hc => ?_) (fun j hj => ?_)
  · simp only [List.length_cons, List.length_nil] at hc
    simp only [mixI]
    congr 1
    by_cases c : i < k
    · rw [if_pos c, if_pos (by omega)]
    · rw [if_neg c, if_neg (by omega)]
  · simp only [List.length_cons, List.length_nil] at hj
    obtain rfl : j = 0 := by omega
    simp only [mixI, Nat.add_zero, List.getElem?_cons_zero]
    rw [if_pos (by omega)]
theorem repl_mixI {m : Nat} : repl [.int .i64 0] m = (List.range m).map (mixI 0) := by
  have h0 : ∀ i, mixI 0 i = .int .i64 0 := fun i => by simp [mixI]
  have : ∀ m, repl [(.int .i64 0 : Value)] m = List.replicate m (.int .i64 0) := by
    intro m
    induction m with
    | zero => rfl
    | succ m ih => rw [repl, ih, List.replicate_succ]; rfl
  rw [this]
  apply List.ext_getElem?
  intro i
  by_cases hi : i < m
  · rw [List.getElem?_replicate, if_pos hi, List.getElem?_map, List.getElem?_range hi]; simp [h0]
  · rw [List.getElem?_eq_none (by simp; omega), List.getElem?_eq_none (by simp; omega)]
theorem make_intsL {z : List Value} {m : Nat} (hm : m ≤ 1000) : makeSl 1 8 z h (.int .i64 (m : Int)) (.int .i64 (m : Int)) = newSlice h (repl z m) m m 0 := by
  show (bif Nat.ble m m && Nat.ble (m * 8) maxBytes && Nat.ble m maxBytes then newSlice h (repl z m) m m 0 else none) = _
  have e1 : Nat.ble m m = true := ble_iff.2 (Nat.le_refl _)
  have e2 : Nat.ble (m * 8) maxBytes = true := ble_iff.2 (by simp [maxBytes]; omega)
  have e3 : Nat.ble m maxBytes = true := ble_iff.2 (by simp [maxBytes]; omega)
  rw [e1, e2, e3]; rfl
/-- a list as a function -/
def atL (l : List Int) (i : Nat) : Int := l.getD i 0
/-- what Leave keeps: the least list so far -/
noncomputable def leaveStep (Y : MY) (s : List Int) (c : Nat → Int) : List Int × Bool :=
  (if Shortlex (atL (wrongTo Y c Y.ns)) (wrongTo Y c Y.ns).length (atL s) s.length then wrongTo Y c Y.ns else s, true)
def upTo (m : Nat) : List Int := (List.range m).map fun (i : Nat) => (i : Int)
noncomputable def leaveRun (Y : MY) : List Int := (runL (leaveStep Y) (upTo Y.ns) (enumB Y.lo Y.hi Y.nf 0 fun _ => 0)).1
/-- what lies in memory meanwhile -/
structure JL (h2 : AHeap) (p : Nat) (s : List Int) (g : AHeap) : Prop where
  old : ∀ i, i < h2.next → i ≠ p + 2 → g.get i = h2.get i
  lst : ∃ v, g.get (p + 2) = some (.row [v] true 0) ∧ Ints g v s.length (atL s) ∧ oneCell v = true ∧ ∀ a k c, v = .slice (some a) k c → a.block = p + 1 ∨ (h2.next + 3 ≤ a.block ∧ a.block < g.next)
  short : s.length ≤ 5
  up : h2.next + 3 ≤ g.next
theorem ints_old {g g' : AHeap} {v : Value} {m : Nat} {a : Nat → Int} (hi : Ints g v m a) (ho : ∀ x k c, v = .slice (some x) k c → g'.get x.block = g.get x.block) : Ints g' v m a := by
  obtain ⟨x, cap, e, hsp, h0 | ⟨b, o, cs, w, gr, e1, e2, e3⟩⟩ := hi
  · exact ⟨x, cap, e, hsp, .inl h0⟩
  · subst e1
    exact ⟨_, cap, e, hsp, .inr ⟨b, o, cs, w, gr, rfl, by rw [ho _ _ _ e]; exact e2, e3⟩⟩
/-- what Leave answers -/
def LeaveR (h : AHeap) (Y : MY) (v : Value) (h' : AHeap) : Prop := Made h h' 260000 ∧
  ((faultN Y ≠ 0 ∧ v = .tuple ⟨[nilS, .int .i64 (faultN Y)]⟩) ∨ (faultN Y = 0 ∧ ∃ l, v = .tuple ⟨[l, .int .i64 0]⟩ ∧ Ints h' l (leaveRun Y).length (atL (leaveRun Y)) ∧ (leaveRun Y).length ≤ 5))
noncomputable def s54 : SCode := (.seq (.ops [⟨(some 1), none, .box (T 0)⟩, ⟨(some 2), none, .mov (.const (.slice none 0 0))⟩, ⟨(some 3), none, .mov (.const (.int .i64 (0)))⟩]) (.seq (.seq (.ops [⟨(some 10), none, .loadN 3 (T 1)⟩, ⟨(some 11), none, .call (.func 30) [(T 10)]⟩, ⟨(some 4), none, .mov (T 11)⟩]) (.seq (.ops [⟨(some 12), none, .mov (T 4)⟩, ⟨(some 13), none, .int2 .neq (T 12) (.const (.int .i64 (0)))⟩]) (.cond (T 13) (.seq (.ops [⟨(some 14), none, .mov (T 4)⟩, ⟨(some 2), none, .mov (.const (.slice none 0 0))⟩, ⟨(some 3), none, .mov (T 14)⟩]) .ret) .skip))) (.seq (.ops [⟨(some 15), none, .fieldAddr 2 (T 1)⟩, ⟨(some 16), none, .load1 (T 15)⟩, ⟨(some 17), none, .len (T 16)⟩, ⟨(some 18), none, .mkslice 1 8 [(.int .i64 (0))] (T 17) (T 17)⟩, ⟨(some 5), none, .alloc [(.slice none 0 0)]⟩, ⟨none, none, .store 1 (T 5) (T 18)⟩]) (.seq (.seq (.ops [⟨(some 19), none, .fieldAddr 2 (T 1)⟩, ⟨(some 20), none, .load1 (T 19)⟩, ⟨(some 21), none, .len (T 20)⟩, ⟨(some 22), none, .mov (.const (.int .i64 (0)))⟩]) (.block 0 (.loop (.seq (.ops [⟨(some 23), none, .int2 .lss (T 22) (T 21)⟩]) (.seq (.cond (T 23) .skip (.exit 0)) (.seq (.block 1 (.seq (.ops [⟨(some 24), none, .mov (T 22)⟩, ⟨(some 6), none, .mov (T 24)⟩]) (.ops [⟨(some 25), none, .load1 (T 5)⟩, ⟨(some 26), none, .mov (T 6)⟩, ⟨(some 27), none, .mov (T 6)⟩, ⟨(some 28), none, .idxSl 1 (T 25) (T 26)⟩, ⟨none, none, .store 1 (T 28) (T 27)⟩]))) (.ops [⟨(some 29), none, .int2 .add (T 22) (.const (.int .i64 (1)))⟩, ⟨(some 22), none, .mov (T 29)⟩]))))))) (.seq (.ops [⟨(some 30), none, .loadN 3 (T 1)⟩, ⟨(some 31), none, .build #[(0, 3), (3, 1)] [(.slice none 0 0), (.slice none 0 0), (.slice none 0 0), (.slice none 0 0)] [0] [(T 30)]⟩, ⟨(some 7), none, .alloc [(.slice none 0 0), (.slice none 0 0), (.slice none 0 0), (.slice none 0 0)]⟩, ⟨none, none, .store 4 (T 7) (T 31)⟩]) (.seq (.seq (.ops [⟨(some 32), none, .loadN 4 (T 7)⟩, ⟨(some 33), none, .call (.func 105) [(T 32)]⟩]) (.block 2 (.range (T 33) #[34] (rangeOf Try.f54 0).1 (rangeOf Try.f54 0).2))) (.seq (.ops [⟨(some 42), none, .load1 (T 5)⟩, ⟨(some 2), none, .mov (T 42)⟩, ⟨(some 3), none, .mov (.const (.int .i64 (0)))⟩]) .ret)))))))
theorem fok54 : FnOk Try.prog 54 43 s54 [.tmp 2, .tmp 3] := ⟨Try.f54, _, Try.func54, rfl, Try.ntmps54, by kernel_rfl, by kernel_rfl⟩
def ra54_0 : SCode := (.ops [⟨(some 8), none, .alloc [(.int .i64 (0)), (.int .i64 (0)), (.int .i64 (0)), (.int .i64 (0)), (.int .i64 (0))]⟩, ⟨none, none, .store 5 (T 8) (T 34)⟩])
theorem raok54_0 : compCode Try.prog 43 (rangeOf Try.f54 0).1 = some ra54_0 := by kernel_rfl
def rb54_0 : SCode := (.block 3 (.seq (.ops [⟨(some 35), none, .loadN 4 (T 7)⟩, ⟨(some 36), none, .loadN 5 (T 8)⟩, ⟨(some 37), none, .call (.func 106) [(T 35), (T 36)]⟩, ⟨(some 9), none, .mov (T 37)⟩]) (.seq (.ops [⟨(some 38), none, .mov (T 9)⟩, ⟨(some 39), none, .load1 (T 5)⟩, ⟨(some 40), none, .call (.func 107) [(T 38), (T 39)]⟩]) (.cond (T 40) (.ops [⟨(some 41), none, .mov (T 9)⟩, ⟨none, none, .store 1 (T 5) (T 41)⟩]) .skip))))
theorem rbok54_0 : compCode Try.prog 43 (rangeOf Try.f54 0).2 = some rb54_0 := by kernel_rfl
theorem leave_c (hn : 11050 ≤ n) (hr : h.next + 400000 < far) (hfl : h.floor ≤ h.next) {F V S : Value} {Y : MY} (hy : YardR h F V S Y) (hY : Thin Y) :
    ∃ v h', call n (.func (.func 54) #[] #[]) [.agg ⟨[F, V, S]⟩] h = some (v, h') ∧ LeaveR h Y v h' := by
  obtain ⟨n, rfl⟩ : ∃ p, n = p + 1 := ⟨n - 1, by omega⟩
  refine call_any0 fok54 rfl rfl (by simp) ?_
  simp only [s54, W_seq, W_ops]
  refine ops_box (cs := [F, V, S]) (by omega) rfl hy.one fun g1 hx1 => ?_
  have n1 := hx1.next
  have f1 := hx1.floor
  have e1 : g1.next = h.next + 1 := n1
  have hy1 := hy.mono hx1.sub
  have w1 := hx1.row.whole (n := 3) rfl
  have ec := checkYard_c (n := n) (h := g1) (by omega) (by omega) hy1 hY
  by_cases hf : faultN Y = 0
  case neg =>
    simp only [rn0, rn1, rn2, rn3, rn4, rn5, rn6, rn7, rn8, if_true, if_false, Nat.le_refl, true_and, and_true, decide_true, decide_false, Bool.not_true, Bool.not_false, reduceIte, Nat.reduceEqDiff, Nat.reduceAdd, Nat.reduceMul, Nat.reduceSub, Nat.reduceLeDiff, Nat.reduceLT, w1, ec, hf, ret_tt]
    exact ⟨⟨hx1.sub, by omega, by omega, by omega⟩, .inl ⟨hf, rfl⟩⟩
  obtain ⟨hG, hsz⟩ := fault_size hf
  obtain ⟨z1, z2, z3⟩ := hG.sz
  have hF : ∀ k, k < Y.nf → 0 ≤ Y.lo k ∧ Y.lo k ≤ Y.hi k ∧ Y.hi k ≤ 20 := hG.f
  have ho4 : ∀ T, oneCell T = true → allB oneCell [F, V, S, T] = true := fun T hT => by have := hy.one; simp [allB] at this ⊢; simp [this, hT]
  have hlenE : (enumB Y.lo Y.hi Y.nf 0 fun _ => 0).length ≤ 2000 := by
    have h1 := enumB_len (lo := Y.lo) (hi := Y.hi) Y.nf 0 (fun _ => 0) fun k _ hk => (hF k (by omega)).2.1
    have h2 := sizeN_prod (lo := Y.lo) (hi := Y.hi) Y.nf 0
    simp only [Nat.zero_add, sizeN, Int.one_mul] at h2
    omega
  have r1 := hx1.row
  simp only [rn0, rn1, rn2, rn3, rn4, rn5, rn6, rn7, rn8, if_true, if_false, Nat.le_refl, true_and, and_true, decide_true, decide_false, Bool.not_true, Bool.not_false, reduceIte, Nat.reduceEqDiff, Nat.reduceAdd, Nat.reduceMul, Nat.reduceSub, Nat.reduceLeDiff, Nat.reduceLT, w1, ec, hf, r1.ld, Nat.zero_add, List.getElem?_cons_zero, List.getElem?_cons_succ, Cells.len hy1.s, make_intsL (m := Y.ns) (by omega), repl_mixI]
  refine step_slice (by omega) mixI_one fun g2 hx2 => ?_
  have n2 := hx2.next
  have f2 := hx2.floor
  have e2 : g2.next = h.next + 2 := by omega
  rw [e1]
  simp only [rn0, rn1, rn2, rn3, rn4, rn5, rn6, rn7, rn8, if_true, if_false, Nat.le_refl, true_and, and_true, decide_true, decide_false, Bool.not_true, Bool.not_false, reduceIte, Nat.reduceEqDiff, Nat.reduceAdd, Nat.reduceMul, Nat.reduceSub, Nat.reduceLeDiff, Nat.reduceLT]
  refine step_new (vs := [.slice (some ⟨h.next + 1, 0, none⟩) Y.ns Y.ns]) (by omega) (by omega) rfl (by first | rfl | (simp only [rn0, rn1, rn2, rn3, rn4, rn5, rn6, rn7, rn8, if_true, if_false, Nat.le_refl, true_and, and_true, decide_true, decide_false, Bool.not_true, Bool.not_false, reduceIte, Nat.reduceEqDiff, Nat.reduceAdd, Nat.reduceMul, Nat.reduceSub, Nat.reduceLeDiff, Nat.reduceLT]; rfl)) rfl rfl rfl fun g3 hx3 => ?_
  have n3 := hx3.next
  have f3 := hx3.floor
  have e3 : g3.next = h.next + 3 := by omega
  rw [e2]
  have r3 : Row g3 h.next [F, V, S] := (r1.mono hx2.sub).mono hx3.sub
  have hl1 : g3.get (h.next + 1) = some (.row ((List.range Y.ns).map (mixI 0)) true 0) := by rw [hx3.old _ (by omega)]; have := hx2.get; rw [e1] at this; exact this
  have hl2 : g3.get (h.next + 2) = some (.row [.slice (some ⟨h.next + 1, 0, none⟩) Y.ns Y.ns] true 0) := by have := hx3.get; rw [e2] at this; exact this
  have old3 : ∀ i, i < h.next → g3.get i = h.get i := fun i hi => by rw [hx3.old i (by omega), hx2.old i (by omega), hx1.old i hi]
  have hy3 := hy.mono (AHeap.subOf old3)
  simp only [rn0, rn1, rn2, rn3, rn4, rn5, rn6, rn7, rn8, if_true, if_false, Nat.le_refl, true_and, and_true, decide_true, decide_false, Bool.not_true, Bool.not_false, reduceIte, Nat.reduceEqDiff, Nat.reduceAdd, Nat.reduceMul, Nat.reduceSub, Nat.reduceLeDiff, Nat.reduceLT, r3.ld, Nat.zero_add, List.getElem?_cons_zero, List.getElem?_cons_succ, Cells.len hy3.s]
  refine W_loop Y.ns (fun k f g ms => ((∀ i, i < h.next + 3 → i ≠ h.next + 1 → g.get i = g3.get i) ∧ g.next = h.next + 3 ∧ g.floor = h.floor ∧ g.get (h.next + 1) = some (.row ((List.range Y.ns).map (mixI k)) true 0)) ∧ ms = [] ∧ f 1 = .pointer (some ⟨h.next, 0, none⟩) ∧ f 5 = .pointer (some ⟨h.next + 2, 0, none⟩) ∧ f 21 = .int .i64 (Y.ns : Int) ∧ f 22 = .int .i64 (k : Int)) (by simp; omega) ?_ ?_ ?_
  · simp only [rn0, rn1, rn2, rn3, rn4, rn5, rn6, rn7, rn8, if_true, if_false, Nat.le_refl, true_and, and_true, decide_true, decide_false, Bool.not_true, Bool.not_false, reduceIte, Nat.reduceEqDiff, Nat.reduceAdd, Nat.reduceMul, Nat.reduceSub, Nat.reduceLeDiff, Nat.reduceLT]
    exact ⟨⟨fun _ _ _ => trivial, e3, by omega, hl1⟩, rfl⟩
  · rintro k f g ms hk ⟨⟨o1, o2, o3, o4⟩, rfl, p1, p5, p21, p22⟩
    have hk' : (k : Int) < (Y.ns : Int) := by omega
    have hw : wrapF .i64 ((k : Int) + 1) = ((k + 1 : Nat) : Int) := by rw [wrap_in (by omega) (by omega)]; rfl
    have l2 : loadCell g (.pointer (some ⟨h.next + 2, 0, none⟩)) = some (.slice (some ⟨h.next + 1, 0, none⟩) Y.ns Y.ns) := row_ld0 (by rw [o1 _ (by omega) (by omega)]; exact hl2)
    have hix : indexSl 1 (.slice (some ⟨h.next + 1, 0, none⟩) Y.ns Y.ns) (.int .i64 (k : Int)) = some (.pointer (some ⟨h.next + 1, k, none⟩)) := by rw [idxSl_s hk, Nat.mul_one]
    simp only [rn0, rn1, rn2, rn3, rn4, rn5, rn6, rn7, rn8, if_true, if_false, Nat.le_refl, true_and, and_true, decide_true, decide_false, Bool.not_true, Bool.not_false, reduceIte, Nat.reduceEqDiff, Nat.reduceAdd, Nat.reduceMul, Nat.reduceSub, Nat.reduceLeDiff, Nat.reduceLT, p1, p5, p21, p22, hk', l2, hix]
    refine step_store (b := h.next + 1) (off := k) (vs := [.int .i64 (k : Int)]) rfl o4 (by omega) (by omega) rfl rfl rfl (by simp; omega) fun g4 hs4 => ?_
    rw [mixI_splice hk] at hs4
    have n4 := hs4.next
    have f4 := hs4.floor
    simp only [rn0, rn1, rn2, rn3, rn4, rn5, rn6, rn7, rn8, if_true, if_false, Nat.le_refl, true_and, and_true, decide_true, decide_false, Bool.not_true, Bool.not_false, reduceIte, Nat.reduceEqDiff, Nat.reduceAdd, Nat.reduceMul, Nat.reduceSub, Nat.reduceLeDiff, Nat.reduceLT, p1, p5, p21, p22, hw]
    exact ⟨fun i hi hne => by rw [hs4.old i hne, o1 i hi hne], by omega, by omega, hs4.get⟩
  rintro f g3' ms ⟨⟨o1, o2, o3, o4⟩, rfl, p1, p5, p21, p22⟩
  have r3' : Row g3' h.next [F, V, S] := by
    obtain ⟨w, gr, e⟩ := r3
    exact ⟨w, gr, by rw [o1 _ (by omega) (by omega)]; exact e⟩
  have w3 := r3'.whole (n := 3) rfl
  have i0 : Ints g3' (.slice (some ⟨h.next + 1, 0, none⟩) Y.ns Y.ns) (upTo Y.ns).length (atL (upTo Y.ns)) := by
    have hlen : (upTo Y.ns).length = Y.ns := by unfold upTo; rw [List.length_map, List.length_range]
    rw [hlen]
    refine ⟨_, _, rfl, fun x e => by cases e; rfl, .inr ⟨_, 0, _, _, _, rfl, o4, fun i j hi hj => ?_⟩⟩
    obtain rfl : j = 0 := by omega
    have e1 : (List.range Y.ns)[i]? = some i := List.getElem?_range hi
    simp only [Nat.zero_add, Nat.mul_one, Nat.add_zero, List.getElem?_map, e1, Option.map_some, mixI, if_pos hi]
    unfold atL upTo
    rw [List.getD_eq_getElem?_getD, List.getElem?_map, e1]; rfl
  simp only [rn0, rn1, rn2, rn3, rn4, rn5, rn6, rn7, rn8, if_true, if_false, Nat.le_refl, true_and, and_true, decide_true, decide_false, Bool.not_true, Bool.not_false, reduceIte, Nat.reduceEqDiff, Nat.reduceAdd, Nat.reduceMul, Nat.reduceSub, Nat.reduceLeDiff, Nat.reduceLT, p1, p5, p21, p22, Int.lt_irrefl, w3, build_work]
  refine step_new (vs := [F, V, S, nilS]) (by omega) (by omega) rfl (by simp only [rn0, rn1, rn2, rn3, rn4, rn5, rn6, rn7, rn8, if_true, if_false, Nat.le_refl, true_and, and_true, decide_true, decide_false, Bool.not_true, Bool.not_false, reduceIte, Nat.reduceEqDiff, Nat.reduceAdd, Nat.reduceMul, Nat.reduceSub, Nat.reduceLeDiff, Nat.reduceLT]; rfl) (ho4 _ rfl) rfl rfl fun g5 hx5 => ?_
  have n5 := hx5.next
  have f5 := hx5.floor
  have e5 : g5.next = h.next + 4 := by omega
  have w5 := hx5.row.whole (n := 4) rfl
  rw [o2] at w5
  obtain ⟨g6, eB, hx6⟩ := allBlues_c (n := n) (h := g5) (F := F) (V := V) (S := S) (T := nilS) (by omega) (by omega) (ho4 _ rfl)
  have n6 := hx6.next
  have f6 := hx6.floor
  rw [o2]
  simp only [rn0, rn1, rn2, rn3, rn4, rn5, rn6, rn7, rn8, if_true, if_false, Nat.le_refl, true_and, and_true, decide_true, decide_false, Bool.not_true, Bool.not_false, reduceIte, Nat.reduceEqDiff, Nat.reduceAdd, Nat.reduceMul, Nat.reduceSub, Nat.reduceLeDiff, Nat.reduceLT, w5, eB]
  refine W_range' rfl (by omega) (by simp only [rn0, rn1, rn2, rn3, rn4, rn5, rn6, rn7, rn8, if_true, if_false, Nat.le_refl, true_and, and_true, decide_true, decide_false, Bool.not_true, Bool.not_false, reduceIte, Nat.reduceEqDiff, Nat.reduceAdd, Nat.reduceMul, Nat.reduceSub, Nat.reduceLeDiff, Nat.reduceLT]; rfl) fun f0 hf0 ts hv h2 hl => ?_
  have c5 : f0 5 = .pointer (some ⟨h.next + 2, 0, none⟩) := by rw [hf0]; simp only [rn0, rn1, rn2, rn3, rn4, rn5, rn6, rn7, rn8, if_true, if_false, Nat.le_refl, true_and, and_true, decide_true, decide_false, Bool.not_true, Bool.not_false, reduceIte, Nat.reduceEqDiff, Nat.reduceAdd, Nat.reduceMul, Nat.reduceSub, Nat.reduceLeDiff, Nat.reduceLT, p5]
  have c7 : f0 7 = .pointer (some ⟨h.next + 3, 0, none⟩) := by rw [hf0]; simp only [rn0, rn1, rn2, rn3, rn4, rn5, rn6, rn7, rn8, if_true, if_false, Nat.le_refl, true_and, and_true, decide_true, decide_false, Bool.not_true, Bool.not_false, reduceIte, Nat.reduceEqDiff, Nat.reduceAdd, Nat.reduceMul, Nat.reduceSub, Nat.reduceLeDiff, Nat.reduceLT]
  clear hf0
  have nl := hl.next
  have fl := hl.floor
  have en : g6.next = h.next + 5 := by omega
  have oldh : ∀ i, i < h.next + 3 → h2.get i = g3'.get i := fun i hi => by rw [hl.old i (by omega), hx6.old i (by omega), hx5.old i (by omega)]
  have hbase : ∀ i, i < h.next → h2.get i = h.get i := fun i hi => by rw [oldh i (by omega), o1 i (by omega) (by omega), old3 i hi]
  have d2 : h2.get (h.next + 2) = some (.row [.slice (some ⟨h.next + 1, 0, none⟩) Y.ns Y.ns] true 0) := by rw [oldh _ (by omega), o1 _ (by omega) (by omega)]; exact hl2
  have d3 : h2.get (h.next + 3) = some (.row [F, V, S, nilS] true 0) := by rw [hl.old _ (by omega), hx6.old _ (by omega)]; have := hx5.get; rw [o2] at this; exact this
  have i2 : Ints h2 (.slice (some ⟨h.next + 1, 0, none⟩) Y.ns Y.ns) (upTo Y.ns).length (atL (upTo Y.ns)) := ints_old i0 fun x k c e => by cases e; exact oldh _ (by show h.next + 1 < h.next + 3; omega)
  have hpw : Row h2 (h.next + 4) [F, V, S, nilS] := by
    have := hx6.row.mono hl.sub
    rw [e5] at this
    exact this
  have hloop := hl.loop
  have hmark := hl.mark
  rw [en] at hloop hmark
  rw [en]
  rw [en] at hl
  generalize hr0 : loopO _ ts _ _ _ _ = r at hloop ⊢
  have r1' : r.state = .ready := by rw [← hr0]; rfl
  have r2' : View 43 r.tmps f0 := by rw [← hr0]; exact hv
  have r3x : r.params = #[34] := by rw [← hr0]; rfl
  have r4 : compCode Try.prog 43 r.assign = some ra54_0 := by rw [← hr0]; exact raok54_0
  have r5 : compCode Try.prog 43 r.body = some rb54_0 := by rw [← hr0]; exact rbok54_0
  have r6 : leftBy r .norm = r := by rw [← hr0]; rfl
  clear hr0 hl hv
  have hit := iter_c (leaveStep Y) (JL h2 h.next) (g := h2) (pw := h.next + 4) (K := 110) (N0 := 10020) (n := n) (F := F) (V := V) (S := S) (T := nilS) (yv := .func (.yield (h.next + 6)) #[] #[]) (nf := Y.nf) (lo := Y.lo) (hi := Y.hi) (upTo Y.ns) z1 hF hpw (Cells.old hy.f hbase) rfl (by omega) (by omega) (by omega)
    (fun s g1 g' cs hj hs => by
      have hup := hj.up
      have hsn := hs.next
      obtain ⟨v, v1, v2, v3, v4⟩ := hj.lst
      exact ⟨fun i hi a1 => by rw [hs.old i (by omega)]; exact hj.old i hi a1, ⟨v, by rw [hs.old _ (by omega)]; exact v1, ints_old v2 fun x k c e => hs.old _ (by have := v4 x k c e; omega), v3, fun a k c e => by have := v4 a k c e; omega⟩, hj.short, by omega⟩)
    (fun g3 ho => by
      have hon := ho.next
      exact ⟨fun i hi _ => ho.old i hi, ⟨_, by rw [ho.old _ (by omega)]; exact d2, ints_old i2 fun x k c e => by cases e; exact ho.old _ (by show h.next + 1 < h2.next; omega), rfl, fun a k c e => by cases e; exact .inl rfl⟩, by unfold upTo; rw [List.length_map, List.length_range]; exact z3, by omega⟩)
    (fun m g1 s c hm it hb hok hj hfg hr1 => by
      obtain ⟨m, rfl⟩ : ∃ p, m = p + 1 := ⟨m - 1, by omega⟩
      rw [call_yield]
      have hup := hj.up
      obtain ⟨v, v1, v2, v3, v4⟩ := hj.lst
      have hloop1 : g1.get (h.next + 6) = some (.loop r) := by rw [hj.old _ (by omega) (by omega)]; exact hloop
      suffices key : ∃ e g', roundA Try.prog (call m) m (h.next + 6) [.agg ⟨arr c⟩] g1 = some (.bool (goesOn e), g') ∧ (e = .norm ∧ JL h2 h.next (leaveStep Y s c).1 g' ∧ (∀ i, i < h2.next + 3 → i ≠ h.next + 2 → g'.get i = g1.get i) ∧ g'.floor = h2.floor ∧ g'.next ≤ g1.next + 110) by
        obtain ⟨e, g', k1, rfl, k2, k3, k4, k5⟩ := key
        have kb : ∀ i, i < h.next → g'.get i = h.get i := fun i hi => by rw [k3 i (by omega) (by omega), hj.old i (by omega) (by omega), hbase i hi]
        have krow : ∀ i cs, i < h2.next + 3 → i ≠ h.next + 2 → Row g1 i cs → Row g' i cs := fun i cs h1 h2 ⟨w, gr, e⟩ => ⟨w, gr, by rw [k3 i h1 h2]; exact e⟩
        refine ⟨g', k1, k2, ⟨krow _ _ (by omega) (by omega) it.w, krow _ _ (by omega) (by omega) it.y, krow _ _ (by omega) (by omega) it.c, Cells.old hy.f kb⟩, by rw [k3 _ (by omega) (by omega)]; exact hb, k4, k5⟩
      refine round_run (f := f0) hloop1 r1' r2' (by rw [r3x]; rfl) (by omega) r4 r5 ?_
      have hset : setFr f0 r.params.toList [.agg ⟨arr c⟩] = upd f0 34 (.agg ⟨arr c⟩) := by rw [r3x]; rfl
      rw [hset]
      simp only [rn0, rn1, rn2, rn3, rn4, rn5, rn6, rn7, rn8, if_true, if_false, Nat.le_refl, true_and, and_true, decide_true, decide_false, Bool.not_true, Bool.not_false, reduceIte, Nat.reduceEqDiff, Nat.reduceAdd, Nat.reduceMul, Nat.reduceSub, Nat.reduceLeDiff, Nat.reduceLT, ra54_0]
      refine step_new (vs := arr c) (by omega) (by omega) rfl (by simp only [rn0, rn1, rn2, rn3, rn4, rn5, rn6, rn7, rn8, if_true, if_false, Nat.le_refl, true_and, and_true, decide_true, decide_false, Bool.not_true, Bool.not_false, reduceIte, Nat.reduceEqDiff, Nat.reduceAdd, Nat.reduceMul, Nat.reduceSub, Nat.reduceLeDiff, Nat.reduceLT]; rfl) arr_one arr_len rfl fun g2 hx2 => ?_
      have n2 := hx2.next
      have f2 := hx2.floor
      simp only [rn0, rn1, rn2, rn3, rn4, rn5, rn6, rn7, rn8, if_true, if_false, Nat.le_refl, true_and, and_true, decide_true, decide_false, Bool.not_true, Bool.not_false, reduceIte, Nat.reduceEqDiff, Nat.reduceAdd, Nat.reduceMul, Nat.reduceSub, Nat.reduceLeDiff, Nat.reduceLT]
      refine ⟨by rw [hx2.old _ (by omega)]; exact hloop1, by omega, fun g3 hp3 => ?_⟩
      have n3 := hp3.next
      have f3 := hp3.floor
      have g3old : ∀ i, i < g1.next → i ≠ h.next + 6 → g3.get i = g1.get i := fun i hi hne => by rw [hp3.old i hne, hx2.old i hi]
      have g3b : ∀ i, i < h.next → g3.get i = h.get i := fun i hi => by rw [g3old i (by omega) (by omega), hj.old i (by omega) (by omega), hbase i hi]
      have hy3 := hy.mono (AHeap.subOf g3b)
      have rp3 : Row g3 (h.next + 3) [F, V, S, nilS] := ⟨_, _, by rw [g3old _ (by omega) (by omega), hj.old _ (by omega) (by omega)]; exact d3⟩
      have rc3 : Row g3 g1.next (arr c) := by
        obtain ⟨w, gr, e⟩ := hx2.row
        exact ⟨w, gr, by rw [hp3.old _ (by omega)]; exact e⟩
      have q1 := rp3.whole (n := 4) rfl
      have q2 := rc3.whole arr_len
      have hrange : ∀ k, k < Y.nf → 0 ≤ c k ∧ c k ≤ 20 := fun k hk => by have := hok.1 k hk; have := hF k hk; omega
      obtain ⟨wv, g4, ew, hwi, hwm, hw1, hwb, hwl, hwo⟩ := wrong_c (n := m) (h := g3) (F := F) (V := V) (S := S) (T := nilS) (Y := Y) (b := c) (by omega) (by omega) (by omega) hy3.s z3 hG.s ⟨hy3.v, z1, hG.v, hrange⟩ (ho4 _ rfl)
      have n4 := hwm.next
      have u4 := hwm.up
      have f4 := hwm.floor
      have g4old : ∀ i, i < g1.next → i ≠ h.next + 6 → g4.get i = g1.get i := fun i hi hne => by rw [hwo i (by omega), g3old i hi hne]
      have k2 : g4.get (h.next + 2) = some (.row [v] true 0) := by rw [g4old _ (by omega) (by omega)]; exact v1
      have kl : g4.get (h.next + 6) = some (.loop { r with state := .busy }) := by rw [hwo _ (by omega)]; exact hp3.get
      have vi4 : Ints g4 v s.length (atL s) := ints_old v2 fun x k c e => g4old _ (by have := v4 x k c e; omega) (by have := v4 x k c e; omega)
      have l5 : loadCell g4 (.pointer (some ⟨h.next + 2, 0, none⟩)) = some v := row_ld0 k2
      have hwl5 := wrongTo_len (Y := Y) (b := c) Y.ns
      have hsh := hj.short
      have eb := isBefore_c (n := m) (h := g4) (a := atL (wrongTo Y c Y.ns)) (m := (wrongTo Y c Y.ns).length) (b := atL s) (k := s.length) (by omega) (by omega) (by omega) hwi vi4
      by_cases hL : Shortlex (atL (wrongTo Y c Y.ns)) (wrongTo Y c Y.ns).length (atL s) s.length
      · have hst : (leaveStep Y s c).1 = wrongTo Y c Y.ns := by unfold leaveStep; rw [if_pos hL]
        simp only [rn0, rn1, rn2, rn3, rn4, rn5, rn6, rn7, rn8, if_true, if_false, Nat.le_refl, true_and, and_true, decide_true, decide_false, Bool.not_true, Bool.not_false, reduceIte, Nat.reduceEqDiff, Nat.reduceAdd, Nat.reduceMul, Nat.reduceSub, Nat.reduceLeDiff, Nat.reduceLT, rb54_0, c5, c7, q1, q2, ew, l5, eb, hL]
        refine step_store (b := h.next + 2) (off := 0) (vs := [wv]) rfl k2 (by omega) (by omega) (by cases wv <;> first | rfl | cases hw1) (by simp [allB, hw1]) rfl (by simp) fun g6 hs6 => ?_
        rw [splice1] at hs6
        have n6 := hs6.next
        have f6 := hs6.floor
        simp only [rn0, rn1, rn2, rn3, rn4, rn5, rn6, rn7, rn8, if_true, if_false, Nat.le_refl, true_and, and_true, decide_true, decide_false, Bool.not_true, Bool.not_false, reduceIte, Nat.reduceEqDiff, Nat.reduceAdd, Nat.reduceMul, Nat.reduceSub, Nat.reduceLeDiff, Nat.reduceLT]
        refine ⟨by rw [hs6.old _ (by omega)]; exact kl, by omega, by omega, fun g7 hp7 => ⟨?_, ?_, by rw [hp7.floor]; omega, by rw [hp7.next]; omega⟩⟩
        · rw [hst]
          have hn7 := hp7.next
          refine ⟨fun i hi a1 => ?_, ⟨wv, ?_, ints_old hwi fun x k c e => ?_, hw1, fun a k c e => .inr ?_⟩, by omega, by omega⟩
          · by_cases e : i = h.next + 6
            · subst e; rw [hp7.get, r6]; exact hloop.symm
            · rw [hp7.old i e, hs6.old i a1, g4old i (by omega) e]; exact hj.old i hi a1
          · rw [hp7.old _ (by omega)]; exact hs6.get
          · have := hwb x k c e
            rw [hp7.old _ (by omega), hs6.old _ (by omega)]
          · have := hwb a k c e; omega
        · intro i hi a1
          by_cases e : i = h.next + 6
          · subst e; rw [hp7.get, r6]; exact hloop1.symm
          · rw [hp7.old i e, hs6.old i a1]
            by_cases hi1 : i < g1.next
            · exact g4old i hi1 e
            · omega
      · have hst : (leaveStep Y s c).1 = s := by unfold leaveStep; rw [if_neg hL]
        simp only [rn0, rn1, rn2, rn3, rn4, rn5, rn6, rn7, rn8, if_true, if_false, Nat.le_refl, true_and, and_true, decide_true, decide_false, Bool.not_true, Bool.not_false, reduceIte, Nat.reduceEqDiff, Nat.reduceAdd, Nat.reduceMul, Nat.reduceSub, Nat.reduceLeDiff, Nat.reduceLT, rb54_0, c5, c7, q1, q2, ew, l5, eb, hL]
        refine ⟨kl, by omega, by omega, fun g7 hp7 => ⟨?_, ?_, by rw [hp7.floor]; omega, by rw [hp7.next]; omega⟩⟩
        · rw [hst]
          have hn7 := hp7.next
          refine ⟨fun i hi a1 => ?_, ⟨v, ?_, ints_old vi4 fun x k c e => ?_, v3, fun a k c e => ?_⟩, hsh, by omega⟩
          · by_cases e : i = h.next + 6
            · subst e; rw [hp7.get, r6]; exact hloop.symm
            · rw [hp7.old i e, g4old i (by omega) e]; exact hj.old i hi a1
          · rw [hp7.old _ (by omega)]; exact k2
          · have := v4 x k c e
            rw [hp7.old _ (by omega)]
          · have := v4 a k c e; omega
        · intro i hi a1
          by_cases e : i = h.next + 6
          · subst e; rw [hp7.get, r6]; exact hloop1.symm
          · rw [hp7.old i e]
            by_cases hi1 : i < g1.next
            · exact g4old i hi1 e
            · omega)
    (by omega)
  obtain ⟨v5, g7, e7, j7, fl7, n7⟩ := hit
  change JL h2 h.next (leaveRun Y) g7 at j7
  have hup := j7.up
  obtain ⟨v, v1, v2, v3, v4⟩ := j7.lst
  refine ⟨v5, g7, .norm, by rw [e5]; exact e7, by omega, by omega, by rw [r6, j7.old _ (by omega) (by omega)]; exact hloop, fun g8 hp8 => ?_⟩
  have n8 := hp8.next
  have f8 := hp8.floor
  have m8 : g8.get (h.next + 5) = some .deferred := by rw [hp8.old _ (by omega), j7.old _ (by omega) (by omega)]; exact hmark
  have l5 : loadCell g8 (.pointer (some ⟨h.next + 2, 0, none⟩)) = some v := row_ld0 (by rw [hp8.old _ (by omega)]; exact v1)
  simp only [rn0, rn1, rn2, rn3, rn4, rn5, rn6, rn7, rn8, if_true, if_false, Nat.le_refl, true_and, and_true, decide_true, decide_false, Bool.not_true, Bool.not_false, reduceIte, Nat.reduceEqDiff, Nat.reduceAdd, Nat.reduceMul, Nat.reduceSub, Nat.reduceLeDiff, Nat.reduceLT, c5, l5]
  refine ret_mark (.inr rfl) m8 (by omega) (by omega) fun g9 hp9 => ?_
  have n9 := hp9.next
  have f9 := hp9.floor
  simp only [rn0, rn1, rn2, rn3, rn4, rn5, rn6, rn7, rn8, if_true, if_false, Nat.le_refl, true_and, and_true, decide_true, decide_false, Bool.not_true, Bool.not_false, reduceIte, Nat.reduceEqDiff, Nat.reduceAdd, Nat.reduceMul, Nat.reduceSub, Nat.reduceLeDiff, Nat.reduceLT, ret_tt]
  refine ⟨⟨AHeap.subOf fun i hi => by rw [hp9.old i (by omega), hp8.old i (by omega), j7.old i (by omega) (by omega), hbase i hi], by omega, by omega, by omega⟩, .inr ⟨hf, v, rfl, ints_old v2 fun x k c e => ?_, j7.short⟩⟩
  have := v4 x k c e
  rw [hp9.old _ (by omega), hp8.old _ (by omega)]
end Go.Vm.Vat

namespace Go.Vm
variable {P : Program} {N : Nat} {f : Fr} {h : AHeap} {ty t u : TypeId} {x y : Operand}
end Go.Vm
namespace Go.Vm.Vat
open Go.Proofs
set_option linter.unusedSimpArgs false
set_option linter.unusedVariables false
set_option maxRecDepth 10000
variable {n : Nat} {h : AHeap}
theorem spliceN2 {a b c d : Value} : splice [a, b, c] 2 [d] = [a, b, d] := rfl
end Go.Vm.Vat

namespace Go.Vm.Vat
open Go.Proofs
set_option linter.unusedSimpArgs false
set_option linter.unusedVariables false
set_option maxRecDepth 10000
variable {n : Nat} {h : AHeap}
end Go.Vm.Vat

namespace Go.Vm
variable {P : Program} {N : Nat} {f : Fr} {h : AHeap}
theorem g_un {X : Cx} {Q : WPost} {f : Fr} {h : AHeap} {m : List Nat} {w : Bool} {d : Option Nat} {op : SOp} {L : List SI} : gW X undef w d op L Q f h m = opsW X L Q (putF f d undef) h m := by simp [gW, isB, undef]
end Go.Vm
namespace Go.Vm.Vat
open Go.Proofs
set_option linter.unusedSimpArgs false
set_option linter.unusedVariables false
set_option maxRecDepth 10000
variable {n : Nat} {h : AHeap}
open Classical in
/-- those below k that are so -/
noncomputable def pickL (p : Nat → Prop) : Nat → List Int
  | 0 => []
  | k + 1 => if p k then pickL p k ++ [(k : Int)] else pickL p k
theorem pick_yes {p : Nat → Prop} {k : Nat} (h : p k) : pickL p (k + 1) = pickL p k ++ [(k : Int)] := by rw [pickL, if_pos h]
theorem pick_no {p : Nat → Prop} {k : Nat} (h : ¬ p k) : pickL p (k + 1) = pickL p k := by rw [pickL, if_neg h]
theorem pick_congr {p q : Nat → Prop} {k : Nat} (h : ∀ j, j < k → (p j ↔ q j)) : pickL p k = pickL q k := by
  induction k with
  | zero => rfl
  | succ k ih =>
    have := ih fun j hj => h j (by omega)
    by_cases c : p k
    · rw [pick_yes c, pick_yes ((h k (by omega)).1 c), this]
    · rw [pick_no c, pick_no (fun e => c ((h k (by omega)).2 e)), this]
theorem pick_len {p : Nat → Prop} : ∀ k, (pickL p k).length ≤ k
  | 0 => Nat.le_refl _
  | k + 1 => by
    have := pick_len (p := p) k
    by_cases c : p k
    · rw [pick_yes c, List.length_append, List.length_singleton]; omega
    · rw [pick_no c]; omega
theorem at_append {l : List Int} {x : Int} {i : Nat} (hi : i < l.length) : atL (l ++ [x]) i = atL l i := by unfold atL; rw [List.getD_eq_getElem?_getD, List.getD_eq_getElem?_getD, List.getElem?_append_left hi]
theorem at_last {l : List Int} {x : Int} : atL (l ++ [x]) l.length = x := by unfold atL; rw [List.getD_eq_getElem?_getD, List.getElem?_append_right (Nat.le_refl _)]; simp
theorem pick_has {p : Nat → Prop} : ∀ {k j : Nat}, j < k → p j → ∃ i, i < (pickL p k).length ∧ atL (pickL p k) i = (j : Int)
  | 0, j, hj, _ => (Nat.not_lt_zero _ hj).elim
  | k + 1, j, hj, hp => by
    by_cases e : j = k
    · subst e
      rw [pick_yes hp, List.length_append, List.length_singleton]
      exact ⟨_, Nat.lt_succ_self _, at_last⟩
    · obtain ⟨i, i1, i2⟩ := pick_has (p := p) (k := k) (j := j) (by omega) hp
      by_cases c : p k
      · rw [pick_yes c, List.length_append, List.length_singleton]
        exact ⟨i, by omega, by rw [at_append i1]; exact i2⟩
      · rw [pick_no c]; exact ⟨i, i1, i2⟩
theorem wrong_pick {Y : MY} {c : Nat → Int} : ∀ k, wrongTo Y c k = pickL (fun j => ¬ RightB Y c j) k
  | 0 => rfl
  | k + 1 => by
    by_cases hR : RightB Y c k
    · rw [wrongTo_yes hR, pick_no (fun e => e hR), wrong_pick k]
    · rw [wrongTo_no hR, pick_yes hR, wrong_pick k]
theorem upTo_pick : ∀ k, upTo k = pickL (fun _ => True) k
  | 0 => rfl
  | k + 1 => by rw [pick_yes trivial, ← upTo_pick k]; unfold upTo; rw [List.range_succ, List.map_append]; rfl
theorem lex_irr {a : Nat → Int} {m : Nat} : ¬ LexLt a a m := fun ⟨j, _, _, h⟩ => by omega
theorem lex_trans {a b c : Nat → Int} {m : Nat} (h1 : LexLt a b m) (h2 : LexLt b c m) : LexLt a c m := by
  obtain ⟨i, i1, i2, i3⟩ := h1
  obtain ⟨j, j1, j2, j3⟩ := h2
  by_cases e : i < j
  · exact ⟨i, i1, fun x hx => by rw [i2 x hx, j2 x (by omega)], by rw [← j2 i e]; exact i3⟩
  · by_cases e2 : i = j
    · subst e2; exact ⟨i, i1, fun x hx => by rw [i2 x hx, j2 x hx], by omega⟩
    · exact ⟨j, j1, fun x hx => by rw [i2 x (by omega), j2 x hx], by rw [i2 j (by omega)]; exact j3⟩
def SL (a b : List Int) : Prop := Shortlex (atL a) a.length (atL b) b.length
theorem sl_irr {a : List Int} : ¬ SL a a := fun h => by
  rcases h with h | h
  · omega
  · exact lex_irr h.2
theorem sl_trans {a b c : List Int} (h1 : SL a b) (h2 : SL b c) : SL a c := by
  unfold SL Shortlex at *
  rcases h1 with h1 | ⟨e1, h1⟩ <;> rcases h2 with h2 | ⟨e2, h2⟩
  · exact .inl (by omega)
  · exact .inl (by omega)
  · exact .inl (by omega)
  · exact .inr ⟨by omega, lex_trans h1 (by rw [e1]; exact h2)⟩
theorem run_leave {Y : MY} : ∀ (L : List (Nat → Int)) (s : List Int),
    ((runL (leaveStep Y) s L).1 = s ∨ SL (runL (leaveStep Y) s L).1 s) ∧ ((runL (leaveStep Y) s L).1 = s ∨ ∃ c, c ∈ L ∧ (runL (leaveStep Y) s L).1 = wrongTo Y c Y.ns) ∧ ∀ c, c ∈ L → ¬ SL (wrongTo Y c Y.ns) (runL (leaveStep Y) s L).1
  | [], s => ⟨.inl rfl, .inl rfl, fun c hc => (List.not_mem_nil hc).elim⟩
  | x :: L, s => by
    by_cases hL : Shortlex (atL (wrongTo Y x Y.ns)) (wrongTo Y x Y.ns).length (atL s) s.length
    · have e : runL (leaveStep Y) s (x :: L) = runL (leaveStep Y) (wrongTo Y x Y.ns) L := by simp only [runL, leaveStep, if_pos hL, if_true]
      rw [e]
      obtain ⟨h1, h2, h3⟩ := run_leave (Y := Y) L (wrongTo Y x Y.ns)
      generalize (runL (leaveStep Y) (wrongTo Y x Y.ns) L).1 = r at h1 h2 h3
      refine ⟨.inr ?_, .inr ?_, fun c hc => ?_⟩
      · rcases h1 with h1 | h1
        · rw [h1]; exact hL
        · exact sl_trans h1 hL
      · rcases h2 with h2 | ⟨c, h2, h4⟩
        · exact ⟨x, List.mem_cons_self, h2⟩
        · exact ⟨c, List.mem_cons_of_mem _ h2, h4⟩
      · rcases List.mem_cons.1 hc with rfl | hc
        · rcases h1 with h1 | h1
          · rw [h1]; exact sl_irr
          · exact fun e => sl_irr (sl_trans h1 e)
        · exact h3 c hc
    · have e : runL (leaveStep Y) s (x :: L) = runL (leaveStep Y) s L := by simp only [runL, leaveStep, if_neg hL, if_true]
      rw [e]
      obtain ⟨h1, h2, h3⟩ := run_leave (Y := Y) L s
      generalize (runL (leaveStep Y) s L).1 = r at h1 h2 h3
      refine ⟨h1, ?_, fun c hc => ?_⟩
      · rcases h2 with h2 | ⟨c, h2, h4⟩
        · exact .inl h2
        · exact .inr ⟨c, List.mem_cons_of_mem _ h2, h4⟩
      · rcases List.mem_cons.1 hc with rfl | hc
        · rcases h1 with h1 | h1
          · rw [h1]; exact hL
          · exact fun e => hL (sl_trans e h1)
        · exact h3 c hc
/-- the smallest set: it is that of some blues, or all; none of any blues is before it -/
theorem leave_is {Y : MY} : (leaveRun Y = pickL (fun _ => True) Y.ns ∨ ∃ c, c ∈ enumB Y.lo Y.hi Y.nf 0 (fun _ => 0) ∧ leaveRun Y = pickL (fun j => ¬ RightB Y c j) Y.ns) ∧
    ∀ c, c ∈ enumB Y.lo Y.hi Y.nf 0 (fun _ => 0) → ¬ SL (pickL (fun j => ¬ RightB Y c j) Y.ns) (leaveRun Y) := by
  obtain ⟨_, h2, h3⟩ := run_leave (Y := Y) (enumB Y.lo Y.hi Y.nf 0 fun _ => 0) (upTo Y.ns)
  change leaveRun Y = upTo Y.ns ∨ ∃ c, c ∈ enumB Y.lo Y.hi Y.nf 0 (fun _ => 0) ∧ leaveRun Y = wrongTo Y c Y.ns at h2
  change ∀ c, c ∈ enumB Y.lo Y.hi Y.nf 0 (fun _ => 0) → ¬ SL (wrongTo Y c Y.ns) (leaveRun Y) at h3
  refine ⟨?_, fun c hc => by rw [← wrong_pick]; exact h3 c hc⟩
  rcases h2 with h2 | ⟨c, h2, h4⟩
  · exact .inl (by rw [h2, upTo_pick])
  · exact .inr ⟨c, h2, by rw [h4, wrong_pick]⟩
end Go.Vm.Vat

namespace Go.Vm.Vat
open Go.Proofs
set_option linter.unusedSimpArgs false
set_option linter.unusedVariables false
set_option maxRecDepth 10000
variable {n : Nat} {h : AHeap}
/-! ### What the best spread is -/
def sumF (x : Nat → Int) : Nat → Nat → Int
  | _, 0 => 0
  | i, d + 1 => x i + sumF x (i + 1) d
theorem sumF_nonneg {x : Nat → Int} : ∀ (d i : Nat), (∀ j, i ≤ j → j < i + d → 0 ≤ x j) → 0 ≤ sumF x i d
  | 0, _, _ => by simp [sumF]
  | d + 1, i, h => by
    simp only [sumF]
    have h1 := h i (by omega) (by omega)
    have h2 := sumF_nonneg d (i + 1) fun j h1 h2 => h j (by omega) (by omega)
    omega
theorem sumF_le {x : Nat → Int} : ∀ (d i k : Nat), (∀ j, i ≤ j → j < i + d → 0 ≤ x j) → i ≤ k → k < i + d → x k ≤ sumF x i d
  | 0, _, _, _, _, _ => by omega
  | d + 1, i, k, h, h1, h2 => by
    simp only [sumF]
    have h3 := sumF_nonneg d (i + 1) fun j h1 h2 => h j (by omega) (by omega)
    by_cases e : k = i
    · subst e; omega
    · have h4 := sumF_le d (i + 1) k (fun j h1 h2 => h j (by omega) (by omega)) (by omega) (by omega)
      have h5 := h i (by omega) (by omega)
      omega
theorem enumS_mem : ∀ (d i r : Nat) (c x : Nat → Int), x ∈ enumS d i r c ↔ ((∀ j, j < i ∨ i + d < j → x j = c j) ∧ (∀ j, i ≤ j → j ≤ i + d → 0 ≤ x j) ∧ sumF x i (d + 1) = (r : Int))
  | 0, i, r, c, x => by
    simp only [enumS, List.mem_singleton, sumF]
    constructor
    · rintro rfl
      refine ⟨fun j hj => ?_, fun j h1 h2 => ?_, ?_⟩
      · have e : ¬ j = i := by omega
        simp [e]
      · have e : j = i := by omega
        simp [e]
      · simp
    · rintro ⟨h1, h2, h3⟩
      funext j
      by_cases e : j = i
      · subst e; simp; omega
      · simp only [e, if_false]; exact h1 j (by omega)
  | d + 1, i, r, c, x => by
    simp only [enumS, List.mem_flatMap, List.mem_range]
    constructor
    · rintro ⟨k, hk, hx⟩
      obtain ⟨h1, h2, h3⟩ := (enumS_mem d (i + 1) (r - k) _ x).1 hx
      have hxi : x i = (k : Int) := by have := h1 i (by omega); simpa using this
      refine ⟨fun j hj => ?_, fun j a1 a2 => ?_, ?_⟩
      · have := h1 j (by omega)
        have e : ¬ j = i := by omega
        simpa [e] using this
      · by_cases e : j = i
        · subst e; omega
        · exact h2 j (by omega) (by omega)
      · simp only [sumF] at h3 ⊢; omega
    · rintro ⟨h1, h2, h3⟩
      have h4 : sumF x i (d + 1 + 1) = x i + sumF x (i + 1) (d + 1) := rfl
      have h5 := h2 i (by omega) (by omega)
      have h6 := sumF_nonneg (x := x) (d + 1) (i + 1) fun j a1 a2 => h2 j (by omega) (by omega)
      refine ⟨(x i).toNat, by omega, (enumS_mem d (i + 1) _ _ x).2 ⟨fun j hj => ?_, fun j a1 a2 => h2 j (by omega) (by omega), by omega⟩⟩
      by_cases e : j = i
      · subst e; simp; omega
      · simp only [e, if_false]; exact h1 j (by omega)
theorem enumS_sorted : ∀ (d i r : Nat) (c : Nat → Int), (enumS d i r c).Pairwise fun a b => LexLt a b (i + d + 1)
  | 0, _, _, _ => by simp [enumS]
  | d + 1, i, r, c => by
    simp only [enumS]
    rw [List.pairwise_flatMap]
    refine ⟨fun k _ => ?_, ?_⟩
    · have := enumS_sorted d (i + 1) (r - k) fun j => if j = i then (k : Int) else c j
      rw [show i + (d + 1) + 1 = i + 1 + d + 1 by omega]
      exact this
    · refine List.Pairwise.imp (R := fun a b : Nat => a < b) (fun {a b} hab x hx y hy => ?_) List.pairwise_lt_range
      obtain ⟨h1, _, _⟩ := (enumS_mem _ _ _ _ _).1 hx
      obtain ⟨h2, _, _⟩ := (enumS_mem _ _ _ _ _).1 hy
      refine ⟨i, by omega, fun j hj => ?_, ?_⟩
      · have e : ¬ j = i := by omega
        rw [h1 j (by omega), h2 j (by omega)]; simp [e]
      · have e1 := h1 i (by omega)
        have e2 := h2 i (by omega)
        simp only [if_true] at e1 e2
        omega
theorem spStep_go {S : Nat → Nat → Int} {nv : Nat} {s : (Nat → Int) × Int} {c : Nat → Int} : (spStep S nv s c).2 = true := rfl
theorem run_sp {S : Nat → Nat → Int} {nv : Nat} : ∀ (L : List (Nat → Int)) (s : (Nat → Int) × Int),
    ((runL (spStep S nv) s L).1 = s ∧ ∀ c, c ∈ L → lowS S nv c ≤ s.2) ∨
      ∃ l1 b l2, L = l1 ++ b :: l2 ∧ (runL (spStep S nv) s L).1 = (b, lowS S nv b) ∧ s.2 < lowS S nv b ∧ (∀ c, c ∈ l1 → lowS S nv c < lowS S nv b) ∧ ∀ c, c ∈ l2 → lowS S nv c ≤ lowS S nv b
  | [], s => .inl ⟨rfl, fun c hc => by simp at hc⟩
  | x :: L, s => by
    have hr : runL (spStep S nv) s (x :: L) = runL (spStep S nv) (spStep S nv s x).1 L := by simp [runL, spStep_go]
    rw [hr]
    by_cases hx : s.2 < lowS S nv x
    · have hs : (spStep S nv s x).1 = (x, lowS S nv x) := by unfold spStep; rw [if_pos hx]
      rw [hs]
      rcases run_sp L (x, lowS S nv x) with ⟨e, hc⟩ | ⟨l1, b, l2, e, e2, h1, h2, h3⟩
      · exact .inr ⟨[], x, L, rfl, e, hx, fun c hc => by simp at hc, hc⟩
      · have h1 : lowS S nv x < lowS S nv b := h1
        refine .inr ⟨x :: l1, b, l2, by rw [e]; rfl, e2, by omega, fun c hc => ?_, h3⟩
        rcases List.mem_cons.1 hc with rfl | hc
        · exact h1
        · exact h2 c hc
    · have hs : (spStep S nv s x).1 = s := by unfold spStep; rw [if_neg hx]
      rw [hs]
      rcases run_sp L s with ⟨e, hc⟩ | ⟨l1, b, l2, e, e2, h1, h2, h3⟩
      · refine .inl ⟨e, fun c hcm => ?_⟩
        rcases List.mem_cons.1 hcm with rfl | hcm
        · omega
        · exact hc c hcm
      · refine .inr ⟨x :: l1, b, l2, by rw [e]; rfl, e2, h1, fun c hc => ?_, h3⟩
        rcases List.mem_cons.1 hc with rfl | hc
        · omega
        · exact h2 c hc
theorem le_lowS {S : Nat → Nat → Int} {nv : Nat} (hv : 0 < nv) {c : Nat → Int} {b : Int} : b ≤ lowS S nv c ↔ ∀ v, v < nv → b ≤ S v (c v).toNat := by
  unfold lowS
  rw [le_minN]
  exact ⟨fun h => h.2, fun h => ⟨h 0 hv, h⟩⟩
/-- a spread of so many bundles -/
def IsPut (nv many : Nat) (c : Nat → Int) : Prop := (∀ j, nv ≤ j → c j = 0) ∧ (∀ j, j < nv → 0 ≤ c j) ∧ sumF c 0 nv = (many : Int)
theorem put_mem {nv many : Nat} (hv : 0 < nv) {c : Nat → Int} : c ∈ enumS (nv - 1) 0 many (fun _ => 0) ↔ IsPut nv many c := by
  rw [enumS_mem, show nv - 1 + 1 = nv by omega]
  exact ⟨fun ⟨a, b, e⟩ => ⟨fun j hj => a j (by omega), fun j hj => b j (by omega) (by omega), e⟩, fun ⟨a, b, e⟩ => ⟨fun j hj => a j (by omega), fun j _ hj => b j (by omega), e⟩⟩
theorem first_put {nv many : Nat} (hv : 0 < nv) : IsPut nv many fun j => if j = 0 then (many : Int) else 0 := by
  have h0 : ∀ d i, 0 < i → sumF (fun j => if j = 0 then (many : Int) else 0) i d = 0 := by
    intro d
    induction d with
    | zero => intro i _; rfl
    | succ d ih => intro i hi; simp only [sumF]; rw [ih (i + 1) (by omega), if_neg (by omega)]; rfl
  refine ⟨fun j hj => ?_, fun j hj => ?_, ?_⟩
  · have e : ¬ j = 0 := by omega
    simp [e]
  · by_cases e : j = 0 <;> simp [e]
  · obtain ⟨k, rfl⟩ : ∃ k, nv = k + 1 := ⟨nv - 1, by omega⟩
    simp only [sumF]; rw [h0 k 1 (by omega)]; simp
/-- what the best spread is: it has the greatest least blue; of several with this one it is the first -/
theorem spRun_is {S : Nat → Nat → Int} {nv many : Nat} (hv : 0 < nv) (hS : ∀ v k, v < nv → k ≤ many → 0 ≤ S v k) :
    IsPut nv many (spRun S nv many).1 ∧ (spRun S nv many).2 = lowS S nv (spRun S nv many).1 ∧ (∀ c, IsPut nv many c → lowS S nv c ≤ (spRun S nv many).2) ∧
      ∀ c, IsPut nv many c → lowS S nv c = (spRun S nv many).2 → ¬ LexLt c (spRun S nv many).1 nv := by
  have hle : ∀ c, IsPut nv many c → ∀ v, v < nv → (c v).toNat ≤ many := fun c hc v hv => by
    have h1 := sumF_le nv 0 v (fun j _ h => hc.2.1 j (by omega)) (by omega) (by omega)
    have h2 := hc.2.2
    omega
  have hpos : ∀ c, IsPut nv many c → 0 ≤ lowS S nv c := fun c hc => (le_lowS hv).2 fun v hvv => hS v _ hvv (hle c hc v hvv)
  have hsort := enumS_sorted (nv - 1) 0 many fun _ => 0
  rw [show 0 + (nv - 1) + 1 = nv by omega] at hsort
  unfold spRun
  rcases run_sp (S := S) (nv := nv) (enumS (nv - 1) 0 many fun _ => 0) ((fun _ => 0), -1) with ⟨_, hc⟩ | ⟨l1, b, l2, e, e2, h1, h2, h3⟩
  · have h1 := hc _ ((put_mem hv).2 (first_put hv))
    have h2 := hpos _ (first_put (many := many) hv)
    have h1 : lowS S nv _ ≤ -1 := h1
    omega
  · rw [e2]
    refine ⟨(put_mem hv).1 (by rw [e]; simp), rfl, fun c hc => ?_, fun c hc heq hlt => ?_⟩
    · have hm := (put_mem hv).2 hc
      rw [e, List.mem_append, List.mem_cons] at hm
      rcases hm with hm | rfl | hm
      · have := h2 c hm; show lowS S nv c ≤ lowS S nv b; omega
      · exact Int.le_refl _
      · exact h3 c hm
    · have heq : lowS S nv c = lowS S nv b := heq
      have hm := (put_mem hv).2 hc
      rw [e, List.mem_append, List.mem_cons] at hm
      rw [e, List.pairwise_append] at hsort
      rcases hm with hm | rfl | hm
      · have := h2 c hm; omega
      · exact lex_irr hlt
      · have := (List.pairwise_cons.1 hsort.2.1).1 c hm
        exact lex_irr (lex_trans this hlt)
/-! ### In a yard -/
theorem sureN_pos {Y : MY} (hf : faultN Y = 0) (he : truths Y ≠ []) {v f k : Nat} (hv : v < Y.nv) (hff : f < Y.nf) : 0 ≤ sureN Y v f k (truths Y) := by
  have hG := good_of hf
  obtain ⟨v1, v2⟩ := hG.v v hv
  obtain ⟨z1, z2, z3⟩ := hG.sz
  rw [le_sureN he]
  intro t ht
  have hrg := truths_range hf ht
  have b1 := (blueN_bound (b := t) (q := Y.q v) (n := Y.nf) (by omega) hrg (fun j hj => v2 j (by omega)) Y.nf (Nat.le_refl _)).1
  have m1 : (0 : Int) ≤ (k : Int) * t f := Int.mul_nonneg (by omega) (hrg f hff).1
  unfold blueWith
  omega
end Go.Vm.Vat

namespace Go.Vm.Vat
open Go.Proofs
set_option linter.unusedSimpArgs false
set_option linter.unusedVariables false
set_option maxRecDepth 10000
variable {n : Nat} {h : AHeap}
/-! ### Words -/
def Words (h : AHeap) (v : Value) (m : Nat) (a : Nat → Nat) : Prop := Cells h v 1 m (fun k _ => .int .u16 (a k : Int)) ∧ ∀ k, k < m → a k < 65536
theorem Words.mono {g : AHeap} {v : Value} {m : Nat} {a : Nat → Nat} (hw : Words h v m a) (hs : Sub All h g) : Words g v m a := ⟨Cells.mono hw.1 hs, hw.2⟩
def rowI (m : Nat) (c : Nat → Int) : List Value := (List.range m).map fun i => .int .i64 (c i)
theorem rowI_len {m : Nat} {c : Nat → Int} : (rowI m c).length = m := by simp [rowI]
theorem rowI_get {m k : Nat} {c : Nat → Int} (hk : k < m) : (rowI m c)[k]? = some (.int .i64 (c k)) := by unfold rowI; rw [List.getElem?_map, List.getElem?_range hk]; rfl
theorem rowI_ints {m b w : Nat} {c : Nat → Int} {cap : Nat} (hg : ∃ wr gr, h.get b = some (.row (rowI m c) wr gr)) : Ints h (.slice (some ⟨b, 0, none⟩) m cap) m c := by
  obtain ⟨wr, gr, e⟩ := hg
  exact ⟨_, _, rfl, fun x e => by cases e; rfl, .inr ⟨_, 0, _, _, _, rfl, e, fun k j hk hj => by
    obtain rfl : j = 0 := by omega
    rw [show 0 + k * 1 + 0 = k by omega, rowI_get hk]⟩⟩
end Go.Vm.Vat

namespace Go.Vm.Vat
open Go.Proofs
set_option linter.unusedSimpArgs false
set_option linter.unusedVariables false
set_option maxRecDepth 10000
variable {n : Nat} {h : AHeap}
/-- with so many further bundles the vat surely has the blue -/
def Enough (Y : MY) (v f : Nat) (blue : Int) (L : List (Nat → Int)) (k : Nat) : Prop := ∀ t, t ∈ L → blue ≤ blueWith Y v f k t
/-- the arguments are right -/
def NeedsArgs (Y : MY) (one field blue : Int) : Prop := (0 ≤ one ∧ one ≤ (Y.nv : Int) - 1) ∧ (0 ≤ field ∧ field ≤ (Y.nf : Int) - 1) ∧ 0 ≤ blue ∧ blue ≤ 999
open Classical in
/-- what Needs answers -/
noncomputable def needsV (Y : MY) (one field blue : Int) : Int × Int :=
  if faultN Y ≠ 0 then (0, faultN Y) else if ¬ NeedsArgs Y one field blue then (0, 2) else if truths Y = [] then (0, 11)
  else if 0 ≤ findFrom (Enough Y one.toNat field.toNat blue (truths Y)) 10 0 then (findFrom (Enough Y one.toNat field.toNat blue (truths Y)) 10 0, 0) else (0, 10)
def s46 : SCode := (.seq (.ops [⟨(some 4), none, .box (T 0)⟩, ⟨(some 8), none, .mov (.const (.int .i64 (0)))⟩, ⟨(some 9), none, .mov (.const (.int .i64 (0)))⟩]) (.seq (.ops [⟨(some 14), none, .loadN 3 (T 4)⟩, ⟨(some 15), none, .call (.func 78) [(T 14)]⟩, ⟨(some 13), none, .mov (T 15)⟩, ⟨(some 16), none, .extract 0 (T 13)⟩, ⟨(some 17), none, .extract 1 (T 13)⟩, ⟨(some 10), none, .alloc [(.slice none 0 0), (.slice none 0 0), (.slice none 0 0), (.slice none 0 0)]⟩, ⟨none, none, .store 4 (T 10) (T 16)⟩, ⟨(some 11), none, .mov (T 17)⟩]) (.seq (.block 0 (.seq (.ops [⟨(some 19), none, .mov (T 11)⟩, ⟨(some 20), none, .int2 .neq (T 19) (.const (.int .i64 (0)))⟩, ⟨(some 18), none, .mov (T 20)⟩]) (.cond (T 18) (.seq (.ops [⟨(some 21), none, .mov (T 11)⟩, ⟨(some 8), none, .mov (.const (.int .i64 (0)))⟩, ⟨(some 9), none, .mov (T 21)⟩]) .ret) (.seq (.ops [⟨(some 23), none, .loadN 4 (T 10)⟩, ⟨(some 24), none, .mov (T 1)⟩, ⟨(some 25), none, .call (.func 92) [(T 23), (T 24)]⟩, ⟨(some 26), none, .not (T 25)⟩, ⟨(some 27), none, .mov (T 26)⟩, ⟨(some 28), (some (27, false)), .loadN 4 (T 10)⟩, ⟨(some 29), (some (27, false)), .mov (T 2)⟩, ⟨(some 30), (some (27, false)), .call (.func 98) [(T 28), (T 29)]⟩, ⟨(some 31), (some (27, false)), .not (T 30)⟩, ⟨(some 32), none, .pick (T 27) (.const (.bool true)) (T 31)⟩, ⟨(some 33), none, .mov (T 32)⟩, ⟨(some 34), (some (33, false)), .mov (T 3)⟩, ⟨(some 35), (some (33, false)), .int2 .lss (T 34) (.const (.int .i64 (0)))⟩, ⟨(some 36), none, .pick (T 33) (.const (.bool true)) (T 35)⟩, ⟨(some 37), none, .mov (T 36)⟩, ⟨(some 38), (some (37, false)), .mov (T 3)⟩, ⟨(some 39), (some (37, false)), .int2 .gtr (T 38) (.const (.int .i64 (999)))⟩, ⟨(some 40), none, .pick (T 37) (.const (.bool true)) (T 39)⟩, ⟨(some 22), none, .mov (T 40)⟩]) (.cond (T 22) (.seq (.ops [⟨(some 8), none, .mov (.const (.int .i64 (0)))⟩, ⟨(some 9), none, .mov (.const (.int .i64 (2)))⟩]) .ret) (.seq (.ops [⟨(some 42), none, .fieldAddr 3 (T 10)⟩, ⟨(some 43), none, .load1 (T 42)⟩, ⟨(some 44), none, .len (T 43)⟩, ⟨(some 45), none, .int2 .eql (T 44) (.const (.int .i64 (0)))⟩, ⟨(some 41), none, .mov (T 45)⟩]) (.cond (T 41) (.seq (.ops [⟨(some 8), none, .mov (.const (.int .i64 (0)))⟩, ⟨(some 9), none, .mov (.const (.int .i64 (11)))⟩]) .ret) .skip))))))) (.seq (.ops [⟨(some 12), none, .mov (.const (.int .i64 (0)))⟩]) (.seq .skip (.seq (.block 1 (.loop (.block 2 (.seq (.block 3 (.seq (.ops [⟨(some 47), none, .loadN 4 (T 10)⟩, ⟨(some 48), none, .mov (T 1)⟩, ⟨(some 49), none, .mov (T 2)⟩, ⟨(some 50), none, .mov (T 12)⟩, ⟨(some 51), none, .call (.func 99) [(T 47), (T 48), (T 49), (T 50)]⟩, ⟨(some 52), none, .mov (T 3)⟩, ⟨(some 53), none, .int2 .geq (T 51) (T 52)⟩, ⟨(some 46), none, .mov (T 53)⟩]) (.cond (T 46) (.exit 1) (.seq (.ops [⟨(some 55), none, .mov (T 12)⟩, ⟨(some 56), none, .int2 .eql (T 55) (.const (.int .i64 (9)))⟩, ⟨(some 54), none, .mov (T 56)⟩]) (.cond (T 54) (.seq (.ops [⟨(some 8), none, .mov (.const (.int .i64 (0)))⟩, ⟨(some 9), none, .mov (.const (.int .i64 (10)))⟩]) .ret) .skip))))) (.ops [⟨(some 57), none, .mov (T 12)⟩, ⟨(some 58), none, .int2 .add (T 57) (.const (.int .i64 (1)))⟩, ⟨(some 12), none, .mov (T 58)⟩]))))) (.seq (.ops [⟨(some 59), none, .mov (T 12)⟩, ⟨(some 8), none, .mov (T 59)⟩, ⟨(some 9), none, .mov (.const (.int .i64 (0)))⟩]) .ret)))))))
theorem fok46 : FnOk Try.prog 46 60 s46 [.tmp 8, .tmp 9] := ⟨Try.f46, _, Try.func46, rfl, Try.ntmps46, by kernel_rfl, by kernel_rfl⟩
open Classical in
theorem needs_c (hn : 10060 ≤ n) (hr : h.next + 500000 < far) {F V S : Value} {Y : MY} (hy : YardR h F V S Y) (hY : Thin Y) (one field blue : Int) :
    call n (.func (.func 46) #[] #[]) [.agg ⟨[F, V, S]⟩, .int .i64 one, .int .i64 field, .int .i64 blue] h = some (.tuple ⟨[.int .i64 (needsV Y one field blue).1, .int .i64 (needsV Y one field blue).2]⟩, h) := by
  obtain ⟨n, rfl⟩ : ∃ p, n = p + 1 := ⟨n - 1, by omega⟩
  refine call_plain0 fok46 rfl rfl (by simp) rfl ?_
  have hy := hy.shut
  have hr : h.shutAll.next + 500000 < far := hr
  have hfl : h.shutAll.floor ≤ h.shutAll.next := Nat.le_refl _
  generalize h.shutAll = h at hy hr hfl
  generalize hres : needsV Y one field blue = res
  simp only [s46, W_seq, W_ops]
  refine ops_box (cs := [F, V, S]) (by omega) rfl hy.one fun g1 hx1 => ?_
  have n1 := hx1.next
  have f1 := hx1.floor
  have w1 := hx1.row.whole (n := 3) rfl
  obtain ⟨v, g2, eo, hm, ho⟩ := open_c (n := n) (h := g1) (by omega) (by omega) (by omega) (hy.mono hx1.sub) hY
  have n2 := hm.next
  have u2 := hm.up
  have f2 := hm.floor
  rcases ho with ⟨hf, rfl⟩ | ⟨hf, tv, rfl, htr, hlong⟩
  · have hrr : res = (0, faultN Y) := by rw [← hres]; unfold needsV; rw [if_pos hf]
    rw [hrr]
    simp only [rn0, rn1, rn2, rn3, rn4, rn5, rn6, rn7, rn8, if_true, if_false, Nat.le_refl, true_and, and_true, decide_true, decide_false, Bool.not_true, Bool.not_false, reduceIte, Nat.reduceEqDiff, Nat.reduceAdd, Nat.reduceMul, Nat.reduceSub, Nat.reduceLeDiff, Nat.reduceLT, w1, eo, ex0, ex1]
    refine step_new (vs := [nilS, nilS, nilS, nilS]) (by omega) (by omega) rfl (by simp only [rn0, rn1, rn2, rn3, rn4, rn5, rn6, rn7, rn8, if_true, if_false, Nat.le_refl, true_and, and_true, decide_true, decide_false, Bool.not_true, Bool.not_false, reduceIte, Nat.reduceEqDiff, Nat.reduceAdd, Nat.reduceMul, Nat.reduceSub, Nat.reduceLeDiff, Nat.reduceLT]; rfl) rfl rfl rfl fun g3 hx3 => ?_
    simp only [rn0, rn1, rn2, rn3, rn4, rn5, rn6, rn7, rn8, if_true, if_false, Nat.le_refl, true_and, and_true, decide_true, decide_false, Bool.not_true, Bool.not_false, reduceIte, Nat.reduceEqDiff, Nat.reduceAdd, Nat.reduceMul, Nat.reduceSub, Nat.reduceLeDiff, Nat.reduceLT, hf, ret_tt]
  have hG := good_of hf
  have ho4 : allB oneCell [F, V, S, tv] = true := by have h1 := hy.one; have h2 := Cells.one htr; simp [allB] at h1 ⊢; simp [h1, h2]
  have hrr : res = if ¬ NeedsArgs Y one field blue then (0, 2) else if truths Y = [] then (0, 11)
      else (if 0 ≤ findFrom (Enough Y one.toNat field.toNat blue (truths Y)) 10 0 then (findFrom (Enough Y one.toNat field.toNat blue (truths Y)) 10 0, 0) else (0, 10)) := by rw [← hres]; unfold needsV; rw [if_neg (by simpa using hf)]
  clear hres
  simp only [rn0, rn1, rn2, rn3, rn4, rn5, rn6, rn7, rn8, if_true, if_false, Nat.le_refl, true_and, and_true, decide_true, decide_false, Bool.not_true, Bool.not_false, reduceIte, Nat.reduceEqDiff, Nat.reduceAdd, Nat.reduceMul, Nat.reduceSub, Nat.reduceLeDiff, Nat.reduceLT, w1, eo, ex0, ex1, hf]
  refine step_new (vs := [F, V, S, tv]) (by omega) (by omega) rfl (by simp only [rn0, rn1, rn2, rn3, rn4, rn5, rn6, rn7, rn8, if_true, if_false, Nat.le_refl, true_and, and_true, decide_true, decide_false, Bool.not_true, Bool.not_false, reduceIte, Nat.reduceEqDiff, Nat.reduceAdd, Nat.reduceMul, Nat.reduceSub, Nat.reduceLeDiff, Nat.reduceLT]; rfl) ho4 rfl rfl fun g3 hx3 => ?_
  have n3 := hx3.next
  have f3 := hx3.floor
  have hs3 : Sub All h g3 := hx1.sub.trans (hm.sub.trans hx3.sub)
  have hy3 := hy.mono hs3
  have w3 := hx3.row.whole (n := 4) rfl
  have htr3 : TruthsR g3 tv (truths Y) := Cells.mono htr hx3.sub
  obtain ⟨rr, hrw, hq⟩ := hy3.v
  have ev := hasVat_c (n := n) (h := g3) (by omega) (by omega) hrw ho4 one
  have eg := hasField_c (n := n) (h := g3) (by omega) (by omega) hy3.f ho4 field
  have bad : ∀ P : Prop, ¬ NeedsArgs Y one field blue → res = (0, 2) := fun _ h => by rw [hrr, if_pos h]
  by_cases a1 : 0 ≤ one ∧ one ≤ (Y.nv : Int) - 1
  case neg =>
    rw [bad True fun h => a1 h.1]
    simp only [rn0, rn1, rn2, rn3, rn4, rn5, rn6, rn7, rn8, if_true, if_false, Nat.le_refl, true_and, and_true, decide_true, decide_false, Bool.not_true, Bool.not_false, reduceIte, Nat.reduceEqDiff, Nat.reduceAdd, Nat.reduceMul, Nat.reduceSub, Nat.reduceLeDiff, Nat.reduceLT, w3, ev, a1, ret_tt]
  by_cases a2 : 0 ≤ field ∧ field ≤ (Y.nf : Int) - 1
  case neg =>
    rw [bad True fun h => a2 h.2.1]
    simp only [rn0, rn1, rn2, rn3, rn4, rn5, rn6, rn7, rn8, if_true, if_false, Nat.le_refl, true_and, and_true, decide_true, decide_false, Bool.not_true, Bool.not_false, reduceIte, Nat.reduceEqDiff, Nat.reduceAdd, Nat.reduceMul, Nat.reduceSub, Nat.reduceLeDiff, Nat.reduceLT, w3, ev, a1, eg, a2, and_self, ret_tt]
  by_cases a3 : blue < 0
  · rw [bad True fun h => by have := h.2.2.1; omega]
    simp only [rn0, rn1, rn2, rn3, rn4, rn5, rn6, rn7, rn8, if_true, if_false, Nat.le_refl, true_and, and_true, decide_true, decide_false, Bool.not_true, Bool.not_false, reduceIte, Nat.reduceEqDiff, Nat.reduceAdd, Nat.reduceMul, Nat.reduceSub, Nat.reduceLeDiff, Nat.reduceLT, w3, ev, a1, eg, a2, and_self, a3, ret_tt]
  by_cases a4 : (999 : Int) < blue
  · rw [bad True fun h => by have := h.2.2.2; omega]
    simp only [rn0, rn1, rn2, rn3, rn4, rn5, rn6, rn7, rn8, if_true, if_false, Nat.le_refl, true_and, and_true, decide_true, decide_false, Bool.not_true, Bool.not_false, reduceIte, Nat.reduceEqDiff, Nat.reduceAdd, Nat.reduceMul, Nat.reduceSub, Nat.reduceLeDiff, Nat.reduceLT, w3, ev, a1, eg, a2, and_self, a3, a4, ret_tt]
  have hargs : NeedsArgs Y one field blue := ⟨a1, a2, by omega, by omega⟩
  rw [if_neg (by simpa using hargs)] at hrr
  by_cases he : truths Y = []
  · rw [if_pos he] at hrr
    rw [hrr]
    have hl : (truths Y).length = 0 := by rw [he]; rfl
    simp only [rn0, rn1, rn2, rn3, rn4, rn5, rn6, rn7, rn8, if_true, if_false, Nat.le_refl, true_and, and_true, decide_true, decide_false, Bool.not_true, Bool.not_false, reduceIte, Nat.reduceEqDiff, Nat.reduceAdd, Nat.reduceMul, Nat.reduceSub, Nat.reduceLeDiff, Nat.reduceLT, w3, ev, a1, eg, a2, and_self, a3, a4, hx3.row.ld, Nat.zero_add, List.getElem?_cons_zero, List.getElem?_cons_succ, Cells.len htr3, hl, Int.natCast_zero, ret_tt]
  rw [if_neg he] at hrr
  have hl : ¬ ((truths Y).length : Int) = 0 := fun e => he (List.eq_nil_of_length_eq_zero (by omega))
  obtain ⟨vN, rfl⟩ : ∃ k : Nat, one = k := ⟨one.toNat, by omega⟩
  obtain ⟨fN, rfl⟩ : ∃ k : Nat, field = k := ⟨field.toNat, by omega⟩
  simp only [Int.toNat_natCast] at hrr
  simp only [rn0, rn1, rn2, rn3, rn4, rn5, rn6, rn7, rn8, if_true, if_false, Nat.le_refl, true_and, and_true, decide_true, decide_false, Bool.not_true, Bool.not_false, reduceIte, Nat.reduceEqDiff, Nat.reduceAdd, Nat.reduceMul, Nat.reduceSub, Nat.reduceLeDiff, Nat.reduceLT, w3, ev, a1, eg, a2, and_self, a3, a4, hx3.row.ld, Nat.zero_add, List.getElem?_cons_zero, List.getElem?_cons_succ, Cells.len htr3, hl]
  have esure : ∀ k : Nat, k ≤ 9 → call n (.func (.func 99) #[] #[]) [.agg ⟨[F, V, S, tv]⟩, .int .i64 (vN : Int), .int .i64 (fN : Int), .int .i64 (k : Int)] g3 = some (.int .i64 (sureN Y vN fN k (truths Y)), g3) := fun k hk =>
    sureBlue_c (n := n) (h := g3) (by omega) (by omega) hy3 hf he htr3 hlong (by omega) (by omega) (by omega)
  have hiff : ∀ k : Nat, blue ≤ sureN Y vN fN k (truths Y) ↔ Enough Y vN fN blue (truths Y) k := fun k => le_sureN he
  refine W_loop 9 (fun k f g ms => g = g3 ∧ ms = [] ∧ f 1 = .int .i64 (vN : Int) ∧ f 2 = .int .i64 (fN : Int) ∧ f 3 = .int .i64 blue ∧ f 10 = .pointer (some ⟨g2.next, 0, none⟩) ∧ f 12 = .int .i64 (k : Int) ∧ ∀ j, j < k → ¬ Enough Y vN fN blue (truths Y) j) (by simp; omega) ?_ ?_ ?_
  · simp only [rn0, rn1, rn2, rn3, rn4, rn5, rn6, rn7, rn8, if_true, if_false, Nat.le_refl, true_and, and_true, decide_true, decide_false, Bool.not_true, Bool.not_false, reduceIte, Nat.reduceEqDiff, Nat.reduceAdd, Nat.reduceMul, Nat.reduceSub, Nat.reduceLeDiff, Nat.reduceLT, Nat.not_lt_zero, false_implies, implies_true]
    trivial
  · rintro k f g ms hk ⟨rfl, rfl, q1, q2, q3, q10, q12, hlt⟩
    have e9 : ¬ (k : Int) = 9 := by omega
    have hw : wrapF .i64 ((k : Int) + 1) = ((k + 1 : Nat) : Int) := by rw [wrap_in (by omega) (by omega)]; rfl
    by_cases hE : Enough Y vN fN blue (truths Y) k
    · have hle := (hiff k).2 hE
      have hff := findFrom_at (m := 10) (by omega) hlt hE
      have hres2 : res = ((k : Int), 0) := by rw [hrr, hff, if_pos (by omega)]
      rw [hres2]
      simp only [rn0, rn1, rn2, rn3, rn4, rn5, rn6, rn7, rn8, if_true, if_false, Nat.le_refl, true_and, and_true, decide_true, decide_false, Bool.not_true, Bool.not_false, reduceIte, Nat.reduceEqDiff, Nat.reduceAdd, Nat.reduceMul, Nat.reduceSub, Nat.reduceLeDiff, Nat.reduceLT, q1, q2, q3, q10, q12, w3, esure k (by omega), hle, ret_tt]
    · have hle : ¬ blue ≤ sureN Y vN fN k (truths Y) := fun h => hE ((hiff k).1 h)
      simp only [rn0, rn1, rn2, rn3, rn4, rn5, rn6, rn7, rn8, if_true, if_false, Nat.le_refl, true_and, and_true, decide_true, decide_false, Bool.not_true, Bool.not_false, reduceIte, Nat.reduceEqDiff, Nat.reduceAdd, Nat.reduceMul, Nat.reduceSub, Nat.reduceLeDiff, Nat.reduceLT, q1, q2, q3, q10, q12, w3, esure k (by omega), hle, e9, hw]
      intro j hj
      by_cases e : j = k
      · subst e; exact hE
      · exact hlt j (by omega)
  · rintro f g ms ⟨rfl, rfl, q1, q2, q3, q10, q12, hlt⟩
    by_cases hE : Enough Y vN fN blue (truths Y) 9
    · have hle := (hiff 9).2 hE
      have hff := findFrom_at (m := 10) (by omega) hlt hE
      have hres2 : res = (((9 : Nat) : Int), 0) := by rw [hrr, hff, if_pos (by omega)]
      rw [hres2]
      simp only [rn0, rn1, rn2, rn3, rn4, rn5, rn6, rn7, rn8, if_true, if_false, Nat.le_refl, true_and, and_true, decide_true, decide_false, Bool.not_true, Bool.not_false, reduceIte, Nat.reduceEqDiff, Nat.reduceAdd, Nat.reduceMul, Nat.reduceSub, Nat.reduceLeDiff, Nat.reduceLT, q1, q2, q3, q10, q12, w3, esure 9 (by omega), hle, ret_tt]
    · have hle : ¬ blue ≤ sureN Y vN fN 9 (truths Y) := fun h => hE ((hiff 9).1 h)
      have hff := findFrom_none (p := Enough Y vN fN blue (truths Y)) (m := 10) fun j hj => by
        by_cases e : j = 9
        · subst e; exact hE
        · exact hlt j (by omega)
      have hres2 : res = (0, 10) := by rw [hrr, hff, if_neg (by omega)]
      rw [hres2]
      have e9 : ((9 : Nat) : Int) = 9 := rfl
      have es : call n (.func (.func 99) #[] #[]) [.agg ⟨[F, V, S, tv]⟩, .int .i64 (vN : Int), .int .i64 (fN : Int), .int .i64 9] g = some (.int .i64 (sureN Y vN fN 9 (truths Y)), g) := esure 9 (by omega)
      simp only [rn0, rn1, rn2, rn3, rn4, rn5, rn6, rn7, rn8, if_true, if_false, Nat.le_refl, true_and, and_true, decide_true, decide_false, Bool.not_true, Bool.not_false, reduceIte, Nat.reduceEqDiff, Nat.reduceAdd, Nat.reduceMul, Nat.reduceSub, Nat.reduceLeDiff, Nat.reduceLT, q1, q2, q3, q10, q12, w3, es, hle, e9, ret_tt]
end Go.Vm.Vat

namespace Go.Vm.Vat
open Go.Proofs
set_option linter.unusedSimpArgs false
set_option linter.unusedVariables false
set_option maxRecDepth 10000
variable {n : Nat} {h : AHeap}
def s6 : SCode := (.seq (.ops [⟨(some 4), none, .box (T 0)⟩, ⟨(some 8), none, .mov (.const (.bool false))⟩]) (.seq (.seq (.ops [⟨(some 15), none, .loadN 3 (T 4)⟩, ⟨(some 16), none, .call (.func 23) [(T 15)]⟩, ⟨(some 17), none, .not (T 16)⟩]) (.cond (T 17) (.seq (.ops [⟨(some 18), none, .call (.func 24) []⟩, ⟨(some 8), none, .mov (T 18)⟩]) .ret) .skip)) (.seq (.ops [⟨(some 20), none, .loadN 3 (T 4)⟩, ⟨(some 21), none, .call (.func 26) [(T 20)]⟩, ⟨(some 22), none, .mov (T 1)⟩, ⟨(some 23), none, .mov (T 2)⟩, ⟨(some 24), none, .mov (T 3)⟩, ⟨(some 25), none, .call (.func 46) [(T 21), (T 22), (T 23), (T 24)]⟩, ⟨(some 19), none, .mov (T 25)⟩, ⟨(some 26), none, .extract 0 (T 19)⟩, ⟨(some 27), none, .extract 1 (T 19)⟩, ⟨(some 9), none, .mov (T 26)⟩, ⟨(some 10), none, .mov (T 27)⟩]) (.seq (.ops [⟨(some 11), none, .mov (.const (.int .i64 (0)))⟩]) (.seq (.seq (.ops [⟨(some 28), none, .mov (T 1)⟩, ⟨(some 29), none, .fieldAddr 1 (T 4)⟩, ⟨(some 30), none, .load1 (T 29)⟩, ⟨(some 31), none, .len (T 30)⟩, ⟨(some 32), none, .int2 .sub (T 31) (.const (.int .i64 (1)))⟩, ⟨(some 33), none, .call (.func 42) [(T 28), (.const (.int .i64 (0))), (T 32)]⟩, ⟨(some 34), none, .not (T 33)⟩, ⟨(some 35), none, .mov (T 34)⟩, ⟨(some 36), (some (35, false)), .mov (T 2)⟩, ⟨(some 37), (some (35, false)), .fieldAddr 0 (T 4)⟩, ⟨(some 38), (some (35, false)), .load1 (T 37)⟩, ⟨(some 39), (some (35, false)), .len (T 38)⟩, ⟨(some 40), (some (35, false)), .int2 .sub (T 39) (.const (.int .i64 (1)))⟩, ⟨(some 41), (some (35, false)), .call (.func 42) [(T 36), (.const (.int .i64 (0))), (T 40)]⟩, ⟨(some 42), (some (35, false)), .not (T 41)⟩, ⟨(some 43), none, .pick (T 35) (.const (.bool true)) (T 42)⟩, ⟨(some 44), none, .mov (T 43)⟩, ⟨(some 45), (some (44, false)), .mov (T 3)⟩, ⟨(some 46), (some (44, false)), .call (.func 42) [(T 45), (.const (.int .i64 (0))), (.const (.int .i64 (999)))]⟩, ⟨(some 47), (some (44, false)), .not (T 46)⟩, ⟨(some 48), none, .pick (T 44) (.const (.bool true)) (T 47)⟩]) (.cond (T 48) (.ops [⟨(some 11), none, .mov (.const (.int .i64 (2)))⟩]) .skip)) (.seq (.ops [⟨(some 50), none, .loadN 3 (T 4)⟩, ⟨(some 51), none, .mov (T 11)⟩, ⟨(some 52), none, .call (.func 43) [(T 50), (T 51)]⟩, ⟨(some 49), none, .mov (T 52)⟩, ⟨(some 53), none, .extract 0 (T 49)⟩, ⟨(some 54), none, .extract 1 (T 49)⟩, ⟨(some 12), none, .mov (T 53)⟩, ⟨(some 13), none, .mov (T 54)⟩]) (.seq (.seq (.ops [⟨(some 55), none, .mov (T 13)⟩, ⟨(some 56), none, .int2 .neq (T 55) (.const (.int .i64 (0)))⟩]) (.cond (T 56) (.seq (.ops [⟨(some 57), none, .mov (T 10)⟩, ⟨(some 58), none, .mov (T 13)⟩, ⟨(some 59), none, .int2 .eql (T 57) (T 58)⟩, ⟨(some 60), none, .mov (T 59)⟩, ⟨(some 61), (some (60, true)), .mov (T 9)⟩, ⟨(some 62), (some (60, true)), .int2 .eql (T 61) (.const (.int .i64 (0)))⟩, ⟨(some 63), none, .pick (T 60) (T 62) (.const (.bool false))⟩, ⟨(some 64), none, .mov (T 63)⟩, ⟨(some 65), (some (64, true)), .call (.func 24) []⟩, ⟨(some 66), none, .pick (T 64) (T 65) (.const (.bool false))⟩, ⟨(some 8), none, .mov (T 66)⟩]) .ret) .skip)) (.seq (.seq (.ops [⟨(some 67), none, .loadN 3 (T 4)⟩, ⟨(some 68), none, .mov (T 12)⟩, ⟨(some 69), none, .mov (T 1)⟩, ⟨(some 70), none, .mov (T 2)⟩, ⟨(some 71), none, .mov (T 3)⟩, ⟨(some 72), none, .call (.func 47) [(T 67), (T 68), (T 69), (T 70), (T 71)]⟩, ⟨(some 14), none, .mov (T 72)⟩]) (.seq (.ops [⟨(some 73), none, .mov (T 14)⟩, ⟨(some 74), none, .int2 .geq (T 73) (.const (.int .i64 (0)))⟩]) (.cond (T 74) (.seq (.ops [⟨(some 75), none, .mov (T 10)⟩, ⟨(some 76), none, .int2 .eql (T 75) (.const (.int .i64 (0)))⟩, ⟨(some 77), none, .mov (T 76)⟩, ⟨(some 78), (some (77, true)), .mov (T 9)⟩, ⟨(some 79), (some (77, true)), .mov (T 14)⟩, ⟨(some 80), (some (77, true)), .int2 .eql (T 78) (T 79)⟩, ⟨(some 81), none, .pick (T 77) (T 80) (.const (.bool false))⟩, ⟨(some 82), none, .mov (T 81)⟩, ⟨(some 83), (some (82, true)), .call (.func 24) []⟩, ⟨(some 84), none, .pick (T 82) (T 83) (.const (.bool false))⟩, ⟨(some 8), none, .mov (T 84)⟩]) .ret) .skip))) (.seq (.ops [⟨(some 85), none, .mov (T 10)⟩, ⟨(some 86), none, .int2 .eql (T 85) (.const (.int .i64 (10)))⟩, ⟨(some 87), none, .mov (T 86)⟩, ⟨(some 88), (some (87, true)), .mov (T 9)⟩, ⟨(some 89), (some (87, true)), .int2 .eql (T 88) (.const (.int .i64 (0)))⟩, ⟨(some 90), none, .pick (T 87) (T 89) (.const (.bool false))⟩, ⟨(some 91), none, .mov (T 90)⟩, ⟨(some 92), (some (91, true)), .call (.func 24) []⟩, ⟨(some 93), none, .pick (T 91) (T 92) (.const (.bool false))⟩, ⟨(some 8), none, .mov (T 93)⟩]) .ret)))))))))
end Go.Vm.Vat

namespace Go.Vm.Vat
open Go.Proofs
set_option linter.unusedSimpArgs false
set_option linter.unusedVariables false
set_option maxRecDepth 10000
variable {n : Nat} {h : AHeap}
open Classical in
theorem needsV_in {Y : MY} (hf : faultN Y = 0) {one fld : Nat} (ho : one < Y.nv) (hl : fld < Y.nf) {b : Int} (hb : 0 ≤ b ∧ b ≤ 999) :
    needsV Y (one : Int) (fld : Int) b = if truths Y = [] then (0, 11) else if 0 ≤ findFrom (Enough Y one fld b (truths Y)) 10 0 then (findFrom (Enough Y one fld b (truths Y)) 10 0, 0) else (0, 10) := by
  unfold needsV
  rw [if_neg (by simpa using hf), if_neg (fun e => e ⟨⟨by omega, by omega⟩, ⟨by omega, by omega⟩, hb⟩), Int.toNat_natCast, Int.toNat_natCast]
theorem findFrom_get {p : Nat → Prop} {m : Nat} (h : 0 ≤ findFrom p m 0) : ∃ k, k < m ∧ p k ∧ (∀ j, j < k → ¬ p j) ∧ findFrom p m 0 = k := by
  obtain ⟨k, h1, h2⟩ := findFrom_iff.1 h
  have : ∀ k, k < m → p k → ∃ k, k < m ∧ p k ∧ (∀ j, j < k → ¬ p j) := by
    intro k
    induction k using Nat.strongRecOn with
    | ind k ih =>
      intro hk hp
      by_cases e : ∃ j, j < k ∧ p j
      · obtain ⟨j, e1, e2⟩ := e
        exact ih j e1 (by omega) e2
      · exact ⟨k, hk, hp, fun j hj hp => e ⟨j, hj, hp⟩⟩
  obtain ⟨k, h1, h2, h3⟩ := this k h1 h2
  exact ⟨k, h1, h2, h3, findFrom_at h1 h3 h2⟩
end Go.Vm.Vat

namespace Go.Vm.Vat
open Go.Proofs
set_option linter.unusedSimpArgs false
set_option linter.unusedVariables false
set_option maxRecDepth 10000
variable {n : Nat} {h : AHeap}
theorem ex30 {x y z : Value} : extractA 0 (.tuple ⟨[x, y, z]⟩) h = some (x, h) := id rfl
theorem ex31 {x y z : Value} : extractA 1 (.tuple ⟨[x, y, z]⟩) h = some (y, h) := id rfl
theorem ex32 {x y z : Value} : extractA 2 (.tuple ⟨[x, y, z]⟩) h = some (z, h) := id rfl
open Classical in
theorem spreadE_in {Y : MY} (hf : faultN Y = 0) {f k : Nat} (hff : f < Y.nf) (hk : k ≤ 9) (hv : 0 < Y.nv) : spreadE Y (f : Int) (k : Int) = if truths Y = [] then 11 else 0 := by
  unfold spreadE
  have h1 : SpreadArgs Y (f : Int) (k : Int) := ⟨⟨by omega, by omega⟩, by omega, by omega⟩
  have h2 : ¬ Y.nv = 0 := by omega
  rw [if_neg (by simpa using hf), if_neg (fun e => e h1), if_neg h2]
end Go.Vm.Vat
