/- Texts of the proofs of this seat, put together: StOpenH, StRightP, StOutL, StRightL, StRightM, StRightN. -/
import Derived.Test.YtffgdpkogokdhaaPk14

namespace Go.Vm.St
open Go.Proofs Go.Vm.Vat
set_option linter.unusedSimpArgs false
set_option linter.unusedVariables false
set_option maxRecDepth 10000
variable {n : Nat} {h : AHeap}
/-! ### A steep opened for a vat and an hour -/
def s121 : SCode := (.seq (.ops [⟨(some 4), none, .mov (.const (.bool false))⟩]) (.seq (.ops [⟨(some 5), none, .loadN 8 (T 1)⟩, ⟨(some 6), none, .load1 (T 2)⟩, ⟨(some 7), none, .mov (T 0)⟩, ⟨(some 8), none, .call (.func 122) [(T 5), (T 6), (T 7)]⟩, ⟨(some 4), none, .mov (T 8)⟩]) .ret))
theorem fok121 : FnOk Try.prog 121 9 s121 [.tmp 4] := ⟨Try.f121, _, Try.func121, rfl, Try.ntmps121, by kernel_rfl, by kernel_rfl⟩
theorem hour1_c (hn : 3 ≤ n) (hr : h.next + 2 < far) {wv vv sv tv : Value} {S : MS} (hy : SteepR h wv vv sv S) (ht : oneCell tv = true) {va : Nat} (hv : va < S.nv) {p q : Nat} (hp : Row h p (wkL S wv vv sv tv)) (hq : Row h q [.int .i64 (va : Int)]) (hh : Int) :
    call n (.func (.func 121) ⟨[]⟩ ⟨[.pointer (some ⟨p, 0, none⟩), .pointer (some ⟨q, 0, none⟩)]⟩) [.int .i64 hh] h = some (.bool (decide (S.vb va ≤ hh ∧ hh ≤ S.last)), h) := by
  obtain ⟨n, rfl⟩ : ∃ p, n = p + 1 := ⟨n - 1, by omega⟩
  refine call_plain (xs := []) (ys := [.pointer (some ⟨p, 0, none⟩), .pointer (some ⟨q, 0, none⟩)]) fok121 rfl rfl (by simp) rfl ?_
  have hy := hy.shut
  have hp := hp.mono (g := h.shutAll) fun _ _ _ _ _ h => h
  have hq := hq.mono (g := h.shutAll) fun _ _ _ _ _ h => h
  have hr : h.shutAll.next + 2 < far := hr
  generalize h.shutAll = h at hy hr hp hq
  have hi := hasHour_c (n := n) (h := h) (by omega) (by omega) hy ht hv hh
  simp only [rn0, rn1, rn2, rn3, rn4, rn5, rn6, rn7, rn8, if_true, if_false, Nat.le_refl, true_and, and_true, decide_true, decide_false, Bool.not_true, Bool.not_false, reduceIte, Nat.reduceEqDiff, Nat.reduceAdd, Nat.reduceMul, Nat.reduceSub, Nat.reduceLeDiff, Nat.reduceLT, s121, List.cons_append, List.nil_append, hp.whole (n := 8) rfl, hq.ld, Nat.zero_add, List.getElem?_cons_zero, hi]
theorem everyInt_one (hn : 5 ≤ n) (hr : h.next + 5 < far) {ok : Value} {r : Bool} {b : Nat} {x : Int} (hg : h.get b = some (.row [.int .i64 x] true 0)) (hok : ∀ g, Sub All h g → g.next ≤ h.next + 5 → call (n - 1) ok [.int .i64 x] g = some (.bool r, g)) :
    call n (.func (.func 120) #[] #[]) [.slice (some ⟨b, 0, none⟩) 1 1, ok] h = some (.bool r, h) := by
  obtain ⟨n, rfl⟩ : ∃ p, n = p + 1 := ⟨n - 1, by omega⟩
  rw [Nat.add_sub_cancel] at hok
  refine call_plain0 fok120 rfl rfl (by simp) rfl ?_
  have e0 := hok h.shutAll (fun _ _ _ _ _ h => h) (Nat.le_add_right _ _)
  have hrow : Row h.shutAll b [.int .i64 x] := (show Row h b [.int .i64 x] from ⟨_, _, hg⟩).mono fun _ _ _ _ _ h => h
  have hr : h.shutAll.next + 5 < far := hr
  generalize h.shutAll = h at hr e0 hrow
  have hc : Cells h (.slice (some ⟨b, 0, none⟩) 1 1) 1 1 (fun _ _ => .int .i64 x) := cells_row hrow fun k j hk hj => by
    obtain rfl : k = 0 := by omega
    obtain rfl : j = 0 := by omega
    rfl
  simp only [rn0, rn1, rn2, rn3, rn4, rn5, rn6, rn7, rn8, if_true, if_false, Nat.le_refl, true_and, and_true, decide_true, decide_false, Bool.not_true, Bool.not_false, reduceIte, Nat.reduceEqDiff, Nat.reduceAdd, Nat.reduceMul, Nat.reduceSub, Nat.reduceLeDiff, Nat.reduceLT, s120, len_slice]
  refine W_loop 1 (fun k f g m => g = h ∧ m = [] ∧ f 1 = ok ∧ f 7 = .slice (some ⟨b, 0, none⟩) 1 1 ∧ f 8 = .int .i64 ((1 : Nat) : Int) ∧ f 9 = .int .i64 (k : Int) ∧ (k = 1 → r = true)) (by simp; omega) ?_ ?_ ?_
  · simp only [rn0, rn1, rn2, rn3, rn4, rn5, rn6, rn7, rn8, if_true, if_false, Nat.le_refl, true_and, and_true, decide_true, decide_false, Bool.not_true, Bool.not_false, reduceIte, Nat.reduceEqDiff, Nat.reduceAdd, Nat.reduceMul, Nat.reduceSub, Nat.reduceLeDiff, Nat.reduceLT, Int.natCast_zero]
    first | done | exact fun e => absurd e (by omega) | exact ⟨rfl, fun e => absurd e (by omega)⟩ | simp
  · rintro k f g m hk ⟨rfl, rfl, p1, p7, p8, p9, _⟩
    obtain rfl : k = 0 := by omega
    have hlt : ((0 : Nat) : Int) < ((1 : Nat) : Int) := by decide
    have hw : wrapF .i64 (((0 : Nat) : Int) + 1) = ((0 + 1 : Nat) : Int) := by rw [wrap_in (by omega) (by omega)]; rfl
    cases r with
    | true =>
      simp only [rn0, rn1, rn2, rn3, rn4, rn5, rn6, rn7, rn8, if_true, if_false, Nat.le_refl, true_and, and_true, decide_true, decide_false, Bool.not_true, Bool.not_false, reduceIte, Nat.reduceEqDiff, Nat.reduceAdd, Nat.reduceMul, Nat.reduceSub, Nat.reduceLeDiff, Nat.reduceLT, p1, p7, p8, p9, hlt, Cells.idx hc Nat.zero_lt_one, Cells.ld hc Nat.zero_lt_one Nat.zero_lt_one, e0, hw]
      exact fun _ => trivial
    | false => simp only [rn0, rn1, rn2, rn3, rn4, rn5, rn6, rn7, rn8, if_true, if_false, Nat.le_refl, true_and, and_true, decide_true, decide_false, Bool.not_true, Bool.not_false, reduceIte, Nat.reduceEqDiff, Nat.reduceAdd, Nat.reduceMul, Nat.reduceSub, Nat.reduceLeDiff, Nat.reduceLT, p1, p7, p8, p9, hlt, Cells.idx hc Nat.zero_lt_one, Cells.ld hc Nat.zero_lt_one Nat.zero_lt_one, e0, hw]
  · rintro f g m ⟨rfl, rfl, p1, p7, p8, p9, hq⟩
    have := hq rfl
    subst this
    simp only [rn0, rn1, rn2, rn3, rn4, rn5, rn6, rn7, rn8, if_true, if_false, Nat.le_refl, true_and, and_true, decide_true, decide_false, Bool.not_true, Bool.not_false, reduceIte, Nat.reduceEqDiff, Nat.reduceAdd, Nat.reduceMul, Nat.reduceSub, Nat.reduceLeDiff, Nat.reduceLT, p1, p7, p8, p9, Int.lt_irrefl]
/-- what 'openVat' answers for one hour -/
def OpenHR (h : AHeap) (S : MS) (wv vv sv : Value) (at_ hh : Int) (v : Value) (h' : AHeap) : Prop := (∀ i, i < h.next → h'.get i = h.get i) ∧ h.next ≤ h'.next ∧ h'.next ≤ h.next + 500100 ∧ h'.floor = h.floor ∧
  ((faultS S ≠ 0 ∧ v = .tuple ⟨[.agg ⟨wk0⟩, .int .i64 (faultS S)]⟩) ∨ (faultS S = 0 ∧ ¬ (InV S at_ ∧ S.vb at_.toNat ≤ hh ∧ hh ≤ S.last) ∧ v = .tuple ⟨[.agg ⟨wk0⟩, .int .i64 2]⟩) ∨ (faultS S = 0 ∧ (InV S at_ ∧ S.vb at_.toNat ≤ hh ∧ hh ≤ S.last) ∧ truthsS S = [] ∧ v = .tuple ⟨[.agg ⟨wk0⟩, .int .i64 11]⟩) ∨
    (faultS S = 0 ∧ (InV S at_ ∧ S.vb at_.toNat ≤ hh ∧ hh ≤ S.last) ∧ truthsS S ≠ [] ∧ ∃ tv, v = .tuple ⟨[.agg ⟨wkL S wv vv sv tv⟩, .int .i64 0]⟩ ∧ oneCell tv = true ∧ TruthsR h' S tv (truthsS S) ∧ Long tv))
set_option maxHeartbeats 1000000 in
theorem openVatH_c (hn : 600 ≤ n) (hr : h.next + 700000 < far) (hfl : h.floor ≤ h.next) {wv vv sv : Value} {S : MS} (hy : SteepR h wv vv sv S) (hT : ThinS S) (at_ : Int) {bl : Nat} {hh : Int} (hbl : h.get bl = some (.row [.int .i64 hh] true 0)) :
    ∃ v h', call n (.func (.func 88) #[] #[]) [.agg ⟨stL S wv vv sv⟩, .int .i64 at_, .slice (some ⟨bl, 0, none⟩) 1 1] h = some (v, h') ∧ OpenHR h S wv vv sv at_ hh v h' := by
  obtain ⟨n, rfl⟩ : ∃ p, n = p + 1 := ⟨n - 1, by omega⟩
  refine call_any0 fok88 rfl rfl (by simp) ?_
  simp only [s88, W_seq, W_ops]
  refine ops_box (cs := stL S wv vv sv) (by omega) rfl hy.one fun g1 hx1 => ?_
  have n1 := hx1.next
  have f1 := hx1.floor
  refine ops_box (cs := [.int .i64 at_]) (by omega) rfl rfl fun g2 hx2 => ?_
  have n2 := hx2.next
  have f2 := hx2.floor
  simp only [rn0, rn1, rn2, rn3, rn4, rn5, rn6, rn7, rn8, if_true, if_false, Nat.le_refl, true_and, and_true, decide_true, decide_false, Bool.not_true, Bool.not_false, reduceIte, Nat.reduceEqDiff, Nat.reduceAdd, Nat.reduceMul, Nat.reduceSub, Nat.reduceLeDiff, Nat.reduceLT]
  refine step_row (cs := wk0) (by omega) rfl rfl fun g3 hx3 => ?_
  have n3 := hx3.next
  have f3 := hx3.floor
  have sub3 : Sub All h g3 := hx1.sub.trans (hx2.sub.trans hx3.sub)
  have w1 := ((hx1.row.mono hx2.sub).mono hx3.sub).whole (n := 7) rfl
  obtain ⟨pv, g4, eo, o4, u4, m4, f4, ho⟩ := open_c (n := n) (h := g3) (by omega) (by omega) (by omega) (hy.mono sub3) hT
  have old4 : ∀ i, i < h.next → g4.get i = h.get i := fun i hi => by rw [o4 i (by omega), hx3.old i (by omega), hx2.old i (by omega), hx1.old i hi]
  have q6 : g4.get g2.next = some (.row wk0 true 0) := by rw [o4 _ (by omega)]; exact hx3.get
  rcases ho with ⟨hf, rfl⟩ | ⟨hf, tv, rfl, hone, htr, htb, hlong⟩
  · simp only [rn0, rn1, rn2, rn3, rn4, rn5, rn6, rn7, rn8, if_true, if_false, Nat.le_refl, true_and, and_true, decide_true, decide_false, Bool.not_true, Bool.not_false, reduceIte, Nat.reduceEqDiff, Nat.reduceAdd, Nat.reduceMul, Nat.reduceSub, Nat.reduceLeDiff, Nat.reduceLT, w1, eo, ex0, ex1]
    refine step_new (vs := wk0) (by omega) (by omega) rfl (by simp only [rn0, rn1, rn2, rn3, rn4, rn5, rn6, rn7, rn8, if_true, if_false, Nat.le_refl, true_and, and_true, decide_true, decide_false, Bool.not_true, Bool.not_false, reduceIte, Nat.reduceEqDiff, Nat.reduceAdd, Nat.reduceMul, Nat.reduceSub, Nat.reduceLeDiff, Nat.reduceLT]; rfl) rfl rfl rfl fun g5 hx5 => ?_
    have n5 := hx5.next
    have f5 := hx5.floor
    simp only [rn0, rn1, rn2, rn3, rn4, rn5, rn6, rn7, rn8, if_true, if_false, Nat.le_refl, true_and, and_true, decide_true, decide_false, Bool.not_true, Bool.not_false, reduceIte, Nat.reduceEqDiff, Nat.reduceAdd, Nat.reduceMul, Nat.reduceSub, Nat.reduceLeDiff, Nat.reduceLT, hf, build_wk0]
    refine step_store (b := g2.next) (off := 0) (vs := wk0) rfl (by rw [hx5.old _ (by omega)]; exact q6) (by omega) (by omega) rfl rfl rfl (by simp) fun g6 hs6 => ?_
    rw [splice_all (by rfl)] at hs6
    have n6 := hs6.next
    have f6 := hs6.floor
    simp only [rn0, rn1, rn2, rn3, rn4, rn5, rn6, rn7, rn8, if_true, if_false, Nat.le_refl, true_and, and_true, decide_true, decide_false, Bool.not_true, Bool.not_false, reduceIte, Nat.reduceEqDiff, Nat.reduceAdd, Nat.reduceMul, Nat.reduceSub, Nat.reduceLeDiff, Nat.reduceLT, res_two, hs6.row.whole (n := 8) rfl]
    exact ⟨fun i hi => by rw [hs6.old i (by omega), hx5.old i (by omega), old4 i hi], by omega, by omega, by omega, .inl ⟨hf, rfl⟩⟩
  · have hG := good_of hf
    have how := wk_one (hy.mono sub3) (tv := tv) hone
    simp only [rn0, rn1, rn2, rn3, rn4, rn5, rn6, rn7, rn8, if_true, if_false, Nat.le_refl, true_and, and_true, decide_true, decide_false, Bool.not_true, Bool.not_false, reduceIte, Nat.reduceEqDiff, Nat.reduceAdd, Nat.reduceMul, Nat.reduceSub, Nat.reduceLeDiff, Nat.reduceLT, w1, eo, ex0, ex1]
    refine step_new (vs := wkL S wv vv sv tv) (by omega) (by omega) rfl (by simp only [rn0, rn1, rn2, rn3, rn4, rn5, rn6, rn7, rn8, if_true, if_false, Nat.le_refl, true_and, and_true, decide_true, decide_false, Bool.not_true, Bool.not_false, reduceIte, Nat.reduceEqDiff, Nat.reduceAdd, Nat.reduceMul, Nat.reduceSub, Nat.reduceLeDiff, Nat.reduceLT]; rfl) how rfl rfl fun g5 hx5 => ?_
    have n5 := hx5.next
    have f5 := hx5.floor
    have old5 : ∀ i, i < h.next → g5.get i = h.get i := fun i hi => by rw [hx5.old i (by omega), old4 i hi]
    have hy5 := hy.mono (AHeap.subOf old5)
    have w5 := hx5.row.whole (n := 8) rfl
    have r2 : Row g5 g1.next [.int .i64 at_] := ⟨true, 0, by rw [hx5.old _ (by omega), o4 _ (by omega), hx3.old _ (by omega)]; exact hx2.get⟩
    have ehv := hasVat_c (n := n) (h := g5) (tv := tv) (by omega) (by omega) hy5 hone at_
    have q5 : g5.get g2.next = some (.row wk0 true 0) := by rw [hx5.old _ (by omega)]; exact q6
    have hblt := AHeap.lt_of_get hbl
    have hbl5 : g5.get bl = some (.row [.int .i64 hh] true 0) := by rw [old5 _ hblt]; exact hbl
    have htr5 : TruthsR g5 S tv (truthsS S) := Cells.mono htr hx5.sub
    by_cases hv : InV S at_
    · have ed : decide (0 ≤ at_ ∧ at_ ≤ (S.nv : Int) - 1) = true := decide_eq_true hv
      rw [ed] at ehv
      obtain ⟨va, hva⟩ : ∃ va : Nat, at_ = (va : Int) := ⟨at_.toNat, by unfold InV at hv; omega⟩
      subst hva
      have hvn : va < S.nv := by unfold InV at hv; omega
      have een := everyInt_one (n := n) (h := g5) (ok := .func (.func 121) ⟨[]⟩ ⟨[.pointer (some ⟨g4.next, 0, none⟩), .pointer (some ⟨g1.next, 0, none⟩)]⟩) (r := decide (S.vb va ≤ hh ∧ hh ≤ S.last)) (by omega) (by omega) hbl5 fun g hs hg => hour1_c (by omega) (by omega) (hy5.mono hs) hone hvn (hx5.row.mono hs) (r2.mono hs) hh
      by_cases hho : S.vb va ≤ hh ∧ hh ≤ S.last
      case neg =>
        rw [decide_eq_false hho] at een
        simp only [rn0, rn1, rn2, rn3, rn4, rn5, rn6, rn7, rn8, if_true, if_false, Nat.le_refl, true_and, and_true, decide_true, decide_false, Bool.not_true, Bool.not_false, reduceIte, Nat.reduceEqDiff, Nat.reduceAdd, Nat.reduceMul, Nat.reduceSub, Nat.reduceLeDiff, Nat.reduceLT, hf, w5, r2.ld, Nat.zero_add, List.getElem?_cons_zero, ehv, een, build_wk0]
        refine step_store (b := g2.next) (off := 0) (vs := wk0) rfl q5 (by omega) (by omega) rfl rfl rfl (by simp) fun g6 hs6 => ?_
        rw [splice_all (by rfl)] at hs6
        have n6 := hs6.next
        have f6 := hs6.floor
        simp only [rn0, rn1, rn2, rn3, rn4, rn5, rn6, rn7, rn8, if_true, if_false, Nat.le_refl, true_and, and_true, decide_true, decide_false, Bool.not_true, Bool.not_false, reduceIte, Nat.reduceEqDiff, Nat.reduceAdd, Nat.reduceMul, Nat.reduceSub, Nat.reduceLeDiff, Nat.reduceLT, res_two, hs6.row.whole (n := 8) rfl]
        exact ⟨fun i hi => by rw [hs6.old i (by omega), old5 i hi], by omega, by omega, by omega, .inr (.inl ⟨hf, fun q => hho q.2, rfl⟩)⟩
      rw [decide_eq_true hho] at een
      by_cases hz : truthsS S = []
      · have hl0 : ((truthsS S).length : Int) = 0 := by rw [hz]; rfl
        simp only [rn0, rn1, rn2, rn3, rn4, rn5, rn6, rn7, rn8, if_true, if_false, Nat.le_refl, true_and, and_true, decide_true, decide_false, Bool.not_true, Bool.not_false, reduceIte, Nat.reduceEqDiff, Nat.reduceAdd, Nat.reduceMul, Nat.reduceSub, Nat.reduceLeDiff, Nat.reduceLT, hf, w5, r2.ld, Nat.zero_add, List.getElem?_cons_zero, ehv, een, hx5.row.ld, wkg, Cells.len htr5, hl0, build_wk0]
        refine step_store (b := g2.next) (off := 0) (vs := wk0) rfl q5 (by omega) (by omega) rfl rfl rfl (by simp) fun g6 hs6 => ?_
        rw [splice_all (by rfl)] at hs6
        have n6 := hs6.next
        have f6 := hs6.floor
        simp only [rn0, rn1, rn2, rn3, rn4, rn5, rn6, rn7, rn8, if_true, if_false, Nat.le_refl, true_and, and_true, decide_true, decide_false, Bool.not_true, Bool.not_false, reduceIte, Nat.reduceEqDiff, Nat.reduceAdd, Nat.reduceMul, Nat.reduceSub, Nat.reduceLeDiff, Nat.reduceLT, res_two, hs6.row.whole (n := 8) rfl]
        exact ⟨fun i hi => by rw [hs6.old i (by omega), old5 i hi], by omega, by omega, by omega, .inr (.inr (.inl ⟨hf, ⟨hv, hho⟩, hz, rfl⟩))⟩
      · have hl0 : ¬ ((truthsS S).length : Int) = 0 := fun e => hz (List.length_eq_zero_iff.1 (by omega))
        simp only [rn0, rn1, rn2, rn3, rn4, rn5, rn6, rn7, rn8, if_true, if_false, Nat.le_refl, true_and, and_true, decide_true, decide_false, Bool.not_true, Bool.not_false, reduceIte, Nat.reduceEqDiff, Nat.reduceAdd, Nat.reduceMul, Nat.reduceSub, Nat.reduceLeDiff, Nat.reduceLT, hf, w5, r2.ld, Nat.zero_add, List.getElem?_cons_zero, ehv, een, hx5.row.ld, wkg, Cells.len htr5, hl0]
        refine step_store (b := g2.next) (off := 0) (vs := wkL S wv vv sv tv) rfl q5 (by omega) (by omega) rfl how rfl (by simp) fun g6 hs6 => ?_
        rw [splice_all (by rfl)] at hs6
        have n6 := hs6.next
        have f6 := hs6.floor
        simp only [rn0, rn1, rn2, rn3, rn4, rn5, rn6, rn7, rn8, if_true, if_false, Nat.le_refl, true_and, and_true, decide_true, decide_false, Bool.not_true, Bool.not_false, reduceIte, Nat.reduceEqDiff, Nat.reduceAdd, Nat.reduceMul, Nat.reduceSub, Nat.reduceLeDiff, Nat.reduceLT, res_two, hs6.row.whole (n := 8) rfl]
        refine ⟨fun i hi => by rw [hs6.old i (by omega), old5 i hi], by omega, by omega, by omega, .inr (.inr (.inr ⟨hf, ⟨hv, hho⟩, hz, tv, rfl, hone, ?_, hlong⟩))⟩
        exact cells_at' htr5 fun a k c e => by
          have := htb a k c e
          exact hs6.old _ (by omega)
    · have ed : decide (0 ≤ at_ ∧ at_ ≤ (S.nv : Int) - 1) = false := decide_eq_false hv
      rw [ed] at ehv
      simp only [rn0, rn1, rn2, rn3, rn4, rn5, rn6, rn7, rn8, if_true, if_false, Nat.le_refl, true_and, and_true, decide_true, decide_false, Bool.not_true, Bool.not_false, reduceIte, Nat.reduceEqDiff, Nat.reduceAdd, Nat.reduceMul, Nat.reduceSub, Nat.reduceLeDiff, Nat.reduceLT, hf, w5, r2.ld, Nat.zero_add, List.getElem?_cons_zero, ehv, build_wk0]
      refine step_store (b := g2.next) (off := 0) (vs := wk0) rfl q5 (by omega) (by omega) rfl rfl rfl (by simp) fun g6 hs6 => ?_
      rw [splice_all (by rfl)] at hs6
      have n6 := hs6.next
      have f6 := hs6.floor
      simp only [rn0, rn1, rn2, rn3, rn4, rn5, rn6, rn7, rn8, if_true, if_false, Nat.le_refl, true_and, and_true, decide_true, decide_false, Bool.not_true, Bool.not_false, reduceIte, Nat.reduceEqDiff, Nat.reduceAdd, Nat.reduceMul, Nat.reduceSub, Nat.reduceLeDiff, Nat.reduceLT, res_two, hs6.row.whole (n := 8) rfl]
      exact ⟨fun i hi => by rw [hs6.old i (by omega), old5 i hi], by omega, by omega, by omega, .inr (.inl ⟨hf, fun q => hv q.1, rfl⟩)⟩
end Go.Vm.St

namespace Go.Vm.St
open Go.Proofs Go.Vm.Vat
set_option linter.unusedSimpArgs false
set_option linter.unusedVariables false
set_option maxRecDepth 10000
variable {n : Nat} {h : AHeap}
theorem wk_self {wv vv sv tv : Value} {S : MS} {l : List (Nat → Int)} (hy : SteepR h wv vv sv S) (ht : TruthsR h S tv l) : eqV (.agg ⟨wkL S wv vv sv tv⟩) (.agg ⟨wkL S wv vv sv tv⟩) = true := by
  simp [wkL, eqV, eqCells, eqC_int, Cells.selfC hy.w, Cells.selfC hy.v, Cells.selfC hy.s, Cells.selfC ht]
def InH (S : MS) (at_ hh : Int) : Prop := InV S at_ ∧ S.vb at_.toNat ≤ hh ∧ hh ≤ S.last
open Classical in
/-- the error of a question on a vat and an hour -/
noncomputable def errH (S : MS) (at_ hh : Int) : Int := if faultS S ≠ 0 then faultS S else if ¬ InH S at_ hh then 2 else if truthsS S = [] then 11 else 0
open Classical in
noncomputable def rightV (S : MS) (at_ hh : Int) : Int := if errH S at_ hh = 0 then verdS S at_.toNat hh 1 (truthsS S) else 0
def s40 : SCode := (.seq (.ops [⟨(some 3), none, .box (T 0)⟩, ⟨(some 6), none, .mov (.const (.int .i64 (0)))⟩, ⟨(some 7), none, .mov (.const (.int .i64 (0)))⟩]) (.seq (.ops [⟨(some 11), none, .loadN 7 (T 3)⟩, ⟨(some 12), none, .mov (T 1)⟩, ⟨(some 13), none, .mov (T 2)⟩, ⟨(some 14), none, .bslice 1 1 [(.int .i64 (0))] [0] [(T 13)]⟩, ⟨(some 15), none, .call (.func 88) [(T 11), (T 12), (T 14)]⟩, ⟨(some 10), none, .mov (T 15)⟩, ⟨(some 16), none, .extract 0 (T 10)⟩, ⟨(some 17), none, .extract 1 (T 10)⟩, ⟨(some 8), none, .alloc [(.int .i64 (0)), (.int .i64 (0)), (.slice none 0 0), (.int .i64 (0)), (.int .i64 (0)), (.slice none 0 0), (.slice none 0 0), (.slice none 0 0)]⟩, ⟨none, none, .store 8 (T 8) (T 16)⟩, ⟨(some 9), none, .mov (T 17)⟩]) (.seq (.seq (.ops [⟨(some 18), none, .mov (T 9)⟩, ⟨(some 19), none, .int2 .neq (T 18) (.const (.int .i64 (0)))⟩]) (.cond (T 19) (.seq (.ops [⟨(some 20), none, .mov (T 9)⟩, ⟨(some 6), none, .mov (.const (.int .i64 (0)))⟩, ⟨(some 7), none, .mov (T 20)⟩]) .ret) .skip)) (.seq (.draw [⟨.rd, ⟨(some 21), none, .loadN 8 (T 8)⟩⟩, ⟨.rd1, ⟨(some 22), none, .loadN 8 (T 8)⟩⟩, ⟨.free, ⟨(some 23), none, .mov (T 1)⟩⟩, ⟨.up, ⟨(some 24), none, .call (.func 91) [(T 22), (T 23)]⟩⟩, ⟨.free, ⟨(some 25), none, .mov (T 1)⟩⟩, ⟨.free, ⟨(some 26), none, .mov (T 2)⟩⟩, ⟨.any, ⟨(some 27), none, .call (.func 90) [(T 21), (T 24), (T 25), (T 26)]⟩⟩, ⟨.free, ⟨(some 6), none, .mov (T 27)⟩⟩, ⟨.free, ⟨(some 7), none, .mov (.const (.int .i64 (0)))⟩⟩]) .ret))))
theorem fok40 : FnOk Try.prog 40 28 s40 [.tmp 6, .tmp 7] := ⟨Try.f40, _, Try.func40, rfl, Try.ntmps40, by kernel_rfl, by kernel_rfl⟩
set_option maxHeartbeats 1000000 in
theorem rightP_c (hn : 2500 ≤ n) (hr : h.next + 1000000 < far) {wv vv sv : Value} {S : MS} (hy : SteepR h wv vv sv S) (hT : ThinS S) (at_ hh : Int) :
    call n (.func (.func 40) #[] #[]) [.agg ⟨stL S wv vv sv⟩, .int .i64 at_, .int .i64 hh] h = some (.tuple ⟨[.int .i64 (rightV S at_ hh), .int .i64 (errH S at_ hh)]⟩, h) := by
  obtain ⟨n, rfl⟩ : ∃ p, n = p + 1 := ⟨n - 1, by omega⟩
  refine call_plain0 fok40 rfl rfl (by simp) rfl ?_
  have hy := hy.shut
  have hr : h.shutAll.next + 1000000 < far := hr
  have hfl : h.shutAll.floor ≤ h.shutAll.next := Nat.le_refl _
  generalize h.shutAll = h at hy hr hfl
  simp only [s40, W_seq, W_ops]
  refine ops_box (cs := stL S wv vv sv) (by omega) rfl hy.one fun g1 hx1 => ?_
  have n1 := hx1.next
  have f1 := hx1.floor
  simp only [rn0, rn1, rn2, rn3, rn4, rn5, rn6, rn7, rn8, if_true, if_false, Nat.le_refl, true_and, and_true, decide_true, decide_false, Bool.not_true, Bool.not_false, reduceIte, Nat.reduceEqDiff, Nat.reduceAdd, Nat.reduceMul, Nat.reduceSub, Nat.reduceLeDiff, Nat.reduceLT, hx1.row.whole (n := 7) rfl, sl_int]
  refine step_slice (by omega) rfl fun g2 hx2 => ?_
  have n2 := hx2.next
  have f2 := hx2.floor
  have sub2 : Sub All h g2 := hx1.sub.trans hx2.sub
  obtain ⟨pv, g3, eo, o3, u3, m3, f3, hp⟩ := openVatH_c (n := n) (h := g2) (by omega) (by omega) (by omega) (hy.mono sub2) hT at_ (hh := hh) hx2.get
  have sub3 : Sub All h g3 := sub2.trans (AHeap.subOf o3)
  rcases hp with ⟨hf, rfl⟩ | ⟨hf, hv, rfl⟩ | ⟨hf, hv, hz, rfl⟩ | ⟨hf, hv, hz, tv, rfl, hone, htr, hlong⟩
  · have e1 : errH S at_ hh = faultS S := if_pos hf
    have e2 : rightV S at_ hh = 0 := if_neg (by rw [e1]; exact hf)
    rw [e1, e2]
    simp only [rn0, rn1, rn2, rn3, rn4, rn5, rn6, rn7, rn8, if_true, if_false, Nat.le_refl, true_and, and_true, decide_true, decide_false, Bool.not_true, Bool.not_false, reduceIte, Nat.reduceEqDiff, Nat.reduceAdd, Nat.reduceMul, Nat.reduceSub, Nat.reduceLeDiff, Nat.reduceLT, eo, ex0, ex1]
    refine step_new (vs := wk0) (by omega) (by omega) rfl (by simp only [rn0, rn1, rn2, rn3, rn4, rn5, rn6, rn7, rn8, if_true, if_false, Nat.le_refl, true_and, and_true, decide_true, decide_false, Bool.not_true, Bool.not_false, reduceIte, Nat.reduceEqDiff, Nat.reduceAdd, Nat.reduceMul, Nat.reduceSub, Nat.reduceLeDiff, Nat.reduceLT]; rfl) rfl rfl rfl fun g4 hx4 => ?_
    simp only [rn0, rn1, rn2, rn3, rn4, rn5, rn6, rn7, rn8, if_true, if_false, Nat.le_refl, true_and, and_true, decide_true, decide_false, Bool.not_true, Bool.not_false, reduceIte, Nat.reduceEqDiff, Nat.reduceAdd, Nat.reduceMul, Nat.reduceSub, Nat.reduceLeDiff, Nat.reduceLT, hf, ret_tt]
  · have hv : ¬ InH S at_ hh := hv
    have e1 : errH S at_ hh = 2 := by unfold errH; rw [if_neg (by simpa using hf), if_pos hv]
    have e2 : rightV S at_ hh = 0 := if_neg (by rw [e1]; decide)
    have z20 : ¬ (2 : Int) = 0 := by decide
    rw [e1, e2]
    simp only [rn0, rn1, rn2, rn3, rn4, rn5, rn6, rn7, rn8, if_true, if_false, Nat.le_refl, true_and, and_true, decide_true, decide_false, Bool.not_true, Bool.not_false, reduceIte, Nat.reduceEqDiff, Nat.reduceAdd, Nat.reduceMul, Nat.reduceSub, Nat.reduceLeDiff, Nat.reduceLT, eo, ex0, ex1]
    refine step_new (vs := wk0) (by omega) (by omega) rfl (by simp only [rn0, rn1, rn2, rn3, rn4, rn5, rn6, rn7, rn8, if_true, if_false, Nat.le_refl, true_and, and_true, decide_true, decide_false, Bool.not_true, Bool.not_false, reduceIte, Nat.reduceEqDiff, Nat.reduceAdd, Nat.reduceMul, Nat.reduceSub, Nat.reduceLeDiff, Nat.reduceLT]; rfl) rfl rfl rfl fun g4 hx4 => ?_
    simp only [rn0, rn1, rn2, rn3, rn4, rn5, rn6, rn7, rn8, if_true, if_false, Nat.le_refl, true_and, and_true, decide_true, decide_false, Bool.not_true, Bool.not_false, reduceIte, Nat.reduceEqDiff, Nat.reduceAdd, Nat.reduceMul, Nat.reduceSub, Nat.reduceLeDiff, Nat.reduceLT, z20, ret_tt]
  · have e1 : errH S at_ hh = 11 := by unfold errH; rw [if_neg (by simpa using hf), if_neg (by intro q; exact q hv), if_pos hz]
    have e2 : rightV S at_ hh = 0 := if_neg (by rw [e1]; decide)
    have z110 : ¬ (11 : Int) = 0 := by decide
    rw [e1, e2]
    simp only [rn0, rn1, rn2, rn3, rn4, rn5, rn6, rn7, rn8, if_true, if_false, Nat.le_refl, true_and, and_true, decide_true, decide_false, Bool.not_true, Bool.not_false, reduceIte, Nat.reduceEqDiff, Nat.reduceAdd, Nat.reduceMul, Nat.reduceSub, Nat.reduceLeDiff, Nat.reduceLT, eo, ex0, ex1]
    refine step_new (vs := wk0) (by omega) (by omega) rfl (by simp only [rn0, rn1, rn2, rn3, rn4, rn5, rn6, rn7, rn8, if_true, if_false, Nat.le_refl, true_and, and_true, decide_true, decide_false, Bool.not_true, Bool.not_false, reduceIte, Nat.reduceEqDiff, Nat.reduceAdd, Nat.reduceMul, Nat.reduceSub, Nat.reduceLeDiff, Nat.reduceLT]; rfl) rfl rfl rfl fun g4 hx4 => ?_
    simp only [rn0, rn1, rn2, rn3, rn4, rn5, rn6, rn7, rn8, if_true, if_false, Nat.le_refl, true_and, and_true, decide_true, decide_false, Bool.not_true, Bool.not_false, reduceIte, Nat.reduceEqDiff, Nat.reduceAdd, Nat.reduceMul, Nat.reduceSub, Nat.reduceLeDiff, Nat.reduceLT, z110, ret_tt]
  · have hG := good_of hf
    have e1 : errH S at_ hh = 0 := by unfold errH; rw [if_neg (by simpa using hf), if_neg (by intro q; exact q hv), if_neg hz]
    have e2 : rightV S at_ hh = verdS S at_.toNat hh 1 (truthsS S) := if_pos e1
    rw [e1, e2]
    have how := wk_one hy (tv := tv) hone
    simp only [rn0, rn1, rn2, rn3, rn4, rn5, rn6, rn7, rn8, if_true, if_false, Nat.le_refl, true_and, and_true, decide_true, decide_false, Bool.not_true, Bool.not_false, reduceIte, Nat.reduceEqDiff, Nat.reduceAdd, Nat.reduceMul, Nat.reduceSub, Nat.reduceLeDiff, Nat.reduceLT, eo, ex0, ex1]
    refine step_new (vs := wkL S wv vv sv tv) (by omega) (by omega) rfl (by simp only [rn0, rn1, rn2, rn3, rn4, rn5, rn6, rn7, rn8, if_true, if_false, Nat.le_refl, true_and, and_true, decide_true, decide_false, Bool.not_true, Bool.not_false, reduceIte, Nat.reduceEqDiff, Nat.reduceAdd, Nat.reduceMul, Nat.reduceSub, Nat.reduceLeDiff, Nat.reduceLT]; rfl) how rfl rfl fun g4 hx4 => ?_
    have n4 := hx4.next
    have f4 := hx4.floor
    have sub4 := sub3.trans hx4.sub
    obtain ⟨hv1, hv2⟩ := hv
    obtain ⟨va, hva⟩ : ∃ va : Nat, at_ = (va : Int) := ⟨at_.toNat, by unfold InV at hv1; omega⟩
    subst hva
    have hvn : va < S.nv := by unfold InV at hv1; omega
    have htr4 : TruthsR g4 S tv (truthsS S) := Cells.mono htr hx4.sub
    have hy4 := hy.mono sub4
    obtain ⟨r, g5, ek, hm5, hr5, sub5, u5, m5, f5⟩ := kindsOf_c (n := n) (h := g4) (by omega) (by omega) (by omega) hy4 hone hG (truths_len hG) (fun t ht => (truths_mem.1 ht).1.1) htr4 hvn
    have ev := verdict_c (n := n) (h := g5) (by omega) (by omega) (hy4.mono sub5) hone hG (Cells.mono htr4 sub5) hm5 (hh := hh) ⟨hvn, hv2.1, hv2.2⟩
    simp only [rn0, rn1, rn2, rn3, rn4, rn5, rn6, rn7, rn8, if_true, if_false, Nat.le_refl, true_and, and_true, decide_true, decide_false, Bool.not_true, Bool.not_false, reduceIte, Nat.reduceEqDiff, Nat.reduceAdd, Nat.reduceMul, Nat.reduceSub, Nat.reduceLeDiff, Nat.reduceLT]
    refine W_draw All ?_
    simp only [rn0, rn1, rn2, rn3, rn4, rn5, rn6, rn7, rn8, if_true, if_false, Nat.le_refl, true_and, and_true, decide_true, decide_false, Bool.not_true, Bool.not_false, reduceIte, Nat.reduceEqDiff, Nat.reduceAdd, Nat.reduceMul, Nat.reduceSub, Nat.reduceLeDiff, Nat.reduceLT, hx4.row.whole (n := 8) rfl, wk_self hy4 htr4, ek, ev, ret_tt]
    exact ⟨⟨by omega, sub5⟩, rfl⟩
end Go.Vm.St

namespace Go.Vm.St
open Go.Proofs Go.Vm.Vat
set_option linter.unusedSimpArgs false
set_option linter.unusedVariables false
set_option maxRecDepth 10000
variable {n : Nat} {h : AHeap}
def s37 : SCode := (.seq (.ops [⟨(some 2), none, .box (T 0)⟩, ⟨(some 4), none, .mov (.const (.bool false))⟩]) (.seq (.ops [⟨(some 5), none, .mov (T 1)⟩, ⟨(some 6), none, .fieldAddr 5 (T 2)⟩, ⟨(some 7), none, .load1 (T 6)⟩, ⟨(some 8), none, .len (T 7)⟩, ⟨(some 9), none, .int2 .sub (T 8) (.const (.int .i64 (1)))⟩, ⟨(some 10), none, .call (.func 42) [(T 5), (.const (.int .i64 (0))), (T 9)]⟩, ⟨(some 4), none, .mov (T 10)⟩]) .ret))
theorem fok37 : FnOk Try.prog 37 11 s37 [.tmp 4] := ⟨Try.f37, _, Try.func37, rfl, Try.ntmps37, by kernel_rfl, by kernel_rfl⟩
theorem vatL_c (hn : 2 ≤ n) (hr : h.next + 2 < far) {wv vv sv : Value} {S : MS} (hy : SteepR h wv vv sv S) (hT : ThinS S) (at_ : Int) :
    call n (.func (.func 37) #[] #[]) [.agg ⟨stL S wv vv sv⟩, .int .i64 at_] h = some (.bool (decide (0 ≤ at_ ∧ at_ ≤ (S.nv : Int) - 1)), h) := by
  obtain ⟨n, rfl⟩ : ∃ p, n = p + 1 := ⟨n - 1, by omega⟩
  obtain ⟨_, t2, _⟩ := hT
  refine call_plain0 fok37 rfl rfl (by simp) rfl ?_
  have hy := hy.shut
  have hr : h.shutAll.next + 2 < far := hr
  generalize h.shutAll = h at hy hr
  simp only [s37, W_seq, W_ops]
  refine ops_box (cs := stL S wv vv sv) (by omega) rfl hy.one fun g1 hx1 => ?_
  have hy1 := hy.mono hx1.sub
  have hw : wrapF .i64 ((S.nv : Int) - 1) = (S.nv : Int) - 1 := wrap_in (by omega) (by omega)
  simp only [rn0, rn1, rn2, rn3, rn4, rn5, rn6, rn7, rn8, if_true, if_false, Nat.le_refl, true_and, and_true, decide_true, decide_false, Bool.not_true, Bool.not_false, reduceIte, Nat.reduceEqDiff, Nat.reduceAdd, Nat.reduceMul, Nat.reduceSub, Nat.reduceLeDiff, Nat.reduceLT, hx1.row.ld, stg, Nat.zero_add, Cells.len hy1.v, hw, in_c (n := n) (h := g1) (by omega)]
end Go.Vm.St

namespace Go.Vm.St
open Go.Proofs Go.Vm.Vat
set_option linter.unusedSimpArgs false
set_option linter.unusedVariables false
set_option maxRecDepth 10000
variable {n : Nat} {h : AHeap}
def s41 : SCode := (.seq (.ops [⟨(some 3), none, .box (T 0)⟩, ⟨(some 6), none, .mov (.const (.bool false))⟩]) (.seq (.ops [⟨(some 10), none, .loadN 7 (T 3)⟩, ⟨(some 11), none, .mov (T 1)⟩, ⟨(some 12), none, .mov (T 2)⟩, ⟨(some 13), none, .call (.func 40) [(T 10), (T 11), (T 12)]⟩, ⟨(some 9), none, .mov (T 13)⟩, ⟨(some 14), none, .extract 0 (T 9)⟩, ⟨(some 15), none, .extract 1 (T 9)⟩, ⟨(some 7), none, .mov (T 14)⟩, ⟨(some 8), none, .mov (T 15)⟩]) (.seq (.ops [⟨(some 16), none, .mov (T 8)⟩, ⟨(some 17), none, .int2 .eql (T 16) (.const (.int .i64 (0)))⟩, ⟨(some 18), none, .mov (T 17)⟩, ⟨(some 19), (some (18, true)), .mov (T 7)⟩, ⟨(some 20), (some (18, true)), .int2 .eql (T 19) (.const (.int .i64 (1)))⟩, ⟨(some 21), none, .pick (T 18) (T 20) (.const (.bool false))⟩, ⟨(some 6), none, .mov (T 21)⟩]) .ret)))
theorem fok41 : FnOk Try.prog 41 22 s41 [.tmp 6] := ⟨Try.f41, _, Try.func41, rfl, Try.ntmps41, by kernel_rfl, by kernel_rfl⟩
theorem proveGood_c (hn : 2510 ≤ n) (hr : h.next + 1000100 < far) {wv vv sv : Value} {S : MS} (hy : SteepR h wv vv sv S) (hT : ThinS S) (at_ hh : Int) :
    call n (.func (.func 41) #[] #[]) [.agg ⟨stL S wv vv sv⟩, .int .i64 at_, .int .i64 hh] h = some (.bool (decide (errH S at_ hh = 0 ∧ rightV S at_ hh = 1)), h) := by
  obtain ⟨n, rfl⟩ : ∃ p, n = p + 1 := ⟨n - 1, by omega⟩
  refine call_plain0 fok41 rfl rfl (by simp) rfl ?_
  have hy := hy.shut
  have hr : h.shutAll.next + 1000100 < far := hr
  generalize h.shutAll = h at hy hr
  simp only [s41, W_seq, W_ops]
  refine ops_box (cs := stL S wv vv sv) (by omega) rfl hy.one fun g1 hx1 => ?_
  have n1 := hx1.next
  have er := rightP_c (n := n) (h := g1) (by omega) (by omega) (hy.mono hx1.sub) hT at_ hh
  by_cases c1 : errH S at_ hh = 0
  · by_cases c2 : rightV S at_ hh = 1
    · simp only [rn0, rn1, rn2, rn3, rn4, rn5, rn6, rn7, rn8, if_true, if_false, Nat.le_refl, true_and, and_true, decide_true, decide_false, Bool.not_true, Bool.not_false, reduceIte, Nat.reduceEqDiff, Nat.reduceAdd, Nat.reduceMul, Nat.reduceSub, Nat.reduceLeDiff, Nat.reduceLT, hx1.row.whole (n := 7) rfl, er, ex0, ex1, c1, c2, and_self]
    · simp only [rn0, rn1, rn2, rn3, rn4, rn5, rn6, rn7, rn8, if_true, if_false, Nat.le_refl, true_and, and_true, decide_true, decide_false, Bool.not_true, Bool.not_false, reduceIte, Nat.reduceEqDiff, Nat.reduceAdd, Nat.reduceMul, Nat.reduceSub, Nat.reduceLeDiff, Nat.reduceLT, hx1.row.whole (n := 7) rfl, er, ex0, ex1, c1, c2, and_false]
  · simp only [rn0, rn1, rn2, rn3, rn4, rn5, rn6, rn7, rn8, if_true, if_false, Nat.le_refl, true_and, and_true, decide_true, decide_false, Bool.not_true, Bool.not_false, reduceIte, Nat.reduceEqDiff, Nat.reduceAdd, Nat.reduceMul, Nat.reduceSub, Nat.reduceLeDiff, Nat.reduceLT, hx1.row.whole (n := 7) rfl, er, ex0, ex1, c1, false_and]
def s92 : SCode := (.seq (.ops [⟨(some 5), none, .box (T 0)⟩, ⟨(some 10), none, .mov (.const (.int .i64 (0)))⟩]) (.seq (.ops [⟨(some 11), none, .mov (.const (.int .i64 (0)))⟩]) (.seq (.seq (.ops [⟨(some 12), none, .mov (.const (.int .i64 (0)))⟩]) (.block 0 (.loop (.seq (.seq (.ops [⟨(some 13), none, .mov (T 12)⟩, ⟨(some 14), none, .mov (T 1)⟩, ⟨(some 15), none, .len (T 14)⟩, ⟨(some 16), none, .int2 .lss (T 13) (T 15)⟩]) (.cond (T 16) .skip (.exit 0))) (.seq (.block 1 (.seq (.draw [⟨.rd1, ⟨(some 19), none, .loadN 7 (T 5)⟩⟩, ⟨.free, ⟨(some 20), none, .mov (T 1)⟩⟩, ⟨.free, ⟨(some 21), none, .mov (T 12)⟩⟩, ⟨.free, ⟨(some 22), none, .idxSl 3 (T 20) (T 21)⟩⟩, ⟨.rd1, ⟨(some 23), none, .loadN 3 (T 22)⟩⟩, ⟨.free, ⟨(some 24), none, .mov (T 2)⟩⟩, ⟨.free, ⟨(some 25), none, .mov (T 3)⟩⟩, ⟨.any, ⟨(some 26), none, .call (.func 34) [(T 19), (T 23), (T 24), (T 25)]⟩⟩, ⟨.free, ⟨(some 27), none, .mov (T 4)⟩⟩, ⟨.free, ⟨(some 28), none, .int2 .eql (T 26) (T 27)⟩⟩]) (.cond (T 28) (.ops [⟨(some 29), none, .mov (T 11)⟩, ⟨(some 30), none, .int2 .add (T 29) (.const (.int .i64 (1)))⟩, ⟨(some 11), none, .mov (T 30)⟩]) .skip))) (.ops [⟨(some 17), none, .mov (T 12)⟩, ⟨(some 18), none, .int2 .add (T 17) (.const (.int .i64 (1)))⟩, ⟨(some 12), none, .mov (T 18)⟩])))))) (.seq (.ops [⟨(some 31), none, .mov (T 11)⟩, ⟨(some 10), none, .mov (T 31)⟩]) .ret))))
theorem fok92 : FnOk Try.prog 92 32 s92 [.tmp 10] := ⟨Try.f92, _, Try.func92, rfl, Try.ntmps92, by kernel_rfl, by kernel_rfl⟩
theorem kindsRef_c (hn : 2200 ≤ n) (hr : h.next + 100 < far) {wv vv sv l : Value} {S : MS} (hy : SteepR h wv vv sv S) (hG : Good S) {L : List (Nat → Int)} (ht : TruthsL h l S L) (hlen : L.length ≤ 2000) (hin : ∀ t, t ∈ L → InU S t) {v : Nat} {hh : Int} (ho : HourOk S v hh) (kk : Int) :
    call n (.func (.func 92) #[] #[]) [.agg ⟨stL S wv vv sv⟩, l, .int .i64 (v : Int), .int .i64 hh, .int .i64 kk] h = some (.int .i64 ((cntTo (fun i => kindS S (L.getD i fun _ => 0) v hh = kk) L.length : Nat) : Int), h) := by
  obtain ⟨n, rfl⟩ : ∃ p, n = p + 1 := ⟨n - 1, by omega⟩
  refine call_plain0 fok92 rfl rfl (by simp) rfl ?_
  have hy := hy.shut
  obtain ⟨R1, R2, hc, hq⟩ := ht
  have hc := hc.mono (g := h.shutAll) fun _ _ _ _ _ h => h
  have hq := fun k hk => (hq k hk).mono (g := h.shutAll) fun _ _ _ _ _ h => h
  have hr : h.shutAll.next + 100 < far := hr
  generalize h.shutAll = h at hy hc hq hr
  have hat : ∀ i, i < L.length → InU S (L.getD i fun _ => 0) := fun i hi => hin _ (getD_mem hi)
  simp only [s92, W_seq, W_ops]
  refine ops_box (cs := stL S wv vv sv) (by omega) rfl hy.one fun g1 hx1 => ?_
  have n1 := hx1.next
  have hy1 := hy.mono hx1.sub
  have hc1 := hc.mono hx1.sub
  simp only [rn0, rn1, rn2, rn3, rn4, rn5, rn6, rn7, rn8, if_true, if_false, Nat.le_refl, true_and, and_true, decide_true, decide_false, Bool.not_true, Bool.not_false, reduceIte, Nat.reduceEqDiff, Nat.reduceAdd, Nat.reduceMul, Nat.reduceSub, Nat.reduceLeDiff, Nat.reduceLT]
  refine W_loop L.length (fun k f g ms => g = g1 ∧ ms = [] ∧ f 1 = l ∧ f 2 = .int .i64 (v : Int) ∧ f 3 = .int .i64 hh ∧ f 4 = .int .i64 kk ∧ f 5 = .pointer (some ⟨h.next, 0, none⟩) ∧ f 11 = .int .i64 ((cntTo (fun i => kindS S (L.getD i fun _ => 0) v hh = kk) k : Nat) : Int) ∧ f 12 = .int .i64 (k : Int)) (by simp; omega) ?_ ?_ ?_
  · simp only [rn0, rn1, rn2, rn3, rn4, rn5, rn6, rn7, rn8, if_true, if_false, Nat.le_refl, true_and, and_true, decide_true, decide_false, Bool.not_true, Bool.not_false, reduceIte, Nat.reduceEqDiff, Nat.reduceAdd, Nat.reduceMul, Nat.reduceSub, Nat.reduceLeDiff, Nat.reduceLT]
    first | done | trivial | exact ⟨rfl, rfl⟩
  · rintro k f g ms hk ⟨rfl, rfl, p1, p2, p3, p4, p5, p11, p12⟩
    have hk' : (k : Int) < (L.length : Int) := by omega
    have hw : wrapF .i64 ((k : Int) + 1) = ((k + 1 : Nat) : Int) := by rw [wrap_in (by omega) (by omega)]; rfl
    have hcl := cntTo_le (p := fun i => kindS S (L.getD i fun _ => 0) v hh = kk) k
    have ek := kind_c (n := n) (h := g) (by omega) (by omega) hy1 ((hq k hk).mono hx1.sub) hG (hat k hk) ho
    simp only [rn0, rn1, rn2, rn3, rn4, rn5, rn6, rn7, rn8, if_true, if_false, Nat.le_refl, true_and, and_true, decide_true, decide_false, Bool.not_true, Bool.not_false, reduceIte, Nat.reduceEqDiff, Nat.reduceAdd, Nat.reduceMul, Nat.reduceSub, Nat.reduceLeDiff, Nat.reduceLT, p1, p2, p3, p4, p5, p11, p12, Cells.len hc1, hk']
    refine W_draw All ?_
    by_cases e : kindS S (L.getD k fun _ => 0) v hh = kk
    · have hcy := cntTo_yes (p := fun i => kindS S (L.getD i fun _ => 0) v hh = kk) (k := k) e
      have hwc : wrapF .i64 (((cntTo (fun i => kindS S (L.getD i fun _ => 0) v hh = kk) k : Nat) : Int) + 1) = ((cntTo (fun i => kindS S (L.getD i fun _ => 0) v hh = kk) (k + 1) : Nat) : Int) := by rw [hcy, wrap_in (by omega) (by omega)]; rfl
      simp only [rn0, rn1, rn2, rn3, rn4, rn5, rn6, rn7, rn8, if_true, if_false, Nat.le_refl, true_and, and_true, decide_true, decide_false, Bool.not_true, Bool.not_false, reduceIte, Nat.reduceEqDiff, Nat.reduceAdd, Nat.reduceMul, Nat.reduceSub, Nat.reduceLeDiff, Nat.reduceLT, p1, p2, p3, p4, p5, p11, p12, hx1.row.whole (n := 7) rfl, Cells.idx hc1 hk, trs_ld hc1 hk, ek, e, hwc, hw]
    · have hcn := cntTo_no (p := fun i => kindS S (L.getD i fun _ => 0) v hh = kk) (k := k) e
      simp only [rn0, rn1, rn2, rn3, rn4, rn5, rn6, rn7, rn8, if_true, if_false, Nat.le_refl, true_and, and_true, decide_true, decide_false, Bool.not_true, Bool.not_false, reduceIte, Nat.reduceEqDiff, Nat.reduceAdd, Nat.reduceMul, Nat.reduceSub, Nat.reduceLeDiff, Nat.reduceLT, p1, p2, p3, p4, p5, p11, p12, hx1.row.whole (n := 7) rfl, Cells.idx hc1 hk, trs_ld hc1 hk, ek, e, hcn, hw]
  · rintro f g ms ⟨rfl, rfl, p1, p2, p3, p4, p5, p11, p12⟩
    simp only [rn0, rn1, rn2, rn3, rn4, rn5, rn6, rn7, rn8, if_true, if_false, Nat.le_refl, true_and, and_true, decide_true, decide_false, Bool.not_true, Bool.not_false, reduceIte, Nat.reduceEqDiff, Nat.reduceAdd, Nat.reduceMul, Nat.reduceSub, Nat.reduceLeDiff, Nat.reduceLT, p1, p2, p3, p4, p5, p11, p12, Cells.len hc1, Int.lt_irrefl]
end Go.Vm.St

namespace Go.Vm.St
open Go.Proofs Go.Vm.Vat
set_option linter.unusedSimpArgs false
set_option linter.unusedVariables false
set_option maxRecDepth 10000
variable {n : Nat} {h : AHeap}
theorem verd_ref {S : MS} (hG : Good S) {v : Nat} {hh kk : Int} (hne : truthsS S ≠ []) :
    (if ((cntTo (fun i => kindS S ((refTruths S).getD i fun _ => 0) v hh = kk) (refTruths S).length : Nat) : Int) = ((refTruths S).length : Int) then (1 : Int) else if ((cntTo (fun i => kindS S ((refTruths S).getD i fun _ => 0) v hh = kk) (refTruths S).length : Nat) : Int) = 0 then 2 else 3) = verdS S v hh kk (truthsS S) := by
  have hRne : refTruths S ≠ [] := fun e => hne ((ref_nil hG).1 e)
  have hall := cntTo_all (p := fun i => kindS S ((refTruths S).getD i fun _ => 0) v hh = kk) (refTruths S).length
  have hnone := cntTo_none (p := fun i => kindS S ((refTruths S).getD i fun _ => 0) v hh = kk) (refTruths S).length
  rw [all_at (p := fun t => kindS S t v hh = kk)] at hall
  rw [all_at (p := fun t => ¬ kindS S t v hh = kk)] at hnone
  have h1 : (∀ t, t ∈ refTruths S → kindS S t v hh = kk) ↔ ∀ t, t ∈ truthsS S → kindS S t v hh = kk := ⟨fun q t ht => q t ((refTruths_mem hG).2 ht), fun q t ht => q t ((refTruths_mem hG).1 ht)⟩
  have h2 : (∀ t, t ∈ refTruths S → ¬ kindS S t v hh = kk) ↔ ∀ t, t ∈ truthsS S → kindS S t v hh ≠ kk := ⟨fun q t ht => q t ((refTruths_mem hG).2 ht), fun q t ht => q t ((refTruths_mem hG).1 ht)⟩
  rw [h1] at hall
  rw [h2] at hnone
  obtain ⟨t, ht⟩ := List.exists_mem_of_ne_nil _ hne
  unfold verdS
  by_cases c1 : ∀ t, t ∈ truthsS S → kindS S t v hh ≠ kk
  · have c2 : ¬ ∀ t, t ∈ truthsS S → kindS S t v hh = kk := fun q => c1 t ht (q t ht)
    have e0 := hnone.2 c1
    have e1 : ¬ cntTo (fun i => kindS S ((refTruths S).getD i fun _ => 0) v hh = kk) (refTruths S).length = (refTruths S).length := fun q => c2 (hall.1 q)
    rw [if_neg (by omega), if_pos (by omega), if_pos c1]
  · have e0 : ¬ cntTo (fun i => kindS S ((refTruths S).getD i fun _ => 0) v hh = kk) (refTruths S).length = 0 := fun q => c1 (hnone.1 q)
    rw [if_neg c1]
    by_cases c2 : ∀ t, t ∈ truthsS S → kindS S t v hh = kk
    · have e1 := hall.2 c2
      rw [if_pos (by omega), if_pos c2]
    · have e1 : ¬ cntTo (fun i => kindS S ((refTruths S).getD i fun _ => 0) v hh = kk) (refTruths S).length = (refTruths S).length := fun q => c2 (hall.1 q)
      rw [if_neg (by omega), if_neg (by omega), if_neg c2]
def s43 : SCode := (.seq (.ops [⟨(some 4), none, .box (T 0)⟩, ⟨(some 8), none, .mov (.const (.int .i64 (0)))⟩]) (.seq (.ops [⟨(some 10), none, .loadN 7 (T 4)⟩, ⟨(some 11), none, .mov (T 1)⟩, ⟨(some 12), none, .mov (T 2)⟩, ⟨(some 13), none, .mov (T 3)⟩, ⟨(some 14), none, .call (.func 92) [(T 10), (T 11), (T 12), (T 13), (.const (.int .i64 (1)))]⟩, ⟨(some 9), none, .mov (T 14)⟩]) (.seq (.seq (.ops [⟨(some 15), none, .mov (T 9)⟩, ⟨(some 16), none, .mov (T 1)⟩, ⟨(some 17), none, .len (T 16)⟩, ⟨(some 18), none, .int2 .eql (T 15) (T 17)⟩]) (.cond (T 18) (.seq (.ops [⟨(some 8), none, .mov (.const (.int .i64 (1)))⟩]) .ret) .skip)) (.seq (.seq (.ops [⟨(some 19), none, .mov (T 9)⟩, ⟨(some 20), none, .int2 .eql (T 19) (.const (.int .i64 (0)))⟩]) (.cond (T 20) (.seq (.ops [⟨(some 8), none, .mov (.const (.int .i64 (2)))⟩]) .ret) .skip)) (.seq (.ops [⟨(some 8), none, .mov (.const (.int .i64 (3)))⟩]) .ret)))))
theorem fok43 : FnOk Try.prog 43 21 s43 [.tmp 8] := ⟨Try.f43, _, Try.func43, rfl, Try.ntmps43, by kernel_rfl, by kernel_rfl⟩
theorem verdictRef_c (hn : 2210 ≤ n) (hr : h.next + 200 < far) {wv vv sv l : Value} {S : MS} (hy : SteepR h wv vv sv S) (hG : Good S) (hne : truthsS S ≠ []) (ht : TruthsL h l S (refTruths S)) {v : Nat} {hh : Int} (ho : HourOk S v hh) :
    call n (.func (.func 43) #[] #[]) [.agg ⟨stL S wv vv sv⟩, l, .int .i64 (v : Int), .int .i64 hh] h = some (.int .i64 (verdS S v hh 1 (truthsS S)), h) := by
  obtain ⟨n, rfl⟩ : ∃ p, n = p + 1 := ⟨n - 1, by omega⟩
  refine call_plain0 fok43 rfl rfl (by simp) rfl ?_
  have hy := hy.shut
  obtain ⟨R1, R2, hc, hq⟩ := ht
  have hc := hc.mono (g := h.shutAll) fun _ _ _ _ _ h => h
  have hq := fun k hk => (hq k hk).mono (g := h.shutAll) fun _ _ _ _ _ h => h
  have hr : h.shutAll.next + 200 < far := hr
  generalize h.shutAll = h at hy hc hq hr
  have hRlen : (refTruths S).length ≤ 2000 := Nat.le_trans refTo_len (by have := many_pos hG; omega)
  simp only [s43, W_seq, W_ops]
  refine ops_box (cs := stL S wv vv sv) (by omega) rfl hy.one fun g1 hx1 => ?_
  have n1 := hx1.next
  have ek := kindsRef_c (n := n) (h := g1) (by omega) (by omega) (hy.mono hx1.sub) hG ⟨R1, R2, hc.mono hx1.sub, fun k hk => (hq k hk).mono hx1.sub⟩ hRlen (fun t ht => (truths_mem.1 ((refTruths_mem hG).1 ht)).1.1) ho 1
  have hv := verd_ref hG (v := v) (hh := hh) (kk := 1) hne
  have hc1 := hc.mono hx1.sub
  by_cases c1 : ((cntTo (fun i => kindS S ((refTruths S).getD i fun _ => 0) v hh = 1) (refTruths S).length : Nat) : Int) = ((refTruths S).length : Int)
  · rw [if_pos c1] at hv
    simp only [rn0, rn1, rn2, rn3, rn4, rn5, rn6, rn7, rn8, if_true, if_false, Nat.le_refl, true_and, and_true, decide_true, decide_false, Bool.not_true, Bool.not_false, reduceIte, Nat.reduceEqDiff, Nat.reduceAdd, Nat.reduceMul, Nat.reduceSub, Nat.reduceLeDiff, Nat.reduceLT, hx1.row.whole (n := 7) rfl, ek, Cells.len hc1, c1, ← hv]
  · rw [if_neg c1] at hv
    by_cases c2 : ((cntTo (fun i => kindS S ((refTruths S).getD i fun _ => 0) v hh = 1) (refTruths S).length : Nat) : Int) = 0
    · rw [if_pos c2] at hv
      have c3 : ¬ (0 : Int) = ((refTruths S).length : Int) := by rw [← c2]; exact c1
      simp only [rn0, rn1, rn2, rn3, rn4, rn5, rn6, rn7, rn8, if_true, if_false, Nat.le_refl, true_and, and_true, decide_true, decide_false, Bool.not_true, Bool.not_false, reduceIte, Nat.reduceEqDiff, Nat.reduceAdd, Nat.reduceMul, Nat.reduceSub, Nat.reduceLeDiff, Nat.reduceLT, hx1.row.whole (n := 7) rfl, ek, Cells.len hc1, c2, c3, ← hv]
    · rw [if_neg c2] at hv
      simp only [rn0, rn1, rn2, rn3, rn4, rn5, rn6, rn7, rn8, if_true, if_false, Nat.le_refl, true_and, and_true, decide_true, decide_false, Bool.not_true, Bool.not_false, reduceIte, Nat.reduceEqDiff, Nat.reduceAdd, Nat.reduceMul, Nat.reduceSub, Nat.reduceLeDiff, Nat.reduceLT, hx1.row.whole (n := 7) rfl, ek, Cells.len hc1, c1, c2, ← hv]
end Go.Vm.St

namespace Go.Vm.St
open Go.Proofs Go.Vm.Vat
set_option linter.unusedSimpArgs false
set_option linter.unusedVariables false
set_option maxRecDepth 10000
variable {n : Nat} {h : AHeap}
theorem binA_eqlB {P : Program} {N : Nat} {f : Go.Vm.Fr} {op : Op} {ty : TypeId} {a b : Bool} : binA P N .eql op ty (.bool a) (.bool b) f h = plainF P N op ty f h := id rfl
theorem eql_self {a : Bool} : (a == a) = true := by cases a <;> rfl
def s5 : SCode := (.seq (.ops [⟨(some 3), none, .box (T 0)⟩, ⟨(some 6), none, .mov (.const (.bool false))⟩]) (.seq (.seq (.ops [⟨(some 13), none, .loadN 7 (T 3)⟩, ⟨(some 14), none, .call (.func 23) [(T 13)]⟩, ⟨(some 15), none, .not (T 14)⟩]) (.cond (T 15) (.seq (.ops [⟨(some 16), none, .call (.func 24) []⟩, ⟨(some 6), none, .mov (T 16)⟩]) .ret) .skip)) (.seq (.ops [⟨(some 18), none, .loadN 7 (T 3)⟩, ⟨(some 19), none, .call (.func 26) [(T 18)]⟩, ⟨(some 20), none, .mov (T 1)⟩, ⟨(some 21), none, .mov (T 2)⟩, ⟨(some 22), none, .call (.func 40) [(T 19), (T 20), (T 21)]⟩, ⟨(some 17), none, .mov (T 22)⟩, ⟨(some 23), none, .extract 0 (T 17)⟩, ⟨(some 24), none, .extract 1 (T 17)⟩, ⟨(some 7), none, .mov (T 23)⟩, ⟨(some 8), none, .mov (T 24)⟩]) (.seq (.ops [⟨(some 25), none, .loadN 7 (T 3)⟩, ⟨(some 26), none, .call (.func 26) [(T 25)]⟩, ⟨(some 27), none, .mov (T 1)⟩, ⟨(some 28), none, .mov (T 2)⟩, ⟨(some 29), none, .call (.func 41) [(T 26), (T 27), (T 28)]⟩, ⟨(some 9), none, .mov (T 29)⟩]) (.seq (.draw [⟨.rd, ⟨(some 31), none, .loadN 7 (T 3)⟩⟩, ⟨.rd1, ⟨(some 32), none, .loadN 7 (T 3)⟩⟩, ⟨.free, ⟨(some 33), none, .mov (T 1)⟩⟩, ⟨.up, ⟨(some 34), none, .call (.func 37) [(T 32), (T 33)]⟩⟩, ⟨.free, ⟨(some 35), none, .mov (T 34)⟩⟩, ⟨.rd1, ⟨(some 36), (some (35, true)), .loadN 7 (T 3)⟩⟩, ⟨.up, ⟨(some 37), (some (35, true)), .call (.func 29) [(T 36)]⟩⟩, ⟨.free, ⟨(some 38), (some (35, true)), .int2 .eql (T 37) (.const (.int .i64 (0)))⟩⟩, ⟨.free, ⟨(some 39), none, .pick (T 35) (T 38) (.const (.bool false))⟩⟩, ⟨.free, ⟨(some 40), none, .mov (T 39)⟩⟩, ⟨.free, ⟨(some 41), (some (40, true)), .mov (T 2)⟩⟩, ⟨.free, ⟨(some 42), (some (40, true)), .fieldAddr 5 (T 3)⟩⟩, ⟨.rd1, ⟨(some 43), (some (40, true)), .load1 (T 42)⟩⟩, ⟨.free, ⟨(some 44), (some (40, true)), .mov (T 1)⟩⟩, ⟨.free, ⟨(some 45), (some (40, true)), .idxSl 4 (T 43) (T 44)⟩⟩, ⟨.free, ⟨(some 46), (some (40, true)), .fieldAddr 0 (T 45)⟩⟩, ⟨.rd1, ⟨(some 47), (some (40, true)), .load1 (T 46)⟩⟩, ⟨.free, ⟨(some 48), (some (40, true)), .fieldAddr 0 (T 3)⟩⟩, ⟨.rd1, ⟨(some 49), (some (40, true)), .load1 (T 48)⟩⟩, ⟨.up, ⟨(some 50), (some (40, true)), .call (.func 42) [(T 41), (T 47), (T 49)]⟩⟩, ⟨.free, ⟨(some 51), none, .pick (T 40) (T 50) (.const (.bool false))⟩⟩, ⟨.any, ⟨(some 52), none, .call (.func 36) [(T 31), (T 51)]⟩⟩, ⟨.free, ⟨(some 30), none, .mov (T 52)⟩⟩, ⟨.free, ⟨(some 53), none, .extract 0 (T 30)⟩⟩, ⟨.free, ⟨(some 54), none, .extract 1 (T 30)⟩⟩, ⟨.free, ⟨(some 10), none, .mov (T 53)⟩⟩, ⟨.free, ⟨(some 11), none, .mov (T 54)⟩⟩]) (.seq (.seq (.ops [⟨(some 55), none, .mov (T 11)⟩, ⟨(some 56), none, .int2 .neq (T 55) (.const (.int .i64 (0)))⟩]) (.cond (T 56) (.seq (.ops [⟨(some 57), none, .mov (T 8)⟩, ⟨(some 58), none, .mov (T 11)⟩, ⟨(some 59), none, .int2 .eql (T 57) (T 58)⟩, ⟨(some 60), none, .mov (T 59)⟩, ⟨(some 61), (some (60, true)), .mov (T 7)⟩, ⟨(some 62), (some (60, true)), .int2 .eql (T 61) (.const (.int .i64 (0)))⟩, ⟨(some 63), none, .pick (T 60) (T 62) (.const (.bool false))⟩, ⟨(some 64), none, .mov (T 63)⟩, ⟨(some 65), (some (64, true)), .mov (T 9)⟩, ⟨(some 66), (some (64, true)), .not (T 65)⟩, ⟨(some 67), none, .pick (T 64) (T 66) (.const (.bool false))⟩, ⟨(some 68), none, .mov (T 67)⟩, ⟨(some 69), (some (68, true)), .call (.func 24) []⟩, ⟨(some 70), none, .pick (T 68) (T 69) (.const (.bool false))⟩, ⟨(some 6), none, .mov (T 70)⟩]) .ret) .skip)) (.seq (.ops [⟨(some 71), none, .loadN 7 (T 3)⟩, ⟨(some 72), none, .mov (T 10)⟩, ⟨(some 73), none, .mov (T 1)⟩, ⟨(some 74), none, .mov (T 2)⟩, ⟨(some 75), none, .call (.func 43) [(T 71), (T 72), (T 73), (T 74)]⟩, ⟨(some 12), none, .mov (T 75)⟩]) (.seq (.ops [⟨(some 76), none, .mov (T 8)⟩, ⟨(some 77), none, .int2 .eql (T 76) (.const (.int .i64 (0)))⟩, ⟨(some 78), none, .mov (T 77)⟩, ⟨(some 79), (some (78, true)), .mov (T 7)⟩, ⟨(some 80), (some (78, true)), .mov (T 12)⟩, ⟨(some 81), (some (78, true)), .int2 .eql (T 79) (T 80)⟩, ⟨(some 82), none, .pick (T 78) (T 81) (.const (.bool false))⟩, ⟨(some 83), none, .mov (T 82)⟩, ⟨(some 84), (some (83, true)), .mov (T 9)⟩, ⟨(some 85), (some (83, true)), .mov (T 12)⟩, ⟨(some 86), (some (83, true)), .int2 .eql (T 85) (.const (.int .i64 (1)))⟩, ⟨(some 87), (some (83, true)), .bin .eql (.binOp .eql 4 (T 84) (T 86) 4) 4 (T 84) (T 86)⟩, ⟨(some 88), none, .pick (T 83) (T 87) (.const (.bool false))⟩, ⟨(some 89), none, .mov (T 88)⟩, ⟨(some 90), (some (89, true)), .call (.func 24) []⟩, ⟨(some 91), none, .pick (T 89) (T 90) (.const (.bool false))⟩, ⟨(some 6), none, .mov (T 91)⟩]) .ret))))))))
theorem fok5 : FnOk Try.prog 5 92 s5 [.tmp 6] := ⟨Try.f5, _, Try.func5, rfl, Try.ntmps5, by kernel_rfl, by kernel_rfl⟩
set_option maxHeartbeats 2000000 in
theorem rightL_c (hn : 3000 ≤ n) (hr : h.next + 4000000 < far) (hfl : h.floor ≤ h.next) {wv vv sv : Value} {S : MS} (hy : SteepR h wv vv sv S) (a1 a2 : Int) :
    ∃ v h', call n (.func (.func 5) #[] #[]) [.agg ⟨stL S wv vv sv⟩, .int .i64 a1, .int .i64 a2] h = some (v, h') ∧ v = .bool true := by
  obtain ⟨n, rfl⟩ : ∃ p, n = p + 1 := ⟨n - 1, by omega⟩
  refine call_any0 fok5 rfl rfl (by simp) ?_
  simp only [s5, W_seq, W_ops]
  refine ops_box (cs := stL S wv vv sv) (by omega) rfl hy.one fun g1 hx1 => ?_
  have n1 := hx1.next
  have f1 := hx1.floor
  have hy1 := hy.mono hx1.sub
  have r1 := hx1.row
  have et := thin_c (n := n) (h := g1) (by omega) (by omega) hy1
  by_cases hth : ThinS S
  case neg =>
    simp only [rn0, rn1, rn2, rn3, rn4, rn5, rn6, rn7, rn8, if_true, if_false, Nat.le_refl, true_and, and_true, decide_true, decide_false, Bool.not_true, Bool.not_false, reduceIte, Nat.reduceEqDiff, Nat.reduceAdd, Nat.reduceMul, Nat.reduceSub, Nat.reduceLeDiff, Nat.reduceLT, r1.whole (n := 7) rfl, et, hth, awake_c (n := n) (h := g1) (by omega)]
  obtain ⟨w2, v2, s2, g2, e2, hy2, o2, u2, m2, f2⟩ := steepL_c (n := n) (h := g1) (by omega) (by omega) (by omega) hy1 hth
  have sub2 : Sub All g1 g2 := AHeap.subOf o2
  have er := rightP_c (n := n) (h := g2) (by omega) (by omega) hy2 hth a1 a2
  have r2 := r1.mono sub2
  obtain ⟨w3, v3, s3, g3, e3, hy3, o3, u3, m3, f3⟩ := steepL_c (n := n) (h := g2) (by omega) (by omega) (by omega) (hy1.mono sub2) hth
  have sub3 : Sub All g2 g3 := AHeap.subOf o3
  have eg := proveGood_c (n := n) (h := g3) (by omega) (by omega) hy3 hth a1 a2
  have sub13 := sub2.trans sub3
  have hy4 := hy1.mono sub13
  have r3 := r1.mono sub13
  have ev := vatL_c (n := n) (h := g3) (by omega) (by omega) hy4 hth a1
  have ef := faultL_c (n := n) (h := g3) (by omega) (by omega) hy4 hth
  have ein := fun a lo hi => in_c (n := n) (h := g3) (by omega) a lo hi
  have z20 : ¬ (2 : Int) = 0 := by decide
  have z110 : ¬ (11 : Int) = 0 := by decide
  by_cases hv : InV S a1
  case neg =>
    have ed : decide (0 ≤ a1 ∧ a1 ≤ (S.nv : Int) - 1) = false := decide_eq_false hv
    rw [ed] at ev
    obtain ⟨av, g4, e4, o4, u4, m4, f4, ha⟩ := asked_c (n := n) (h := g3) (by omega) (by omega) (by omega) hy4 hth (ok := false)
    have haw := awake_c (n := n) (h := g4) (by omega)
    rcases ha with ⟨hf, rfl⟩ | ⟨hf, _, rfl⟩ | ⟨_, h0, _⟩ | ⟨_, h0, _⟩
    · have q1 : errH S a1 a2 = faultS S := if_pos hf
      have q2 : rightV S a1 a2 = 0 := if_neg (by rw [q1]; exact hf)
      have q3 : ¬ (faultS S = 0 ∧ (0 : Int) = 1) := fun q => hf q.1
      rw [q1, q2] at er eg
      rw [decide_eq_false q3] at eg
      simp only [rn0, rn1, rn2, rn3, rn4, rn5, rn6, rn7, rn8, if_true, if_false, Nat.le_refl, true_and, and_true, decide_true, decide_false, Bool.not_true, Bool.not_false, reduceIte, Nat.reduceEqDiff, Nat.reduceAdd, Nat.reduceMul, Nat.reduceSub, Nat.reduceLeDiff, Nat.reduceLT, r1.whole (n := 7) rfl, et, hth, e2, er, ex0, ex1, r2.whole (n := 7) rfl, e3, eg]
      refine W_draw All ?_
      simp only [rn0, rn1, rn2, rn3, rn4, rn5, rn6, rn7, rn8, if_true, if_false, Nat.le_refl, true_and, and_true, decide_true, decide_false, Bool.not_true, Bool.not_false, reduceIte, Nat.reduceEqDiff, Nat.reduceAdd, Nat.reduceMul, Nat.reduceSub, Nat.reduceLeDiff, Nat.reduceLT, r3.whole (n := 7) rfl, hy4.self, ev, e4, ex0, ex1, haw, d_guard, dg_tt, dg_tf, dg_ft, dg_ff, hf]
      omega
    · have q1 : errH S a1 a2 = 2 := by unfold errH; rw [if_neg (by simpa using hf), if_pos (fun q : InH S a1 a2 => hv q.1)]
      have q2 : rightV S a1 a2 = 0 := if_neg (by rw [q1]; decide)
      have q3 : ¬ ((2 : Int) = 0 ∧ (0 : Int) = 1) := fun q => z20 q.1
      rw [q1, q2] at er eg
      rw [decide_eq_false q3] at eg
      simp only [rn0, rn1, rn2, rn3, rn4, rn5, rn6, rn7, rn8, if_true, if_false, Nat.le_refl, true_and, and_true, decide_true, decide_false, Bool.not_true, Bool.not_false, reduceIte, Nat.reduceEqDiff, Nat.reduceAdd, Nat.reduceMul, Nat.reduceSub, Nat.reduceLeDiff, Nat.reduceLT, r1.whole (n := 7) rfl, et, hth, e2, er, ex0, ex1, r2.whole (n := 7) rfl, e3, eg]
      refine W_draw All ?_
      simp only [rn0, rn1, rn2, rn3, rn4, rn5, rn6, rn7, rn8, if_true, if_false, Nat.le_refl, true_and, and_true, decide_true, decide_false, Bool.not_true, Bool.not_false, reduceIte, Nat.reduceEqDiff, Nat.reduceAdd, Nat.reduceMul, Nat.reduceSub, Nat.reduceLeDiff, Nat.reduceLT, r3.whole (n := 7) rfl, hy4.self, ev, e4, ex0, ex1, haw, d_guard, dg_tt, dg_tf, dg_ft, dg_ff, z20]
      omega
    · cases h0
    · cases h0
  have ed : decide (0 ≤ a1 ∧ a1 ≤ (S.nv : Int) - 1) = true := decide_eq_true hv
  rw [ed] at ev
  by_cases hf : faultS S = 0
  case neg =>
    obtain ⟨av, g4, e4, o4, u4, m4, f4, ha⟩ := asked_c (n := n) (h := g3) (by omega) (by omega) (by omega) hy4 hth (ok := false)
    have haw := awake_c (n := n) (h := g4) (by omega)
    rcases ha with ⟨_, rfl⟩ | ⟨h0, _⟩ | ⟨h0, _⟩ | ⟨h0, _⟩
    · have q1 : errH S a1 a2 = faultS S := if_pos hf
      have q2 : rightV S a1 a2 = 0 := if_neg (by rw [q1]; exact hf)
      have q3 : ¬ (faultS S = 0 ∧ (0 : Int) = 1) := fun q => hf q.1
      rw [q1, q2] at er eg
      rw [decide_eq_false q3] at eg
      simp only [rn0, rn1, rn2, rn3, rn4, rn5, rn6, rn7, rn8, if_true, if_false, Nat.le_refl, true_and, and_true, decide_true, decide_false, Bool.not_true, Bool.not_false, reduceIte, Nat.reduceEqDiff, Nat.reduceAdd, Nat.reduceMul, Nat.reduceSub, Nat.reduceLeDiff, Nat.reduceLT, r1.whole (n := 7) rfl, et, hth, e2, er, ex0, ex1, r2.whole (n := 7) rfl, e3, eg]
      refine W_draw All ?_
      simp only [rn0, rn1, rn2, rn3, rn4, rn5, rn6, rn7, rn8, if_true, if_false, Nat.le_refl, true_and, and_true, decide_true, decide_false, Bool.not_true, Bool.not_false, reduceIte, Nat.reduceEqDiff, Nat.reduceAdd, Nat.reduceMul, Nat.reduceSub, Nat.reduceLeDiff, Nat.reduceLT, r3.whole (n := 7) rfl, hy4.self, ev, e4, ex0, ex1, haw, d_guard, dg_tt, dg_tf, dg_ft, dg_ff, hf, ef]
      omega
    · exact absurd h0 hf
    · exact absurd h0 hf
    · exact absurd h0 hf
  have hG := good_of hf
  obtain ⟨va, hva⟩ : ∃ va : Nat, a1 = (va : Int) := ⟨a1.toNat, by unfold InV at hv; omega⟩
  subst hva
  have hvn : va < S.nv := by unfold InV at hv; omega
  by_cases hho : S.vb va ≤ a2 ∧ a2 ≤ S.last
  case neg =>
    obtain ⟨av, g4, e4, o4, u4, m4, f4, ha⟩ := asked_c (n := n) (h := g3) (by omega) (by omega) (by omega) hy4 hth (ok := false)
    have haw := awake_c (n := n) (h := g4) (by omega)
    rcases ha with ⟨h0, _⟩ | ⟨_, _, rfl⟩ | ⟨_, h0, _⟩ | ⟨_, h0, _⟩
    · exact absurd hf h0
    · have q1 : errH S (va : Int) a2 = 2 := by unfold errH; rw [if_neg (by simpa using hf), if_pos (fun q : InH S (va : Int) a2 => hho q.2)]
      have q2 : rightV S (va : Int) a2 = 0 := if_neg (by rw [q1]; decide)
      have q3 : ¬ ((2 : Int) = 0 ∧ (0 : Int) = 1) := fun q => z20 q.1
      have ein' := ein a2 (S.vb va) S.last
      rw [decide_eq_false hho] at ein'
      rw [q1, q2] at er eg
      rw [decide_eq_false q3] at eg
      simp only [rn0, rn1, rn2, rn3, rn4, rn5, rn6, rn7, rn8, if_true, if_false, Nat.le_refl, true_and, and_true, decide_true, decide_false, Bool.not_true, Bool.not_false, reduceIte, Nat.reduceEqDiff, Nat.reduceAdd, Nat.reduceMul, Nat.reduceSub, Nat.reduceLeDiff, Nat.reduceLT, r1.whole (n := 7) rfl, et, hth, e2, er, ex0, ex1, r2.whole (n := 7) rfl, e3, eg]
      refine W_draw All ?_
      simp only [rn0, rn1, rn2, rn3, rn4, rn5, rn6, rn7, rn8, if_true, if_false, Nat.le_refl, true_and, and_true, decide_true, decide_false, Bool.not_true, Bool.not_false, reduceIte, Nat.reduceEqDiff, Nat.reduceAdd, Nat.reduceMul, Nat.reduceSub, Nat.reduceLeDiff, Nat.reduceLT, r3.whole (n := 7) rfl, hy4.self, ev, e4, ex0, ex1, haw, d_guard, dg_tt, dg_tf, dg_ft, dg_ff, hf, ef, z20, r3.ld, stg, Nat.zero_add, Nat.add_zero, Cells.idx hy4.v hvn, Cells.fld hy4.v hvn, begin_ld hy4 hvn, ein']
      omega
    · cases h0
    · cases h0
  have hin : InH S (va : Int) a2 := ⟨hv, hho⟩
  have ein' := ein a2 (S.vb va) S.last
  rw [decide_eq_true hho] at ein'
  obtain ⟨av, g4, e4, o4, u4, m4, f4, ha⟩ := asked_c (n := n) (h := g3) (by omega) (by omega) (by omega) hy4 hth (ok := true)
  have sub4 : Sub All g3 g4 := AHeap.subOf o4
  have haw := awake_c (n := n) (h := g4) (by omega)
  rcases ha with ⟨h0, _⟩ | ⟨_, h0, _⟩ | ⟨_, _, hz, rfl⟩ | ⟨_, _, hz, l, rfl, hl1, hl⟩
  · exact absurd hf h0
  · cases h0
  · have q1 : errH S (va : Int) a2 = 11 := by unfold errH; rw [if_neg (by simpa using hf), if_neg (fun q => q hin), if_pos hz]
    have q2 : rightV S (va : Int) a2 = 0 := if_neg (by rw [q1]; decide)
    have q3 : ¬ ((11 : Int) = 0 ∧ (0 : Int) = 1) := fun q => z110 q.1
    rw [q1, q2] at er eg
    rw [decide_eq_false q3] at eg
    simp only [rn0, rn1, rn2, rn3, rn4, rn5, rn6, rn7, rn8, if_true, if_false, Nat.le_refl, true_and, and_true, decide_true, decide_false, Bool.not_true, Bool.not_false, reduceIte, Nat.reduceEqDiff, Nat.reduceAdd, Nat.reduceMul, Nat.reduceSub, Nat.reduceLeDiff, Nat.reduceLT, r1.whole (n := 7) rfl, et, hth, e2, er, ex0, ex1, r2.whole (n := 7) rfl, e3, eg]
    refine W_draw All ?_
    simp only [rn0, rn1, rn2, rn3, rn4, rn5, rn6, rn7, rn8, if_true, if_false, Nat.le_refl, true_and, and_true, decide_true, decide_false, Bool.not_true, Bool.not_false, reduceIte, Nat.reduceEqDiff, Nat.reduceAdd, Nat.reduceMul, Nat.reduceSub, Nat.reduceLeDiff, Nat.reduceLT, r3.whole (n := 7) rfl, hy4.self, ev, e4, ex0, ex1, haw, d_guard, dg_tt, dg_tf, dg_ft, dg_ff, hf, ef, z110, r3.ld, stg, Nat.zero_add, Nat.add_zero, Cells.idx hy4.v hvn, Cells.fld hy4.v hvn, begin_ld hy4 hvn, ein']
    omega
  · have q1 : errH S (va : Int) a2 = 0 := by unfold errH; rw [if_neg (by simpa using hf), if_neg (fun q => q hin), if_neg hz]
    have q2 : rightV S (va : Int) a2 = verdS S va a2 1 (truthsS S) := if_pos q1
    have evd := verdictRef_c (n := n) (h := g4) (by omega) (by omega) (hy4.mono sub4) hG hz hl (v := va) (hh := a2) ⟨hvn, hho.1, hho.2⟩
    have r4 := r3.mono sub4
    have u4' : Try.prog.underlying 4 = some .bool := Try.underlying4
    rw [q1, q2] at er eg
    generalize verdS S va a2 1 (truthsS S) = x at er eg evd
    have hd : decide ((0 : Int) = 0 ∧ x = 1) = decide (x = 1) := decide_eq_decide.2 ⟨fun q => q.2, fun q => ⟨rfl, q⟩⟩
    rw [hd] at eg
    simp only [rn0, rn1, rn2, rn3, rn4, rn5, rn6, rn7, rn8, if_true, if_false, Nat.le_refl, true_and, and_true, decide_true, decide_false, Bool.not_true, Bool.not_false, reduceIte, Nat.reduceEqDiff, Nat.reduceAdd, Nat.reduceMul, Nat.reduceSub, Nat.reduceLeDiff, Nat.reduceLT, r1.whole (n := 7) rfl, et, hth, e2, er, ex0, ex1, r2.whole (n := 7) rfl, e3, eg]
    refine W_draw All ?_
    simp only [rn0, rn1, rn2, rn3, rn4, rn5, rn6, rn7, rn8, if_true, if_false, Nat.le_refl, true_and, and_true, decide_true, decide_false, Bool.not_true, Bool.not_false, reduceIte, Nat.reduceEqDiff, Nat.reduceAdd, Nat.reduceMul, Nat.reduceSub, Nat.reduceLeDiff, Nat.reduceLT, r3.whole (n := 7) rfl, hy4.self, ev, e4, ex0, ex1, haw, d_guard, dg_tt, dg_tf, dg_ft, dg_ff, hf, ef, r3.ld, stg, Nat.zero_add, Nat.add_zero, Cells.idx hy4.v hvn, Cells.fld hy4.v hvn, begin_ld hy4 hvn, ein', r4.whole (n := 7) rfl, evd, x_binA, binA_eqlB, p_eqlB u4', valN_tmp, rBB, Nat.reduceLT, eql_self]
    omega
end Go.Vm.St
