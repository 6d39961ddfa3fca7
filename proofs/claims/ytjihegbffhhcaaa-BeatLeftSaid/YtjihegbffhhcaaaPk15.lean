/- Texts of the proofs of this seat, put together: BtLeaveQ, BtEnded, BtRefB, BtLeftL. -/
import Derived.Test.YtjihegbffhhcaaaPk14

namespace Go.Vm.Bt
open Go.Proofs Go.Vm.Vat Go.Vm.L2
set_option linter.unusedSimpArgs false
set_option linter.unusedVariables false
set_option maxRecDepth 10000
variable {n : Nat} {h : AHeap}
theorem least_ex : ∀ (L : List (List Int)), L ≠ [] → ∃ l, IsLeast L l
  | [], h => absurd rfl h
  | x :: L, _ => by
    by_cases hL : L = []
    · subst hL
      exact ⟨x, List.mem_cons_self, fun w hw => by rw [List.mem_singleton] at hw; subst hw; exact sl_irr⟩
    · obtain ⟨l, h1, h2⟩ := least_ex L hL
      by_cases c : SL x l
      · refine ⟨x, List.mem_cons_self, fun w hw => ?_⟩
        rcases List.mem_cons.1 hw with rfl | hw
        · exact sl_irr
        · exact fun q => h2 w hw (sl_trans q c)
      · refine ⟨l, List.mem_cons_of_mem _ h1, fun w hw => ?_⟩
        rcases List.mem_cons.1 hw with rfl | hw
        · exact c
        · exact h2 w hw
theorem leaveS_min {S : MB} (hG : Good S) : (∃ t, t ∈ allE S ∧ leaveS S = wrongL S t) ∧ ∀ t, t ∈ allE S → ¬ SL (wrongL S t) (leaveS S) := by
  have hne : allW S ≠ [] := by unfold allW; rw [Ne, List.map_eq_nil_iff]; exact allE_ne hG
  obtain ⟨l, hl⟩ := least_ex _ hne
  rw [leave_is hl]
  refine ⟨?_, fun t ht => hl.2 _ (List.mem_map.2 ⟨t, ht, rfl⟩)⟩
  obtain ⟨t, ht, e⟩ := List.mem_map.1 hl.1
  exact ⟨t, ht, e.symm⟩
theorem leaveS_len {S : MB} (hG : Good S) : (leaveS S).length ≤ S.ns := by
  obtain ⟨⟨t, _, e⟩, _⟩ := leaveS_min hG
  rw [e]; exact wrong_len
theorem off_bit {S : MB} (hns : S.ns ≤ 5) {b x : Nat} (hx : x < S.ns) : Bit (offN (2 ^ S.ns - 1) b) x ↔ ¬ Bit b x := by
  have hp : (2 ^ S.ns : Nat) < 2 ^ 62 := Nat.pow_lt_pow_right (by omega) (by omega)
  rw [bit_test, bit_test, offN_bit (by omega) (by omega), Nat.testBit_two_pow_sub_one]
  simp [hx]
theorem can_off {S : MB} (hns : S.ns ≤ 5) {b : Nat} : CanB S (offN (2 ^ S.ns - 1) b) ↔ ∃ t, t ∈ allE S ∧ ∀ x, x < S.ns → wrS S t x → Bit b x := by
  constructor
  · rintro ⟨t, ht, hr⟩
    refine ⟨t, ht, fun x hx hw => ?_⟩
    apply Classical.byContradiction
    intro hb
    exact hw (hr x hx ((off_bit hns hx).2 hb))
  · rintro ⟨t, ht, hw⟩
    refine ⟨t, ht, fun x hx hb => ?_⟩
    apply Classical.byContradiction
    intro hr
    exact (off_bit hns hx).1 hb (hw x hx hr)
theorem left_g {S : MB} (hG : Good S) {b : Nat} (hc : CanB S (offN (2 ^ S.ns - 1) b)) : ¬ SL (pickL (Bit b) S.ns) (leaveS S) := by
  intro hs
  obtain ⟨_, _, z3, z5, _⟩ := hG.sizes
  obtain ⟨t, ht, hw⟩ := (can_off z5).1 hc
  have hno := (leaveS_min hG).2 t ht
  obtain ⟨h1, h2⟩ := pick_sub (p := wrS S t) (q := Bit b) S.ns hw
  by_cases e : (pickL (wrS S t) S.ns).length = (pickL (Bit b) S.ns).length
  · have := h2 e
    unfold wrongL at hno
    rw [this] at hno
    exact hno hs
  · apply hno
    unfold wrongL
    rcases hs with hs | hs
    · exact .inl (by omega)
    · exact .inl (by omega)
theorem leave_at {S : MB} (hG : Good S) {i : Nat} (hi : i < (leaveS S).length) : ∃ j : Nat, j < S.ns ∧ atL (leaveS S) i = (j : Int) := by
  obtain ⟨⟨t, _, hl⟩, _⟩ := leaveS_min hG
  have hp : leaveS S = pickL (wrS S t) S.ns := hl
  rw [hp] at hi ⊢
  obtain ⟨j, j1, j2, _⟩ := pick_at hi
  exact ⟨j, j1, j2⟩
theorem left_f {S : MB} (hG : Good S) : CanB S (offN (2 ^ S.ns - 1) (bitsOf (leaveS S) (leaveS S).length)) := by
  obtain ⟨_, _, z3, z5, _⟩ := hG.sizes
  obtain ⟨⟨t, ht, hl⟩, _⟩ := leaveS_min hG
  have hp : leaveS S = pickL (wrS S t) S.ns := hl
  refine (can_off z5).2 ⟨t, ht, fun x hx hw => ?_⟩
  rw [bit_test, bitsOf_test]
  obtain ⟨i, i1, i2⟩ := pick_has hx hw
  exact ⟨i, by rw [hp]; exact i1, by rw [hp, i2]; simp⟩
theorem leave_up {S : MB} (hG : Good S) {i : Nat} (hi : i + 1 < (leaveS S).length) : atL (leaveS S) i < atL (leaveS S) (i + 1) := by
  obtain ⟨⟨t, _, hl⟩, _⟩ := leaveS_min hG
  have hp : leaveS S = pickL (wrS S t) S.ns := hl
  rw [hp] at hi ⊢
  exact pick_up hi

def s68 : SCode := (.seq (.ops [⟨(some 4), none, .mov (.const (.bool false))⟩]) (.seq (.seq (.ops [⟨(some 5), none, .mov (.const (.int .i64 (0)))⟩]) (.block 0 (.loop (.seq (.seq (.ops [⟨(some 6), none, .mov (T 5)⟩, ⟨(some 7), none, .mov (T 0)⟩, ⟨(some 8), none, .len (T 7)⟩, ⟨(some 9), none, .int2 .lss (T 6) (T 8)⟩, ⟨(some 10), none, .mov (T 9)⟩, ⟨(some 11), (some (10, true)), .mov (T 5)⟩, ⟨(some 12), (some (10, true)), .mov (T 1)⟩, ⟨(some 13), (some (10, true)), .len (T 12)⟩, ⟨(some 14), (some (10, true)), .int2 .lss (T 11) (T 13)⟩, ⟨(some 15), none, .pick (T 10) (T 14) (.const (.bool false))⟩]) (.cond (T 15) .skip (.exit 0))) (.seq (.block 1 (.seq (.draw [⟨.free, ⟨(some 18), none, .mov (T 0)⟩⟩, ⟨.free, ⟨(some 19), none, .mov (T 5)⟩⟩, ⟨.free, ⟨(some 20), none, .idxSl 1 (T 18) (T 19)⟩⟩, ⟨.rd1, ⟨(some 21), none, .load1 (T 20)⟩⟩, ⟨.free, ⟨(some 22), none, .mov (T 1)⟩⟩, ⟨.free, ⟨(some 23), none, .mov (T 5)⟩⟩, ⟨.free, ⟨(some 24), none, .idxSl 1 (T 22) (T 23)⟩⟩, ⟨.rd1, ⟨(some 25), none, .load1 (T 24)⟩⟩, ⟨.free, ⟨(some 26), none, .int2 .neq (T 21) (T 25)⟩⟩]) (.cond (T 26) (.seq (.draw [⟨.free, ⟨(some 27), none, .mov (T 0)⟩⟩, ⟨.free, ⟨(some 28), none, .mov (T 5)⟩⟩, ⟨.free, ⟨(some 29), none, .idxSl 1 (T 27) (T 28)⟩⟩, ⟨.rd1, ⟨(some 30), none, .load1 (T 29)⟩⟩, ⟨.free, ⟨(some 31), none, .mov (T 1)⟩⟩, ⟨.free, ⟨(some 32), none, .mov (T 5)⟩⟩, ⟨.free, ⟨(some 33), none, .idxSl 1 (T 31) (T 32)⟩⟩, ⟨.rd1, ⟨(some 34), none, .load1 (T 33)⟩⟩, ⟨.free, ⟨(some 35), none, .int2 .lss (T 30) (T 34)⟩⟩, ⟨.free, ⟨(some 4), none, .mov (T 35)⟩⟩]) .ret) .skip))) (.ops [⟨(some 16), none, .mov (T 5)⟩, ⟨(some 17), none, .int2 .add (T 16) (.const (.int .i64 (1)))⟩, ⟨(some 5), none, .mov (T 17)⟩])))))) (.seq (.ops [⟨(some 36), none, .mov (T 0)⟩, ⟨(some 37), none, .len (T 36)⟩, ⟨(some 38), none, .mov (T 1)⟩, ⟨(some 39), none, .len (T 38)⟩, ⟨(some 40), none, .int2 .lss (T 37) (T 39)⟩, ⟨(some 4), none, .mov (T 40)⟩]) .ret)))
theorem fok68 : FnOk Try.prog 68 41 s68 [.tmp 4] := ⟨Try.f68, _, Try.func68, rfl, Try.ntmps68, by kernel_rfl, by kernel_rfl⟩
theorem before_c {m : Nat} (hn : m + 3 ≤ n) (hm : m ≤ 1000) {va vb : Value} {a b : Nat → Int} (ha : Ints h va m a) (hb : Ints h vb m b) : call n (.func (.func 68) #[] #[]) [va, vb] h = some (.bool (decide (LexLt a b m)), h) := by
  obtain ⟨n, rfl⟩ : ∃ p, n = p + 1 := ⟨n - 1, by omega⟩
  refine call_plain0 fok68 rfl rfl (by simp) rfl ?_
  have ha : Ints h.shutAll va m a := Cells.shut ha
  have hb : Ints h.shutAll vb m b := Cells.shut hb
  generalize h.shutAll = h at ha hb
  simp only [rn0, rn1, rn2, reduceIte, Nat.reduceEqDiff, Nat.reduceAdd, Nat.reduceMul, Nat.reduceSub, Nat.reduceLeDiff, Nat.reduceLT, s68]
  refine W_loop m (fun k f g ms => (∀ i, i < k → a i = b i) ∧ g = h ∧ ms = [] ∧ f 0 = va ∧ f 1 = vb ∧ f 5 = .int .i64 (k : Int)) (by simp; omega) ?_ ?_ ?_
  · simp only [rn0, rn1, rn2, reduceIte, Nat.reduceEqDiff, Nat.reduceAdd, Nat.reduceMul, Nat.reduceSub, Nat.reduceLeDiff, Nat.reduceLT]
    exact ⟨fun i hi => by omega, rfl⟩
  · rintro k f g ms hk ⟨he, rfl, rfl, p0, p1, p5⟩
    have hk' : (k : Int) < (m : Int) := by omega
    have hw : wrapF .i64 ((k : Int) + 1) = ((k + 1 : Nat) : Int) := by rw [wrap_in (by omega) (by omega)]; rfl
    have la := Cells.ld ha hk Nat.zero_lt_one
    have lb := Cells.ld hb hk Nat.zero_lt_one
    simp only [rn0, rn1, rn2, reduceIte, Nat.reduceEqDiff, Nat.reduceAdd, Nat.reduceMul, Nat.reduceSub, Nat.reduceLeDiff, Nat.reduceLT, p0, p1, p5, Cells.len ha, Cells.len hb, hk']
    refine W_draw All ?_
    by_cases c : a k = b k
    · simp only [rn0, rn1, rn2, reduceIte, Nat.reduceEqDiff, Nat.reduceAdd, Nat.reduceMul, Nat.reduceSub, Nat.reduceLeDiff, Nat.reduceLT, p0, p1, p5, Cells.idx ha hk, Cells.idx hb hk, la, lb, c, hw]
      intro i hi
      by_cases e : i = k
      · subst e; exact c
      · exact he i (by omega)
    · have hd : decide (a k < b k) = decide (LexLt a b m) := decide_eq_decide.2 ⟨fun h => ⟨k, hk, he, h⟩, fun ⟨j, j1, j2, j3⟩ => by
        by_cases e : j = k
        · subst e; exact j3
        · by_cases e2 : j < k
          · have := he j e2; omega
          · exact absurd (j2 k (by omega)) c⟩
      simp only [rn0, rn1, rn2, reduceIte, Nat.reduceEqDiff, Nat.reduceAdd, Nat.reduceMul, Nat.reduceSub, Nat.reduceLeDiff, Nat.reduceLT, p0, p1, p5, Cells.idx ha hk, Cells.idx hb hk, la, lb, c]
      refine W_draw All ?_
      simp only [rn0, rn1, rn2, reduceIte, Nat.reduceEqDiff, Nat.reduceAdd, Nat.reduceMul, Nat.reduceSub, Nat.reduceLeDiff, Nat.reduceLT, p0, p1, p5, Cells.idx ha hk, Cells.idx hb hk, la, lb, hd]
  · rintro f g ms ⟨he, rfl, rfl, p0, p1, p5⟩
    have hd : decide (LexLt a b m) = false := decide_eq_false fun ⟨j, j1, j2, j3⟩ => by have := he j j1; omega
    simp only [rn0, rn1, rn2, reduceIte, Nat.reduceEqDiff, Nat.reduceAdd, Nat.reduceMul, Nat.reduceSub, Nat.reduceLeDiff, Nat.reduceLT, p0, p1, p5, Cells.len ha, Cells.len hb, Int.lt_irrefl, hd]

def s77 : SCode := (.seq (.ops [⟨(some 2), none, .mov (.const (.slice none 0 0))⟩]) (.seq (.ops [⟨(some 3), none, .mov (.const (.slice none 0 0))⟩]) (.seq (.seq (.ops [⟨(some 4), none, .mov (.const (.int .i64 (0)))⟩]) (.block 0 (.loop (.seq (.seq (.ops [⟨(some 5), none, .mov (T 0)⟩, ⟨(some 6), none, .mov (T 4)⟩, ⟨(some 7), none, .plain (.convert 3 117 (T 6)) 117⟩, ⟨(some 8), none, .plain (.binOp .shr 3 (T 5) (T 7) 117) 3⟩, ⟨(some 9), none, .int2 .gtr (T 8) (.const (.int .i64 (0)))⟩]) (.cond (T 9) .skip (.exit 0))) (.seq (.block 1 (.seq (.ops [⟨(some 12), none, .mov (T 0)⟩, ⟨(some 13), none, .mov (T 4)⟩, ⟨(some 14), none, .plain (.convert 3 117 (T 13)) 117⟩, ⟨(some 15), none, .plain (.binOp .shr 3 (T 12) (T 14) 117) 3⟩, ⟨(some 16), none, .plain (.binOp .rem 3 (T 15) (.const (.int .i64 (2))) 3) 3⟩, ⟨(some 17), none, .int2 .eql (T 16) (.const (.int .i64 (1)))⟩]) (.cond (T 17) (.ops [⟨(some 18), none, .mov (T 3)⟩, ⟨(some 19), none, .mov (T 4)⟩, ⟨(some 20), none, .bslice 1 1 [(.int .i64 (0))] [0] [(T 19)]⟩, ⟨(some 21), none, .append 1 8 (T 18) (T 20)⟩, ⟨(some 3), none, .mov (T 21)⟩]) .skip))) (.ops [⟨(some 10), none, .mov (T 4)⟩, ⟨(some 11), none, .int2 .add (T 10) (.const (.int .i64 (1)))⟩, ⟨(some 4), none, .mov (T 11)⟩])))))) (.seq (.ops [⟨(some 22), none, .mov (T 3)⟩, ⟨(some 2), none, .mov (T 22)⟩]) .ret))))
theorem fok77 : FnOk Try.prog 77 23 s77 [.tmp 2] := ⟨Try.f77, _, Try.func77, rfl, Try.ntmps77, by kernel_rfl, by kernel_rfl⟩
theorem bits_c (hn : 110 ≤ n) (hr : h.next + 100 < far) (hfl : h.floor ≤ h.next) {b B : Nat} (hb : b < 2 ^ B) (hB : B ≤ 10) :
    ∃ v h', call n (.func (.func 77) #[] #[]) [.int .i64 (b : Int)] h = some (v, h') ∧ Ints h' v (pickL (Bit b) B).length (atL (pickL (Bit b) B)) ∧ (∀ i, i < h.next → h'.get i = h.get i) ∧ h'.next ≤ h.next + 50 ∧ h.next ≤ h'.next ∧ h'.floor = h.floor := by
  obtain ⟨n, rfl⟩ : ∃ p, n = p + 1 := ⟨n - 1, by omega⟩
  obtain ⟨M, hM, hpos, hz⟩ := bits_top B hb
  have hBM : pickL (Bit b) B = pickL (Bit b) M := by
    have := pick_more (p := Bit b) (M := M) (B - M) (top_none hz)
    rw [show M + (B - M) = B by omega] at this; exact this
  rw [hBM]
  refine call_any0 fok77 rfl rfl (by simp) ?_
  simp only [rn0, rn1, rn2, reduceIte, Nat.reduceEqDiff, Nat.reduceAdd, Nat.reduceMul, Nat.reduceSub, Nat.reduceLeDiff, Nat.reduceLT, s77]
  refine W_loop M (fun k f g ms => (∃ v, (∀ i, i < h.next → g.get i = h.get i) ∧ g.floor = h.floor ∧ h.next ≤ g.next ∧ g.next ≤ h.next + 4 * k ∧ GrowC h.next g v 1 (pickL (Bit b) k).length (fun i _ => .int .i64 (atL (pickL (Bit b) k) i)) ∧ f 3 = v) ∧ ms = [] ∧ f 0 = .int .i64 (b : Int) ∧ f 4 = .int .i64 (k : Int)) (by simp; omega) ?_ ?_ ?_
  · simp only [rn0, rn1, rn2, reduceIte, Nat.reduceEqDiff, Nat.reduceAdd, Nat.reduceMul, Nat.reduceSub, Nat.reduceLeDiff, Nat.reduceLT]
    first | exact ⟨_, fun _ _ => trivial, by omega, .nil, rfl⟩ | exact ⟨⟨_, fun _ _ => trivial, by omega, .nil, rfl⟩, rfl⟩ | exact ⟨⟨_, fun _ _ => rfl, rfl, by omega, by omega, .nil, rfl⟩, rfl⟩
  · rintro k f g ms hk ⟨⟨v, ho, hfg, hup, hnx, gv, p3⟩, rfl, p0, p4⟩
    have hw : wrapF .i64 ((k : Int) + 1) = ((k + 1 : Nat) : Int) := by rw [wrap_in (by omega) (by omega)]; rfl
    have hp := hpos k hk
    have hp' : (0 : Int) < ((b / 2 ^ k : Nat) : Int) := by omega
    have hm2 : ((b / 2 ^ k : Nat) : Int).tmod 2 = ((b / 2 ^ k % 2 : Nat) : Int) := rfl
    have z2 : ¬ (2 : Int) = 0 := by decide
    have hlk := pick_len (p := Bit b) k
    by_cases hb1 : Bit b k
    · have hb' : ((b / 2 ^ k % 2 : Nat) : Int) = 1 := by unfold Bit at hb1; omega
      simp only [rn0, rn1, rn2, reduceIte, Nat.reduceEqDiff, Nat.reduceAdd, Nat.reduceMul, Nat.reduceSub, Nat.reduceLeDiff, Nat.reduceLT, p0, p3, p4, p_uint, r_conv (k := k) (by omega), p_shr, r_shr (a := b) (k := k) (by omega), valN_tmp, valN_const, r_rem z2, hm2, hb', hp', sl_int]
      refine step_slice (by omega) rfl fun g4 hx4 => ?_
      have n4 := hx4.next
      have f4 := hx4.floor
      have gv4 : GrowC h.next g4 v 1 (pickL (Bit b) k).length (fun i _ => .int .i64 (atL (pickL (Bit b) (k + 1)) i)) := (gv.sub hx4.sub).congr fun i j hi hj => by rw [pick_yes hb1, at_append hi]
      obtain ⟨v', g5, e5, ev, gv5, hk5⟩ := gv4.append (bytes := 8) (cap := 1) (by omega) (by omega) (by omega) hx4.get rfl rfl (fun j hj => by
        obtain rfl : j = 0 := by omega
        rw [pick_yes hb1, at_last]; rfl) (by simp [maxBytes]; omega) (by simp [maxBytes]; omega)
      have n5 := hk5.next
      have f5 := hk5.floor
      have hlen : (pickL (Bit b) (k + 1)).length = (pickL (Bit b) k).length + 1 := by rw [pick_yes hb1, List.length_append, List.length_singleton]
      simp only [rn0, rn1, rn2, reduceIte, Nat.reduceEqDiff, Nat.reduceAdd, Nat.reduceMul, Nat.reduceSub, Nat.reduceLeDiff, Nat.reduceLT, p0, p3, p4, e5, hw]
      rw [hlen]
      exact ⟨_, fun i hi => by rw [hk5.old i (by omega) fun bb kk qq e => by have := (gv4.block e).1; omega, hx4.old i (by omega), ho i hi], by omega, by omega, by omega, gv5, rfl⟩
    · have hb' : ¬ ((b / 2 ^ k % 2 : Nat) : Int) = 1 := by unfold Bit at hb1; omega
      simp only [rn0, rn1, rn2, reduceIte, Nat.reduceEqDiff, Nat.reduceAdd, Nat.reduceMul, Nat.reduceSub, Nat.reduceLeDiff, Nat.reduceLT, p0, p3, p4, p_uint, r_conv (k := k) (by omega), p_shr, r_shr (a := b) (k := k) (by omega), valN_tmp, valN_const, r_rem z2, hm2, hb', hp', hw]
      rw [pick_no hb1]
      exact ⟨_, ho, by omega, by omega, by omega, gv, rfl⟩
  · rintro f g ms ⟨⟨v, ho, hfg, hup, hnx, gv, p3⟩, rfl, p0, p4⟩
    have hz' : ¬ (0 : Int) < ((b / 2 ^ M : Nat) : Int) := by rw [hz]; omega
    simp only [rn0, rn1, rn2, reduceIte, Nat.reduceEqDiff, Nat.reduceAdd, Nat.reduceMul, Nat.reduceSub, Nat.reduceLeDiff, Nat.reduceLT, p0, p3, p4, p_uint, r_conv (k := M) (by omega), p_shr, r_shr (a := b) (k := M) (by omega), valN_tmp, valN_const, hz']
    exact ⟨gv.cells, ho, by omega, by omega, hfg⟩
def s76 : SCode := (.seq (.ops [⟨(some 4), none, .mov (.const (.bool false))⟩]) (.seq (.ops [⟨(some 5), none, .mov (T 0)⟩, ⟨(some 6), none, .len (T 5)⟩, ⟨(some 7), none, .mov (T 1)⟩, ⟨(some 8), none, .len (T 7)⟩, ⟨(some 9), none, .int2 .lss (T 6) (T 8)⟩, ⟨(some 10), none, .mov (T 9)⟩, ⟨(some 11), (some (10, false)), .mov (T 0)⟩, ⟨(some 12), (some (10, false)), .len (T 11)⟩, ⟨(some 13), (some (10, false)), .mov (T 1)⟩, ⟨(some 14), (some (10, false)), .len (T 13)⟩, ⟨(some 15), (some (10, false)), .int2 .eql (T 12) (T 14)⟩, ⟨(some 16), (some (10, false)), .mov (T 15)⟩, ⟨(some 17), (some (16, true)), .mov (T 0)⟩, ⟨(some 18), (some (16, true)), .mov (T 1)⟩, ⟨(some 19), (some (16, true)), .call (.func 68) [(T 17), (T 18)]⟩, ⟨(some 20), (some (10, false)), .pick (T 16) (T 19) (.const (.bool false))⟩, ⟨(some 21), none, .pick (T 10) (.const (.bool true)) (T 20)⟩, ⟨(some 4), none, .mov (T 21)⟩]) .ret))
theorem fok76 : FnOk Try.prog 76 22 s76 [.tmp 4] := ⟨Try.f76, _, Try.func76, rfl, Try.ntmps76, by kernel_rfl, by kernel_rfl⟩
theorem shorter_c {m k : Nat} (hn : 1010 ≤ n) (hm : m ≤ 1000) (hk : k ≤ 1000) {va vb : Value} {a b : Nat → Int} (ha : Ints h va m a) (hb : Ints h vb k b) : call n (.func (.func 76) #[] #[]) [va, vb] h = some (.bool (decide (Shortlex a m b k)), h) := by
  obtain ⟨n, rfl⟩ : ∃ p, n = p + 1 := ⟨n - 1, by omega⟩
  refine call_plain0 fok76 rfl rfl (by simp) rfl ?_
  have ha : Ints h.shutAll va m a := Cells.shut ha
  have hb : Ints h.shutAll vb k b := Cells.shut hb
  generalize h.shutAll = h at ha hb
  by_cases c1 : m < k
  · have c1' : (m : Int) < (k : Int) := by omega
    have hd : decide (Shortlex a m b k) = true := decide_eq_true (.inl c1)
    simp only [rn0, rn1, rn2, reduceIte, Nat.reduceEqDiff, Nat.reduceAdd, Nat.reduceMul, Nat.reduceSub, Nat.reduceLeDiff, Nat.reduceLT, s76, Cells.len ha, Cells.len hb, c1', hd, g_un]
  have c1' : ¬ (m : Int) < (k : Int) := by omega
  by_cases c : m = k
  · subst c
    have ec := before_c (n := n) (h := h) (by omega) hm ha hb
    have hd : decide (LexLt a b m) = decide (Shortlex a m b m) := decide_eq_decide.2 ⟨fun e => .inr ⟨rfl, e⟩, fun e => by
      rcases e with e | e
      · omega
      · exact e.2⟩
    rw [hd] at ec
    simp only [rn0, rn1, rn2, reduceIte, Nat.reduceEqDiff, Nat.reduceAdd, Nat.reduceMul, Nat.reduceSub, Nat.reduceLeDiff, Nat.reduceLT, s76, Cells.len ha, Cells.len hb, c1', ec, Int.lt_irrefl]
  · have c' : ¬ (m : Int) = (k : Int) := by omega
    have hd : decide (Shortlex a m b k) = false := decide_eq_false fun e => by rcases e with e | e <;> omega
    simp only [rn0, rn1, rn2, reduceIte, Nat.reduceEqDiff, Nat.reduceAdd, Nat.reduceMul, Nat.reduceSub, Nat.reduceLeDiff, Nat.reduceLT, s76, Cells.len ha, Cells.len hb, c1', c', hd]

theorem errQ_can {S : MB} {b : Nat} (hG : Good S) (hc : CanB S b) : errS (pickedS S b) = 0 := errS_zero.2 ⟨picked_good hG, picked_can.2 hc⟩
theorem errQ_no {S : MB} {b : Nat} (hG : Good S) (hc : ¬ CanB S b) : errS (pickedS S b) = 11 := by
  have h1 : truthsS (pickedS S b) = [] := Classical.byContradiction fun h => hc (picked_can.1 h)
  unfold errS
  rw [fault_of (picked_good hG), if_neg (by decide), if_pos h1]
def s22 : SCode := (.seq (.ops [⟨(some 2), none, .box (T 0)⟩, ⟨(some 4), none, .mov (.const (.bool false))⟩]) (.seq (.seq (.ops [⟨(some 14), none, .loadN 5 (T 2)⟩, ⟨(some 15), none, .call (.func 63) [(T 14)]⟩, ⟨(some 16), none, .not (T 15)⟩]) (.cond (T 16) (.seq (.ops [⟨(some 17), none, .call (.func 24) []⟩, ⟨(some 4), none, .mov (T 17)⟩]) .ret) .skip)) (.seq (.ops [⟨(some 19), none, .loadN 5 (T 2)⟩, ⟨(some 20), none, .call (.func 26) [(T 19)]⟩, ⟨(some 21), none, .call (.func 54) [(T 20)]⟩, ⟨(some 18), none, .mov (T 21)⟩, ⟨(some 22), none, .extract 0 (T 18)⟩, ⟨(some 23), none, .extract 1 (T 18)⟩, ⟨(some 5), none, .mov (T 22)⟩, ⟨(some 6), none, .mov (T 23)⟩]) (.seq (.seq (.ops [⟨(some 24), none, .mov (T 6)⟩, ⟨(some 25), none, .int2 .neq (T 24) (.const (.int .i64 (0)))⟩]) (.cond (T 25) (.seq (.ops [⟨(some 4), none, .mov (.const (.bool false))⟩]) .ret) .skip)) (.seq (.ops [⟨(some 7), none, .mov (.const (.int .i64 (0)))⟩]) (.seq (.seq (.ops [⟨(some 8), none, .mov (.const (.int .i64 (0)))⟩]) (.block 0 (.loop (.seq (.seq (.ops [⟨(some 26), none, .mov (T 8)⟩, ⟨(some 27), none, .mov (T 5)⟩, ⟨(some 28), none, .len (T 27)⟩, ⟨(some 29), none, .int2 .lss (T 26) (T 28)⟩]) (.cond (T 29) .skip (.exit 0))) (.seq (.block 1 (.seq (.seq (.draw [⟨.free, ⟨(some 32), none, .mov (T 5)⟩⟩, ⟨.free, ⟨(some 33), none, .mov (T 8)⟩⟩, ⟨.free, ⟨(some 34), none, .idxSl 1 (T 32) (T 33)⟩⟩, ⟨.rd1, ⟨(some 35), none, .load1 (T 34)⟩⟩, ⟨.free, ⟨(some 36), none, .fieldAddr 4 (T 2)⟩⟩, ⟨.rd1, ⟨(some 37), none, .load1 (T 36)⟩⟩, ⟨.free, ⟨(some 38), none, .len (T 37)⟩⟩, ⟨.free, ⟨(some 39), none, .int2 .sub (T 38) (.const (.int .i64 (1)))⟩⟩, ⟨.up, ⟨(some 40), none, .call (.func 39) [(T 35), (.const (.int .i64 (0))), (T 39)]⟩⟩, ⟨.free, ⟨(some 41), none, .not (T 40)⟩⟩, ⟨.free, ⟨(some 42), none, .mov (T 41)⟩⟩, ⟨.free, ⟨(some 43), (some (42, false)), .mov (T 8)⟩⟩, ⟨.free, ⟨(some 44), (some (42, false)), .int2 .gtr (T 43) (.const (.int .i64 (0)))⟩⟩, ⟨.free, ⟨(some 45), (some (42, false)), .mov (T 44)⟩⟩, ⟨.free, ⟨(some 46), (some (45, true)), .mov (T 5)⟩⟩, ⟨.free, ⟨(some 47), (some (45, true)), .mov (T 8)⟩⟩, ⟨.free, ⟨(some 48), (some (45, true)), .idxSl 1 (T 46) (T 47)⟩⟩, ⟨.rd1, ⟨(some 49), (some (45, true)), .load1 (T 48)⟩⟩, ⟨.free, ⟨(some 50), (some (45, true)), .mov (T 5)⟩⟩, ⟨.free, ⟨(some 51), (some (45, true)), .mov (T 8)⟩⟩, ⟨.free, ⟨(some 52), (some (45, true)), .int2 .sub (T 51) (.const (.int .i64 (1)))⟩⟩, ⟨.free, ⟨(some 53), (some (45, true)), .idxSl 1 (T 50) (T 52)⟩⟩, ⟨.rd1, ⟨(some 54), (some (45, true)), .load1 (T 53)⟩⟩, ⟨.free, ⟨(some 55), (some (45, true)), .int2 .leq (T 49) (T 54)⟩⟩, ⟨.free, ⟨(some 56), (some (42, false)), .pick (T 45) (T 55) (.const (.bool false))⟩⟩, ⟨.free, ⟨(some 57), none, .pick (T 42) (.const (.bool true)) (T 56)⟩⟩]) (.cond (T 57) (.seq (.ops [⟨(some 4), none, .mov (.const (.bool false))⟩]) .ret) .skip)) (.ops [⟨(some 58), none, .mov (T 7)⟩, ⟨(some 59), none, .mov (T 5)⟩, ⟨(some 60), none, .mov (T 8)⟩, ⟨(some 61), none, .idxSl 1 (T 59) (T 60)⟩, ⟨(some 62), none, .load1 (T 61)⟩, ⟨(some 63), none, .plain (.convert 3 117 (T 62)) 117⟩, ⟨(some 64), none, .plain (.binOp .shl 3 (.const (.int .i64 (1))) (T 63) 117) 3⟩, ⟨(some 65), none, .plain (.binOp .or 3 (T 58) (T 64) 3) 3⟩, ⟨(some 7), none, .mov (T 65)⟩]))) (.ops [⟨(some 30), none, .mov (T 8)⟩, ⟨(some 31), none, .int2 .add (T 30) (.const (.int .i64 (1)))⟩, ⟨(some 8), none, .mov (T 31)⟩])))))) (.seq (.ops [⟨(some 66), none, .mov (T 1)⟩, ⟨(some 67), none, .plain (.convert 5 3 (T 66)) 3⟩, ⟨(some 68), none, .loadN 5 (T 2)⟩, ⟨(some 69), none, .call (.func 75) [(T 68)]⟩, ⟨(some 70), none, .plain (.binOp .and 3 (T 67) (T 69) 3) 3⟩, ⟨(some 9), none, .mov (T 70)⟩]) (.seq (.draw [⟨.rd, ⟨(some 72), none, .loadN 5 (T 2)⟩⟩, ⟨.rd1, ⟨(some 73), none, .loadN 5 (T 2)⟩⟩, ⟨.up, ⟨(some 74), none, .call (.func 75) [(T 73)]⟩⟩, ⟨.free, ⟨(some 75), none, .mov (T 7)⟩⟩, ⟨.free, ⟨(some 76), none, .plain (.binOp .andNot 3 (T 74) (T 75) 3) 3⟩⟩, ⟨.any, ⟨(some 77), none, .call (.func 74) [(T 72), (T 76)]⟩⟩, ⟨.any, ⟨(some 78), none, .call (.func 26) [(T 77)]⟩⟩, ⟨.any, ⟨(some 79), none, .call (.func 36) [(T 78)]⟩⟩, ⟨.free, ⟨(some 71), none, .mov (T 79)⟩⟩, ⟨.free, ⟨(some 80), none, .extract 0 (T 71)⟩⟩, ⟨.free, ⟨(some 81), none, .extract 1 (T 71)⟩⟩, ⟨.free, ⟨(some 10), none, .mov (T 80)⟩⟩, ⟨.free, ⟨(some 11), none, .mov (T 81)⟩⟩]) (.seq (.draw [⟨.rd, ⟨(some 83), none, .loadN 5 (T 2)⟩⟩, ⟨.rd1, ⟨(some 84), none, .loadN 5 (T 2)⟩⟩, ⟨.up, ⟨(some 85), none, .call (.func 75) [(T 84)]⟩⟩, ⟨.free, ⟨(some 86), none, .mov (T 9)⟩⟩, ⟨.free, ⟨(some 87), none, .plain (.binOp .andNot 3 (T 85) (T 86) 3) 3⟩⟩, ⟨.any, ⟨(some 88), none, .call (.func 74) [(T 83), (T 87)]⟩⟩, ⟨.any, ⟨(some 89), none, .call (.func 26) [(T 88)]⟩⟩, ⟨.any, ⟨(some 90), none, .call (.func 36) [(T 89)]⟩⟩, ⟨.free, ⟨(some 82), none, .mov (T 90)⟩⟩, ⟨.free, ⟨(some 91), none, .extract 0 (T 82)⟩⟩, ⟨.free, ⟨(some 92), none, .extract 1 (T 82)⟩⟩, ⟨.free, ⟨(some 12), none, .mov (T 91)⟩⟩, ⟨.free, ⟨(some 13), none, .mov (T 92)⟩⟩]) (.seq (.ops [⟨(some 93), none, .mov (T 11)⟩, ⟨(some 94), none, .int2 .eql (T 93) (.const (.int .i64 (0)))⟩, ⟨(some 95), none, .mov (T 94)⟩, ⟨(some 96), (some (95, true)), .mov (T 13)⟩, ⟨(some 97), (some (95, true)), .int2 .eql (T 96) (.const (.int .i64 (11)))⟩, ⟨(some 98), (some (95, true)), .mov (T 97)⟩, ⟨(some 99), (some (98, false)), .mov (T 13)⟩, ⟨(some 100), (some (98, false)), .int2 .eql (T 99) (.const (.int .i64 (0)))⟩, ⟨(some 101), (some (98, false)), .mov (T 100)⟩, ⟨(some 102), (some (101, true)), .mov (T 9)⟩, ⟨(some 103), (some (101, true)), .call (.func 77) [(T 102)]⟩, ⟨(some 104), (some (101, true)), .mov (T 5)⟩, ⟨(some 105), (some (101, true)), .call (.func 76) [(T 103), (T 104)]⟩, ⟨(some 106), (some (101, true)), .not (T 105)⟩, ⟨(some 107), (some (98, false)), .pick (T 101) (T 106) (.const (.bool false))⟩, ⟨(some 108), (some (95, true)), .pick (T 98) (.const (.bool true)) (T 107)⟩, ⟨(some 109), none, .pick (T 95) (T 108) (.const (.bool false))⟩, ⟨(some 110), none, .mov (T 109)⟩, ⟨(some 111), (some (110, true)), .call (.func 24) []⟩, ⟨(some 112), none, .pick (T 110) (T 111) (.const (.bool false))⟩, ⟨(some 4), none, .mov (T 112)⟩]) .ret))))))))))
theorem fok22 : FnOk Try.prog 22 113 s22 [.tmp 4] := ⟨Try.f22, _, Try.func22, rfl, Try.ntmps22, by kernel_rfl, by kernel_rfl⟩
set_option maxHeartbeats 4000000 in
theorem leftL_c (hn : 1500 ≤ n) (hr : h.next + 400000 < far) (hfl : h.floor ≤ h.next) {vv sv : Value} {S : MB} (hy : BeatR h vv sv S) (a0 : Int) (wf1 : (Lit.int .u8 a0).wf = true) :
    ∃ v h', call n (.func (.func 22) #[] #[]) [.agg ⟨beL S vv sv⟩, .int .u8 a0] h = some (v, h') ∧ v = .bool true := by
  obtain ⟨n, rfl⟩ : ∃ p, n = p + 1 := ⟨n - 1, by omega⟩
  obtain ⟨a1, rfl, w1⟩ := wf8 wf1
  refine call_any0 fok22 rfl rfl (by simp) ?_
  simp only [s22, W_seq, W_ops]
  refine ops_box (cs := beL S vv sv) (by omega) rfl hy.one fun g1 hx1 => ?_
  have n1 := hx1.next
  have f1 := hx1.floor
  have hy1 := hy.mono hx1.sub
  have r1 := hx1.row
  have er := ready_c (n := n) (h := g1) (by omega) (by omega) hy1
  have haw := awake_c (n := n) (h := g1) (by omega)
  by_cases hTf : Rdy S
  case neg => simp only [rn0, rn1, rn2, reduceIte, Nat.reduceEqDiff, Nat.reduceAdd, Nat.reduceMul, Nat.reduceSub, Nat.reduceLeDiff, Nat.reduceLT, r1.whole (n := 5) rfl, er, hTf, g_un, haw]
  have hdt : decide (Rdy S) = true := decide_eq_true hTf
  obtain ⟨hth, hf⟩ := hTf
  have hG := good_of hf
  obtain ⟨z0, z1, z3, z7, _⟩ := hG.sizes
  obtain ⟨v2, s2, g2, e2, hy2, o2, u2, m2, f2⟩ := beatL_c (n := n) (h := g1) (by omega) (by omega) (by omega) hy1 hth
  obtain ⟨lv, g3, el, o3, u3, m3, f3, hL⟩ := leaveP_c (n := n) (h := g2) (by omega) (by omega) (by omega) hy2 hth
  rcases hL with ⟨h0, _⟩ | ⟨_, l, rfl, hl, _⟩
  · exact absurd hf h0
  have s3 : Sub All g1 g3 := (AHeap.subOf o2).trans (AHeap.subOf o3)
  have r3 := r1.mono s3
  have x3 := r3.whole (n := 5) rfl
  have hy3 := hy1.mono s3
  simp only [rn0, rn1, rn2, reduceIte, Nat.reduceEqDiff, Nat.reduceAdd, Nat.reduceMul, Nat.reduceSub, Nat.reduceLeDiff, Nat.reduceLT, Int.reduceEq, r1.whole (n := 5) rfl, er, hdt, e2, el, ex0, ex1]
  obtain ⟨L, hLL⟩ : ∃ L, L = leaveS S := ⟨_, rfl⟩
  have hat : ∀ i, i < L.length → ∃ j : Nat, j < S.ns ∧ atL L i = (j : Int) := fun i hi => by rw [hLL] at hi ⊢; exact leave_at hG hi
  have hupL : ∀ i, i + 1 < L.length → atL L i < atL L (i + 1) := fun i hi => by rw [hLL] at hi ⊢; exact leave_up hG hi
  have hl5 : L.length ≤ 5 := by rw [hLL]; have := leaveS_len hG; omega
  rw [← hLL] at hl
  have hblt : ∀ k, k ≤ L.length → bitsOf L k < 2 ^ 10 := fun k hk => bitsOf_lt fun i hi => by obtain ⟨j, j1, j2⟩ := hat i (by omega); rw [j2]; simp; omega
  refine W_loop L.length (fun k f g ms => g = g3 ∧ ms = [] ∧ f 1 = .int .u8 (a1 : Int) ∧ f 2 = .pointer (some ⟨h.next, 0, none⟩) ∧ f 5 = l ∧ f 7 = .int .i64 ((bitsOf L k : Nat) : Int) ∧ f 8 = .int .i64 (k : Int)) (by simp; omega) ?_ ?_ ?_
  · have b0 : ((bitsOf L 0 : Nat) : Int) = 0 := rfl
    simp only [rn0, rn1, rn2, reduceIte, Nat.reduceEqDiff, Nat.reduceAdd, Nat.reduceMul, Nat.reduceSub, Nat.reduceLeDiff, Nat.reduceLT, Int.natCast_zero, b0]
  · rintro k f g ms hk ⟨rfl, rfl, p1, p2, p5, p7, p8⟩
    have hk' : (k : Int) < (L.length : Int) := by omega
    have hw : wrapF .i64 ((k : Int) + 1) = ((k + 1 : Nat) : Int) := by rw [wrap_in (by omega) (by omega)]; rfl
    obtain ⟨j, j1, j2⟩ := hat k hk
    have lk := Cells.ld hl hk Nat.zero_lt_one
    rw [j2] at lk
    have hwn : wrapF .i64 ((S.ns : Int) - 1) = (S.ns : Int) - 1 := wrap_in (by omega) (by omega)
    have hin := in_c (n := n) (h := g) (by omega) (j : Int) 0 ((S.ns : Int) - 1)
    have hin' : decide (0 ≤ (j : Int) ∧ (j : Int) ≤ (S.ns : Int) - 1) = true := decide_eq_true (by omega)
    rw [hin'] at hin
    have hbk := hblt k (by omega)
    have hb2 : bitsOf L k ||| 2 ^ j = bitsOf L (k + 1) := by rw [bitsOf, j2]; simp
    have h2j : (2 ^ j : Nat) < 2 ^ 62 := Nat.pow_lt_pow_right (by omega) (by omega)
    have hor : ∀ other, run2 orF other (.int .i64 ((bitsOf L k : Nat) : Int)) (.int .i64 ((2 ^ j : Nat) : Int)) g = some (.int .i64 ((bitsOf L (k + 1) : Nat) : Int), g) := fun other => by rw [← hb2]; exact r_or (by omega) h2j
    simp only [rn0, rn1, rn2, reduceIte, Nat.reduceEqDiff, Nat.reduceAdd, Nat.reduceMul, Nat.reduceSub, Nat.reduceLeDiff, Nat.reduceLT, p1, p2, p5, p7, p8, Cells.len hl, hk']
    refine W_draw All ?_
    by_cases hk0 : k = 0
    · have hk0' : ¬ (0 : Int) < (k : Int) := by omega
      simp only [rn0, rn1, rn2, reduceIte, Nat.reduceEqDiff, Nat.reduceAdd, Nat.reduceMul, Nat.reduceSub, Nat.reduceLeDiff, Nat.reduceLT, p1, p2, p5, p7, p8, d_guard, dg_tt, dg_tf, dg_ft, dg_ff, dg_un, r3.ld, beg, Nat.zero_add, Cells.idx hl hk, lk, hwn, hin, gt_iff_lt, Cells.len hy3.s, hk0', p_uint, r_conv (k := j) (by omega), r_shl (k := j) (by omega), p_or, hor, valN_tmp, valN_const, hw]
    · have hk0' : (0 : Int) < (k : Int) := by omega
      obtain ⟨i, hi⟩ : ∃ i, k = i + 1 := ⟨k - 1, by omega⟩
      have hw1 : wrapF .i64 ((k : Int) - 1) = (i : Int) := by rw [wrap_in (by omega) (by omega)]; omega
      have li := Cells.ld hl (k := i) (by omega) Nat.zero_lt_one
      have hlt := hupL i (by omega)
      rw [← hi, j2] at hlt
      have hle : ¬ (j : Int) ≤ atL L i := by omega
      simp only [rn0, rn1, rn2, reduceIte, Nat.reduceEqDiff, Nat.reduceAdd, Nat.reduceMul, Nat.reduceSub, Nat.reduceLeDiff, Nat.reduceLT, p1, p2, p5, p7, p8, d_guard, dg_tt, dg_tf, dg_ft, dg_ff, dg_un, r3.ld, beg, Nat.zero_add, Cells.idx hl hk, lk, hwn, hin, gt_iff_lt, Cells.len hy3.s, hk0', hw1, Cells.idx hl (k := i) (by omega), li, hle, p_uint, r_conv (k := j) (by omega), r_shl (k := j) (by omega), p_or, hor, valN_tmp, valN_const, hw]
  · rintro f g ms ⟨rfl, rfl, p1, p2, p5, p7, p8⟩
    have hbl := hblt L.length (Nat.le_refl _)
    have efull := full_c (n := n) (h := g) (by omega) (by omega) hy3 (by omega)
    have hp : (2 ^ S.ns : Nat) ≤ 2 ^ 5 := Nat.pow_le_pow_right (by omega) z7
    have hp0 : 0 < (2 ^ S.ns : Nat) := Nat.pow_pos (by omega)
    obtain ⟨Fu, hFu⟩ : ∃ F, F = 2 ^ S.ns - 1 := ⟨_, rfl⟩
    have hFl : Fu < 2 ^ 62 := by omega
    obtain ⟨nb, hnb⟩ : ∃ b, b = a1 &&& Fu := ⟨_, rfl⟩
    have hnl : nb < 2 ^ S.ns := by rw [hnb, hFu]; exact Nat.lt_of_le_of_lt Nat.and_le_right (by omega)
    have hand : ∀ other g, run2 andF other (.int .i64 (a1 : Int)) (.int .i64 (Fu : Int)) g = some (.int .i64 (nb : Int), g) := fun other g => by rw [hnb]; exact r_and (by omega) hFl
    obtain ⟨Bv, hBv⟩ : ∃ b, b = bitsOf L L.length := ⟨_, rfl⟩
    rw [← hBv] at p7
    rw [← hFu] at efull
    have c1 : CanB S (offN Fu Bv) := by rw [hFu, hBv, hLL]; exact left_f hG
    obtain ⟨q4, g4, e4, hy4, o4, u4, m4, f4⟩ := some_c (n := n) (h := g) (bits := offN Fu Bv) (by omega) (by omega) (by omega) hy3 z7
    obtain ⟨v5, s5, g5, e5, hy5, o5, u5, m5, f5⟩ := beatL_c (n := n) (h := g4) (by omega) (by omega) (by omega) hy4 (picked_thin hth)
    obtain ⟨r6, g6, e6, b6, oo6, o6, u6, m6, f6⟩ := boundsV_c (n := n) (h := g5) (by omega) (by omega) (by omega) hy5 (picked_thin hth)
    rw [errQ_can hG c1] at e6
    have s46 : Sub All g g6 := (AHeap.subOf o4).trans ((AHeap.subOf o5).trans (AHeap.subOf o6))
    have hy6 := hy3.mono s46
    have x6 := (r3.mono s46).whole (n := 5) rfl
    have efull6 := full_c (n := n) (h := g6) (by omega) (by omega) hy6 (by omega)
    rw [← hFu] at efull6
    obtain ⟨q7, g7, e7, hy7, o7, u7, m7, f7⟩ := some_c (n := n) (h := g6) (bits := offN Fu nb) (by omega) (by omega) (by omega) hy6 z7
    obtain ⟨v8, s8, g8, e8, hy8, o8, u8, m8, f8⟩ := beatL_c (n := n) (h := g7) (by omega) (by omega) (by omega) hy7 (picked_thin hth)
    obtain ⟨r9, g9, e9, b9, oo9, o9, u9, m9, f9⟩ := boundsV_c (n := n) (h := g8) (by omega) (by omega) (by omega) hy8 (picked_thin hth)
    have s9 : Sub All g g9 := s46.trans ((AHeap.subOf o7).trans ((AHeap.subOf o8).trans (AHeap.subOf o9)))
    simp only [rn0, rn1, rn2, reduceIte, Nat.reduceEqDiff, Nat.reduceAdd, Nat.reduceMul, Nat.reduceSub, Nat.reduceLeDiff, Nat.reduceLT, p1, p2, p5, p7, p8, Cells.len hl, Int.lt_irrefl, p_conv8, r_8 w1, valN_tmp, valN_const, x3, efull, p_and, hand]
    refine W_draw All ?_
    simp only [rn0, rn1, rn2, reduceIte, Nat.reduceEqDiff, Nat.reduceAdd, Nat.reduceMul, Nat.reduceSub, Nat.reduceLeDiff, Nat.reduceLT, p1, p2, p5, p7, p8, x3, hy3.self, efull, p_andNot, r_andNot (a := Fu) (b := Bv) hFl, valN_tmp, valN_const, e4, e5, e6, ex0, ex1]
    refine ⟨u4, u5, u6, ?_⟩
    refine W_draw All ?_
    simp only [rn0, rn1, rn2, reduceIte, Nat.reduceEqDiff, Nat.reduceAdd, Nat.reduceMul, Nat.reduceSub, Nat.reduceLeDiff, Nat.reduceLT, p1, p2, p5, p7, p8, x6, hy6.self, efull6, p_andNot, r_andNot (a := Fu) (b := nb) hFl, valN_tmp, valN_const, e7, e8, e9, ex0, ex1]
    refine ⟨u7, u8, u9, ?_⟩
    by_cases c2 : CanB S (offN Fu nb)
    · rw [errQ_can hG c2]
      obtain ⟨bs, g10, eb10, hb10, ho10, n10, u10, f10⟩ := bits_c (n := n) (h := g9) (b := nb) (B := S.ns) (by omega) (by omega) (by omega) hnl (by omega)
      have s10 : Sub All g g10 := s9.trans (AHeap.subOf ho10)
      have hl10 := Cells.mono hl s10
      have hpl := pick_len (p := Bit nb) S.ns
      have esh := shorter_c (n := n) (h := g10) (by omega) (by omega) (by omega) hb10 hl10
      have hsh : decide (Shortlex (atL (pickL (Bit nb) S.ns)) (pickL (Bit nb) S.ns).length (atL L) L.length) = false := decide_eq_false (by rw [hLL]; exact left_g hG (by rw [← hFu]; exact c2))
      rw [hsh] at esh
      have hawz := awake_c (n := n) (h := g10) (by omega)
      simp only [rn0, rn1, rn2, reduceIte, Nat.reduceEqDiff, Nat.reduceAdd, Nat.reduceMul, Nat.reduceSub, Nat.reduceLeDiff, Nat.reduceLT, p1, p2, p5, p7, p8, Int.reduceEq, g_un, eb10, esh, hawz]
    · rw [errQ_no hG c2]
      have hawz := awake_c (n := n) (h := g9) (by omega)
      simp only [rn0, rn1, rn2, reduceIte, Nat.reduceEqDiff, Nat.reduceAdd, Nat.reduceMul, Nat.reduceSub, Nat.reduceLeDiff, Nat.reduceLT, p1, p2, p5, p7, p8, Int.reduceEq, g_un, hawz]
end Go.Vm.Bt
