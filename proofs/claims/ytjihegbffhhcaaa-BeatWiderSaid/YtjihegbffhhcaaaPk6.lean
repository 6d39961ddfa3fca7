/- Texts of the proofs of this seat, put together: BtIter, BtOpen, BtBnds. -/
import Derived.Test.YtjihegbffhhcaaaPk5

namespace Go.Vm.Bt
open Go.Proofs Go.Vm.Vat Go.Vm.L2
set_option linter.unusedSimpArgs false
set_option linter.unusedVariables false
set_option maxRecDepth 10000
variable {n : Nat} {h : AHeap}
def OkU (S : MB) (i : Nat) (c : Nat → Int) : Prop := (∀ j, j < i → uLo S j ≤ c j ∧ c j ≤ uHi S j) ∧ ∀ j, numU S ≤ j → c j = 0
def ndL (S : MB) (c : Nat → Int) : List Value := (List.range S.nv).map fun v => .int .i64 (c (v + 1))
theorem ndL_len {S : MB} {c : Nat → Int} : (ndL S c).length = S.nv := by simp [ndL]
theorem ndL_one {S : MB} {c : Nat → Int} : allB oneCell (ndL S c) = true := by rw [allB_iff]; intro v hv; obtain ⟨i, _, rfl⟩ := List.mem_map.1 hv; rfl
theorem ndL_congr {S : MB} {c c' : Nat → Int} (h : ∀ j, 1 ≤ j → j ≤ S.nv → c j = c' j) : ndL S c = ndL S c' := by
  unfold ndL
  apply List.map_congr_left
  intro v hv
  rw [h (v + 1) (by omega) (by have := List.mem_range.1 hv; omega)]
theorem ndL_set {S : MB} {c : Nat → Int} {i : Nat} (hi : i < S.nv) {x : Int} : splice (ndL S c) i [.int .i64 x] = ndL S (setU c (i + 1) x) := by
  refine map_splice (by simp; omega) (fun j hj hc => ?_) (fun j hj => ?_)
  · simp only [List.length_cons, List.length_nil] at hc
    simp only [setU]
    rw [if_neg (by omega)]
  · simp only [List.length_cons, List.length_nil] at hj
    obtain rfl : j = 0 := by omega
    simp [setU]
theorem ndL_ints {S : MB} {c : Nat → Int} {g : AHeap} {b k gr : Nat} {w : Bool} (hg : g.get b = some (.row (ndL S c) w gr)) : Ints g (.slice (some ⟨b, 0, none⟩) S.nv k) S.nv fun v => c (v + 1) :=
  ⟨_, _, rfl, fun x e => by cases e; rfl, .inr ⟨b, 0, _, _, _, rfl, hg, fun v j hv hj => by
    obtain rfl : j = 0 := by omega
    rw [Nat.zero_add, Nat.mul_one, Nat.add_zero, ndL, List.getElem?_map, List.getElem?_range hv]; rfl⟩⟩
theorem build_co {x : Int} {a : Option Addr} {m k : Nat} : buildA (fun x => (#[(0, 1), (1, 1)] : Array (Nat × Nat))[x]?) ⟨[.int .i64 0, .slice none 0 0]⟩ [0, 1] h [.int .i64 x, .slice a m k] = some (.agg ⟨coL x (.slice a m k)⟩, h) := id rfl
section
variable {σ : Type} {Own : AHeap → Nat → Prop}
def chooseV (pn py pw pc : Nat) : Value := .func (.func 132) ⟨[]⟩ ⟨[.pointer (some ⟨pn, 0, none⟩), .pointer (some ⟨py, 0, none⟩), .pointer (some ⟨pw, 0, none⟩), .pointer (some ⟨pc, 0, none⟩)]⟩
structure ItS (Own : AHeap → Nat → Prop) (S : MB) (vv sv tv : Value) (pn py pw pc nb : Nat) (yv : Value) (g : AHeap) : Prop where
  u : Row g pn [.slice (some ⟨nb, 0, none⟩) S.nv S.nv]
  y : Row g py [yv]
  w : Row g pw (wkL S vv sv tv)
  c : Row g pc [chooseV pn py pw pc]
  ou : Own g pn
  oy : Own g py
  ow : Own g pw
  oc : Own g pc
theorem ItS.fr {S : MB} {vv sv tv : Value} {pn py pw pc nb : Nat} {yv : Value} {g g' : AHeap} (hi : ItS Own S vv sv tv pn py pw pc nb yv g) (hf : FrO Own g g') : ItS Own S vv sv tv pn py pw pc nb yv g' := by
  obtain ⟨a1, b1⟩ := hf _ _ hi.u hi.ou
  obtain ⟨a2, b2⟩ := hf _ _ hi.y hi.oy
  obtain ⟨a3, b3⟩ := hf _ _ hi.c hi.oc
  obtain ⟨a4, b4⟩ := hf _ _ hi.w hi.ow
  exact ⟨a1, a2, a4, a3, b1, b2, b4, b3⟩
structure More (g g' : AHeap) : Prop where
  old : ∀ i, i < g.next → g'.get i = g.get i
  up : g.next ≤ g'.next
  floor : g'.floor = g.floor
theorem More.sub {g g' : AHeap} (hm : More g g') : Sub All g g' := AHeap.subOf hm.old
def s132 : SCode := (.seq (.ops [⟨(some 8), none, .mov (.const (.bool false))⟩]) (.seq (.seq (.ops [⟨(some 10), none, .mov (T 1)⟩, ⟨(some 11), none, .load1 (T 2)⟩, ⟨(some 12), none, .len (T 11)⟩, ⟨(some 13), none, .int2 .eql (T 10) (T 12)⟩]) (.cond (T 13) (.seq (.draw [⟨.rd, ⟨(some 14), none, .load1 (T 3)⟩⟩, ⟨.free, ⟨(some 15), none, .mov (T 0)⟩⟩, ⟨.rd1, ⟨(some 16), none, .load1 (T 2)⟩⟩, ⟨.up, ⟨(some 17), none, .call (.func 127) [(T 16)]⟩⟩, ⟨.free, ⟨(some 18), none, .build #[(0, 1), (1, 1)] [(.int .i64 (0)), (.slice none 0 0)] [0, 1] [(T 15), (T 17)]⟩⟩, ⟨.any, ⟨(some 19), none, .call (T 14) [(T 18)]⟩⟩, ⟨.free, ⟨(some 8), none, .mov (T 19)⟩⟩]) .ret) .skip)) (.seq (.seq (.ops [⟨(some 20), none, .fieldAddr 0 (T 4)⟩, ⟨(some 21), none, .fieldAddr 2 (T 20)⟩, ⟨(some 22), none, .load1 (T 21)⟩, ⟨(some 23), none, .mov (T 1)⟩, ⟨(some 24), none, .idxSl 4 (T 22) (T 23)⟩, ⟨(some 25), none, .fieldAddr 0 (T 24)⟩, ⟨(some 26), none, .loadN 2 (T 25)⟩, ⟨(some 27), none, .call (.func 117) [(T 26)]⟩, ⟨(some 28), none, .mov (.const (.int .i64 (0)))⟩]) (.block 0 (.loop (.seq (.ops [⟨(some 29), none, .int2 .lss (T 28) (T 27)⟩]) (.seq (.cond (T 29) .skip (.exit 0)) (.seq (.block 1 (.seq (.ops [⟨(some 30), none, .mov (T 28)⟩, ⟨(some 9), none, .mov (T 30)⟩]) (.seq (.draw [⟨.rd1, ⟨(some 31), none, .load1 (T 2)⟩⟩, ⟨.free, ⟨(some 32), none, .mov (T 1)⟩⟩, ⟨.free, ⟨(some 33), none, .fieldAddr 0 (T 4)⟩⟩, ⟨.free, ⟨(some 34), none, .fieldAddr 2 (T 33)⟩⟩, ⟨.rd1, ⟨(some 35), none, .load1 (T 34)⟩⟩, ⟨.free, ⟨(some 36), none, .mov (T 1)⟩⟩, ⟨.free, ⟨(some 37), none, .idxSl 4 (T 35) (T 36)⟩⟩, ⟨.free, ⟨(some 38), none, .fieldAddr 0 (T 37)⟩⟩, ⟨.free, ⟨(some 39), none, .fieldAddr 0 (T 38)⟩⟩, ⟨.rd1, ⟨(some 40), none, .load1 (T 39)⟩⟩, ⟨.free, ⟨(some 41), none, .mov (T 9)⟩⟩, ⟨.free, ⟨(some 42), none, .int2 .add (T 40) (T 41)⟩⟩, ⟨.free, ⟨(some 43), none, .idxSl 1 (T 31) (T 32)⟩⟩, ⟨.any, ⟨none, none, .store 1 (T 43) (T 42)⟩⟩]) (.seq (.ops [⟨(some 44), none, .load1 (T 5)⟩, ⟨(some 45), none, .mov (T 0)⟩, ⟨(some 46), none, .mov (T 1)⟩, ⟨(some 47), none, .int2 .add (T 46) (.const (.int .i64 (1)))⟩, ⟨(some 48), none, .call (T 44) [(T 45), (T 47)]⟩, ⟨(some 49), none, .not (T 48)⟩]) (.cond (T 49) (.seq (.ops [⟨(some 8), none, .mov (.const (.bool false))⟩]) .ret) .skip))))) (.ops [⟨(some 50), none, .int2 .add (T 28) (.const (.int .i64 (1)))⟩, ⟨(some 28), none, .mov (T 50)⟩]))))))) (.seq (.ops [⟨(some 8), none, .mov (.const (.bool true))⟩]) .ret))))
theorem fok132 : FnOk Try.prog 132 51 s132 [.tmp 8] := ⟨Try.f132, _, Try.func132, rfl, Try.ntmps132, by kernel_rfl, by kernel_rfl⟩
set_option maxHeartbeats 1000000 in
theorem choose_c (step : σ → (Nat → Int) → σ × Bool) (J : σ → AHeap → Prop) {S : MB} {vv sv tv : Value} {pn py pw pc nb K N0 fl : Nat} {yv : Value} (hG : Good S)
    (hyv : eqV yv yv = true) (hOb : ∀ g q, Own g q → q ≠ nb) (hfl : fl ≤ nb) (hN : 200 ≤ N0)
    (hJy : ∀ s g, J s g → BeatR g vv sv S)
    (hJs : ∀ s g g' cs, J s g → Set1 g g' nb cs 0 → J s g') (hJn : ∀ s g g', J s g → More g g' → J s g')
    (hOs : ∀ s g g' cs q, J s g → Set1 g g' nb cs 0 → Own g q → Own g' q) (hOn : ∀ s g g' q, J s g → More g g' → Own g q → Own g' q)
    (hY : ∀ n g s c cw, N0 ≤ n → ItS Own S vv sv tv pn py pw pc nb yv g → g.get nb = some (.row (ndL S c) true 0) → OkU S (numU S) c → J s g → CouR g cw S c → oneCell cw = true → g.floor = fl → g.next + K < far →
      ∃ g', call n yv [.agg ⟨coL (c 0) cw⟩] g = some (.bool (step s c).2, g') ∧ J (step s c).1 g' ∧ FrO Own g g' ∧ g'.get nb = some (.row (ndL S c) true 0) ∧ g'.floor = fl ∧ g.next ≤ g'.next ∧ g'.next ≤ g.next + K) :
    ∀ (d i n : Nat) (g : AHeap) (s : σ) (c : Nat → Int), i + d = S.nv → N0 + d + 1 ≤ n → ItS Own S vv sv tv pn py pw pc nb yv g → g.get nb = some (.row (ndL S c) true 0) → OkU S (i + 1) c → J s g → g.floor = fl → g.next + (K + 4) * (enumB (uLo S) (uHi S) d (i + 1) c).length < far →
      ∃ g', call n (chooseV pn py pw pc) [.int .i64 (c 0), .int .i64 (i : Int)] g = some (.bool (runL step s (enumB (uLo S) (uHi S) d (i + 1) c)).2, g') ∧ J (runL step s (enumB (uLo S) (uHi S) d (i + 1) c)).1 g' ∧ FrO Own g g' ∧
        (∃ c', g'.get nb = some (.row (ndL S c') true 0) ∧ ∀ j, j < i + 1 ∨ i + 1 + d ≤ j → c' j = c j) ∧ g'.floor = fl ∧ g.next ≤ g'.next ∧ g'.next ≤ g.next + (K + 4) * (enumB (uLo S) (uHi S) d (i + 1) c).length := by
  obtain ⟨_, _, z3, _⟩ := hG.sizes
  have hnu : numU S = S.nv + 1 := rfl
  intro d
  induction d with
  | zero =>
    intro i n g s c hi' hn hit hb hok hj hfg hr
    obtain ⟨n, rfl⟩ : ∃ p, n = p + 1 := ⟨n - 1, by omega⟩
    simp only [enumB, List.length_singleton, Nat.mul_one, Nat.add_zero] at hr ⊢
    have hin : (i : Int) = (S.nv : Int) := by omega
    have hrun : runL step s [c] = step s c := by
      simp only [runL]
      by_cases e : (step s c).2 = true
      · simp only [e, if_true]; exact (Prod.ext rfl e.symm)
      · simp only [e, Bool.false_eq_true, if_false]; exact (Prod.ext rfl (by simpa using (Bool.eq_false_iff.2 e).symm))
    rw [hrun]
    obtain ⟨cw, g1, e1, hc1, o1, old1, u1, m1, f1, _⟩ := clone_c (n := n) (h := g) (v := .slice (some ⟨nb, 0, none⟩) S.nv S.nv) (by omega) (by omega) (ndL_ints hb) (by omega)
    have hm1 : More g g1 := ⟨old1, u1, f1⟩
    have fr1 : FrO Own g g1 := fun q cs a b => ⟨a.mono hm1.sub, hOn s g g1 q hj hm1 b⟩
    obtain ⟨g', e, q1, q2, q3, q4, q5, q6⟩ := hY n g1 s c cw (by omega) (hit.fr fr1) (by rw [old1 _ (AHeap.lt_of_get hb)]; exact hb) (show OkU S (numU S) c from (show i + 1 = numU S by omega) ▸ hok) (hJn _ _ _ hj hm1) hc1 o1 (by rw [f1, hfg]) (by omega)
    obtain ⟨ax, ak, rfl⟩ := ints_slice hc1
    suffices hs : ∃ v g2, call (n + 1) (chooseV pn py pw pc) [.int .i64 (c 0), .int .i64 (i : Int)] g = some (v, g2) ∧ v = .bool (step s c).2 ∧ g2 = g' by
      obtain ⟨v, g2, e2, rfl, rfl⟩ := hs
      exact ⟨_, e2, q1, fr1.trans q2, ⟨c, q3, fun _ _ => rfl⟩, q4, by omega, by omega⟩
    refine call_any (xs := []) (ys := [.pointer (some ⟨pn, 0, none⟩), .pointer (some ⟨py, 0, none⟩), .pointer (some ⟨pw, 0, none⟩), .pointer (some ⟨pc, 0, none⟩)]) fok132 rfl rfl (by simp) ?_
    simp only [rn0, rn1, rn2, rn3, rn4, rn5, rn6, rn7, rn8, if_true, if_false, Nat.le_refl, true_and, and_true, decide_true, decide_false, Bool.not_true, Bool.not_false, reduceIte, Nat.reduceEqDiff, Nat.reduceAdd, Nat.reduceMul, Nat.reduceSub, Nat.reduceLeDiff, Nat.reduceLT, s132, List.cons_append, List.nil_append, hit.u.ld, Nat.zero_add, List.getElem?_cons_zero, List.getElem?_cons_succ, len_slice, hin]
    refine W_draw All ?_
    simp only [rn0, rn1, rn2, rn3, rn4, rn5, rn6, rn7, rn8, if_true, if_false, Nat.le_refl, true_and, and_true, decide_true, decide_false, Bool.not_true, Bool.not_false, reduceIte, Nat.reduceEqDiff, Nat.reduceAdd, Nat.reduceMul, Nat.reduceSub, Nat.reduceLeDiff, Nat.reduceLT, hit.u.ld, hit.y.ld, Nat.zero_add, List.getElem?_cons_zero, List.getElem?_cons_succ, e1, build_co, e]
    exact ⟨hyv, ⟨u1, hm1.sub⟩, q5⟩
  | succ d ih =>
    intro i n g s c hi' hn hit hb hok hj hfg hr
    obtain ⟨n, rfl⟩ : ∃ p, n = p + 1 := ⟨n - 1, by omega⟩
    have hin : ¬ (i : Int) = (S.nv : Int) := by omega
    have hk : i < S.nv := by omega
    obtain ⟨v1, v2, v3⟩ := hG.u (i + 1) (by omega)
    have el : uLo S (i + 1) = S.nlo i := uLo_succ
    have eh : uHi S (i + 1) = S.nhi i := uHi_succ
    suffices hs : ∃ v g1, call (n + 1) (chooseV pn py pw pc) [.int .i64 (c 0), .int .i64 (i : Int)] g = some (v, g1) ∧ v = .bool (runL step s (enumB (uLo S) (uHi S) (d + 1) (i + 1) c)).2 ∧ J (runL step s (enumB (uLo S) (uHi S) (d + 1) (i + 1) c)).1 g1 ∧ FrO Own g g1 ∧
        (∃ c', g1.get nb = some (.row (ndL S c') true 0) ∧ ∀ j, j < i + 1 ∨ i + 1 + (d + 1) ≤ j → c' j = c j) ∧ g1.floor = fl ∧ g.next ≤ g1.next ∧ g1.next ≤ g.next + (K + 4) * (enumB (uLo S) (uHi S) (d + 1) (i + 1) c).length by
      obtain ⟨v, g1, e1, rfl, h2⟩ := hs
      exact ⟨g1, e1, h2⟩
    refine call_any (xs := []) (ys := [.pointer (some ⟨pn, 0, none⟩), .pointer (some ⟨py, 0, none⟩), .pointer (some ⟨pw, 0, none⟩), .pointer (some ⟨pc, 0, none⟩)]) fok132 rfl rfl (by simp) ?_
    let part : Nat → List (Nat → Int) := fun k => enumB (uLo S) (uHi S) d (i + 1 + 1) fun j => if j = i + 1 then uLo S (i + 1) + (k : Int) else c j
    have hen : enumB (uLo S) (uHi S) (d + 1) (i + 1) c = (List.range (uHi S (i + 1) - uLo S (i + 1) + 1).toNat).flatMap part := rfl
    have hm : ((uHi S (i + 1) - uLo S (i + 1) + 1).toNat : Int) = uHi S (i + 1) - uLo S (i + 1) + 1 := Int.toNat_of_nonneg (by omega)
    have hpos := enumB_pos (lo := uLo S) (hi := uHi S) (d + 1) (i + 1) c fun k h1 h2 => (hG.u k (by omega)).2.1
    rw [hen] at hr hpos ⊢
    generalize hmm : (uHi S (i + 1) - uLo S (i + 1) + 1).toNat = m at hm hr hpos
    obtain ⟨X, hX⟩ : ∃ X, X = K + 4 := ⟨_, rfl⟩
    rw [← hX] at hr ⊢
    rw [← hX] at ih
    have hXp : 4 ≤ X * ((List.range m).flatMap part).length := Nat.le_trans (by omega) (Nat.mul_le_mul (show 4 ≤ X by omega) hpos)
    have hyg := hJy _ _ hj
    have es := rsize_ok (n := n) (h := g) (by omega) (by omega) (lo := S.nlo i) (hi := S.nhi i) (by omega) (by omega) (by omega)
    rw [el, eh] at hm
    rw [← hm] at es
    simp only [rn0, rn1, rn2, rn3, rn4, rn5, rn6, rn7, rn8, if_true, if_false, Nat.le_refl, true_and, and_true, decide_true, decide_false, Bool.not_true, Bool.not_false, reduceIte, Nat.reduceEqDiff, Nat.reduceAdd, Nat.reduceMul, Nat.reduceSub, Nat.reduceLeDiff, Nat.reduceLT, s132, List.cons_append, List.nil_append, hit.u.ld, hit.w.ld, wkg, Nat.zero_add, List.getElem?_cons_zero, List.getElem?_cons_succ, len_slice, hin, Cells.idx hyg.v hk, Cells.fld hyg.v hk, need_ld hyg hk, es]
    refine W_loop m (fun k f g1 ms => (FrO Own g g1 ∧ (∃ c', g1.get nb = some (.row (ndL S c') true 0) ∧ ∀ j, j < i + 1 ∨ i + 1 + (d + 1) ≤ j → c' j = c j) ∧ J (runL step s ((List.range k).flatMap part)).1 g1 ∧ (runL step s ((List.range k).flatMap part)).2 = true ∧
      g1.floor = fl ∧ g.next ≤ g1.next ∧ g1.next ≤ g.next + X * ((List.range k).flatMap part).length) ∧ ms = [] ∧ f 0 = .int .i64 (c 0) ∧ f 1 = .int .i64 (i : Int) ∧ f 2 = .pointer (some ⟨pn, 0, none⟩) ∧ f 4 = .pointer (some ⟨pw, 0, none⟩) ∧ f 5 = .pointer (some ⟨pc, 0, none⟩) ∧ f 27 = .int .i64 (m : Int) ∧ f 28 = .int .i64 (k : Int)) (by simp; omega) ?_ ?_ ?_
    · simp only [rn0, rn1, rn2, rn3, rn4, rn5, rn6, rn7, rn8, if_true, if_false, Nat.le_refl, true_and, and_true, decide_true, decide_false, Bool.not_true, Bool.not_false, reduceIte, Nat.reduceEqDiff, Nat.reduceAdd, Nat.reduceMul, Nat.reduceSub, Nat.reduceLeDiff, Nat.reduceLT, Int.natCast_zero]
      simp only [List.range_zero, List.flatMap_nil, runL, List.length_nil, Nat.mul_zero, Nat.add_zero, Nat.le_refl, and_true]
      exact ⟨.refl, ⟨c, hb, fun _ _ => rfl⟩, hj, trivial, hfg⟩
    · rintro k f g1 ms hkm ⟨⟨fr1, ⟨c', hb1, hc'⟩, hj1, hr1, hf1, hu1, hn1⟩, rfl, f0, f1, f2, f4, f5, f27, f28⟩
      have hkm' : (k : Int) < (m : Int) := by omega
      have hlt := AHeap.lt_of_get hb1
      have it1 := hit.fr fr1
      obtain ⟨rest, hpart⟩ := part_flat part hkm
      have hlen : ((List.range m).flatMap part).length = ((List.range k).flatMap part).length + ((part k).length + rest.length) := by rw [hpart]; simp
      have hKm : X * ((List.range m).flatMap part).length = X * ((List.range k).flatMap part).length + (X * (part k).length + X * rest.length) := by rw [hlen, Nat.mul_add, Nat.mul_add]
      have hy1 := hJy _ _ hj1
      have hwa : wrapF .i64 (S.nlo i + (k : Int)) = uLo S (i + 1) + (k : Int) := by rw [← el]; exact wrap_in (by omega) (by omega)
      have hit1 := ndL_ints (k := S.nv) hb1
      simp only [rn0, rn1, rn2, rn3, rn4, rn5, rn6, rn7, rn8, if_true, if_false, Nat.le_refl, true_and, and_true, decide_true, decide_false, Bool.not_true, Bool.not_false, reduceIte, Nat.reduceEqDiff, Nat.reduceAdd, Nat.reduceMul, Nat.reduceSub, Nat.reduceLeDiff, Nat.reduceLT, f0, f1, f2, f4, f5, f27, f28, hkm']
      refine W_draw All ?_
      simp only [rn0, rn1, rn2, rn3, rn4, rn5, rn6, rn7, rn8, if_true, if_false, Nat.le_refl, true_and, and_true, decide_true, decide_false, Bool.not_true, Bool.not_false, reduceIte, Nat.reduceEqDiff, Nat.reduceAdd, Nat.reduceMul, Nat.reduceSub, Nat.reduceLeDiff, Nat.reduceLT, f0, f1, f2, f4, f5, f27, f28, it1.u.ld, it1.w.ld, wkg, Nat.zero_add, List.getElem?_cons_zero, List.getElem?_cons_succ, Cells.idx hy1.v hk, Cells.fld hy1.v hk, lo_ld hy1 hk, eqV_int, Cells.self hy1.v, Cells.self hit1, hwa, idxSl_p hk]
      refine up_store (b := nb) (off := i) (vs := [.int .i64 (uLo S (i + 1) + (k : Int))]) rfl hb1 (by omega) (by omega) rfl rfl rfl (by rw [ndL_len]; omega) (fun _ _ => trivial) fun g3 hs => ?_
      have hb3 := hs.get
      rw [ndL_set hk] at hb3
      have fr3 : FrO Own g1 g3 := fun q cs a b => ⟨a.keep hs.keep (hOb _ _ b), hOs _ g1 g3 _ q hj1 hs b⟩
      have it3 := it1.fr fr3
      have hw : wrapF .i64 ((i : Int) + 1) = ((i + 1 : Nat) : Int) := by rw [wrap_in (by omega) (by omega)]; rfl
      have hcg : enumB (uLo S) (uHi S) d (i + 1 + 1) (setU c' (i + 1) (uLo S (i + 1) + (k : Int))) = part k := enumB_congr d (i + 1 + 1) _ _ fun j hj => by
        by_cases e : j = i + 1
        · simp [e, setU]
        · simp only [setU, e, if_false]; exact hc' j (by omega)
      have hnx := hs.next
      have hok2 : OkU S (i + 1 + 1) (setU c' (i + 1) (uLo S (i + 1) + (k : Int))) := by
        refine ⟨fun j hj => ?_, fun j hj => ?_⟩
        · by_cases e : j = i + 1
          · subst e; simp only [setU, if_true]; omega
          · simp only [setU, e, if_false]; rw [hc' j (by omega)]; exact hok.1 j (by omega)
        · have e : ¬ j = i + 1 := by omega
          simp only [setU, e, if_false]; rw [hc' j (by omega)]; exact hok.2 j hj
      obtain ⟨g4, e, j4, fr4, ⟨c4, hb4, hc4⟩, fl4, u4, n4⟩ := ih (i + 1) n g3 _ _ (by omega) (by omega) it3 hb3 hok2 (hJs _ _ _ _ hj1 hs) (by rw [hs.floor, hf1]) (by rw [hcg]; omega)
      rw [hcg] at e j4 n4
      have hc00 : setU c' (i + 1) (uLo S (i + 1) + (k : Int)) 0 = c 0 := by simp only [setU]; rw [if_neg (by omega)]; exact hc' 0 (by omega)
      rw [hc00] at e
      have hw2 : wrapF .i64 ((k : Int) + 1) = ((k + 1 : Nat) : Int) := by rw [wrap_in (by omega) (by omega)]; omega
      have hc4' : ∀ j, j < i + 1 ∨ i + 1 + (d + 1) ≤ j → c4 j = c j := fun j hj => by
        rw [hc4 j (by omega)]; simp only [setU]; rw [if_neg (by omega)]; exact hc' j hj
      have fr14 := fr1.trans (fr3.trans fr4)
      by_cases hq : (runL step (runL step s ((List.range k).flatMap part)).1 (part k)).2 = true
      · have hrun : runL step s ((List.range (k + 1)).flatMap part) = runL step (runL step s ((List.range k).flatMap part)).1 (part k) := by
          rw [List.range_succ, List.flatMap_append, runL_append, hr1, if_pos rfl]; simp
        have hl3 : ((List.range (k + 1)).flatMap part).length = ((List.range k).flatMap part).length + (part k).length := by rw [List.range_succ, List.flatMap_append, List.length_append]; simp
        rw [hq] at e
        simp only [rn0, rn1, rn2, rn3, rn4, rn5, rn6, rn7, rn8, if_true, if_false, Nat.le_refl, true_and, and_true, decide_true, decide_false, Bool.not_true, Bool.not_false, reduceIte, Nat.reduceEqDiff, Nat.reduceAdd, Nat.reduceMul, Nat.reduceSub, Nat.reduceLeDiff, Nat.reduceLT, f0, f1, f2, f4, f5, f27, f28, it3.c.ld, Nat.zero_add, List.getElem?_cons_zero, List.getElem?_cons_succ, hw, e, hw2]
        rw [hrun, hl3, Nat.mul_add]
        have hfin := And.intro fr14 (And.intro (⟨c4, hb4, hc4'⟩ : ∃ c', g4.get nb = some (.row (ndL S c') true 0) ∧ ∀ j, j < i + 1 ∨ i + 1 + (d + 1) ≤ j → c' j = c j) (And.intro j4 (And.intro hq (And.intro fl4 (And.intro (by omega : g.next ≤ g4.next) (by omega : g4.next ≤ g.next + (X * ((List.range k).flatMap part).length + X * (part k).length)))))))
        first | exact hfin | exact ⟨hfin, rfl⟩
      · have hq' : (runL step (runL step s ((List.range k).flatMap part)).1 (part k)).2 = false := by simpa using hq
        have hrun : runL step s ((List.range m).flatMap part) = runL step (runL step s ((List.range k).flatMap part)).1 (part k) := by
          rw [hpart, runL_append, hr1, if_pos rfl, runL_append, hq', if_neg (by simp)]
        rw [hq'] at e
        simp only [rn0, rn1, rn2, rn3, rn4, rn5, rn6, rn7, rn8, if_true, if_false, Nat.le_refl, true_and, and_true, decide_true, decide_false, Bool.not_true, Bool.not_false, reduceIte, Nat.reduceEqDiff, Nat.reduceAdd, Nat.reduceMul, Nat.reduceSub, Nat.reduceLeDiff, Nat.reduceLT, f0, f1, f2, f4, f5, f27, f28, it3.c.ld, Nat.zero_add, List.getElem?_cons_zero, List.getElem?_cons_succ, hw, e]
        rw [hrun, hq']
        exact ⟨rfl, j4, fr14, ⟨c4, hb4, hc4'⟩, fl4, by omega, by omega⟩
    · rintro f g1 ms ⟨⟨fr1, ⟨c', hb1, hc'⟩, hj1, hr1, hf1, hu1, hn1⟩, rfl, f0, f1, f2, f4, f5, f27, f28⟩
      simp only [rn0, rn1, rn2, rn3, rn4, rn5, rn6, rn7, rn8, if_true, if_false, Nat.le_refl, true_and, and_true, decide_true, decide_false, Bool.not_true, Bool.not_false, reduceIte, Nat.reduceEqDiff, Nat.reduceAdd, Nat.reduceMul, Nat.reduceSub, Nat.reduceLeDiff, Nat.reduceLT, f0, f1, f2, f4, f5, f27, f28, Int.lt_irrefl]
      exact ⟨by rw [hr1], hj1, fr1, ⟨c', hb1, hc'⟩, hf1, by omega, by omega⟩
def s131 : SCode := (.seq (.ops [⟨(some 2), none, .box (T 0)⟩]) (.seq (.ops [⟨(some 6), none, .fieldAddr 0 (T 1)⟩, ⟨(some 7), none, .fieldAddr 2 (T 6)⟩, ⟨(some 8), none, .load1 (T 7)⟩, ⟨(some 9), none, .len (T 8)⟩, ⟨(some 10), none, .mkslice 1 8 [(.int .i64 (0))] (T 9) (T 9)⟩, ⟨(some 3), none, .alloc [(.slice none 0 0)]⟩, ⟨none, none, .store 1 (T 3) (T 10)⟩]) (.seq (.ops [⟨(some 4), none, .alloc [.nilFunc]⟩]) (.seq (.ops [⟨(some 11), none, .mkfunc 132 [] [(T 3), (T 2), (T 1), (T 4)]⟩, ⟨none, none, .store 1 (T 4) (T 11)⟩]) (.seq (.ops [⟨(some 12), none, .fieldAddr 0 (T 1)⟩, ⟨(some 13), none, .fieldAddr 0 (T 12)⟩, ⟨(some 14), none, .loadN 2 (T 13)⟩, ⟨(some 15), none, .call (.func 117) [(T 14)]⟩, ⟨(some 16), none, .mov (.const (.int .i64 (0)))⟩]) (.block 0 (.loop (.seq (.ops [⟨(some 17), none, .int2 .lss (T 16) (T 15)⟩]) (.seq (.cond (T 17) .skip (.exit 0)) (.seq (.block 1 (.seq (.ops [⟨(some 18), none, .mov (T 16)⟩, ⟨(some 5), none, .mov (T 18)⟩]) (.seq (.ops [⟨(some 19), none, .load1 (T 4)⟩, ⟨(some 20), none, .fieldAddr 0 (T 1)⟩, ⟨(some 21), none, .fieldAddr 0 (T 20)⟩, ⟨(some 22), none, .fieldAddr 0 (T 21)⟩, ⟨(some 23), none, .load1 (T 22)⟩, ⟨(some 24), none, .mov (T 5)⟩, ⟨(some 25), none, .int2 .add (T 23) (T 24)⟩, ⟨(some 26), none, .call (T 19) [(T 25), (.const (.int .i64 (0)))]⟩, ⟨(some 27), none, .not (T 26)⟩]) (.cond (T 27) .ret .skip)))) (.ops [⟨(some 28), none, .int2 .add (T 16) (.const (.int .i64 (1)))⟩, ⟨(some 16), none, .mov (T 28)⟩])))))))))))
theorem fok131 : FnOk Try.prog 131 29 s131 [] := ⟨Try.f131, _, Try.func131, rfl, Try.ntmps131, by kernel_rfl, by kernel_rfl⟩
set_option maxHeartbeats 1000000 in
theorem iter_c (step : σ → (Nat → Int) → σ × Bool) (J : σ → AHeap → Prop) {S : MB} {g : AHeap} {pw K N0 n : Nat} {vv sv tv yv : Value} (s : σ) (hG : Good S)
    (hw : Row g pw (wkL S vv sv tv)) (hyv1 : oneCell yv = true) (hyv : eqV yv yv = true) (hfl : g.floor ≤ g.next) (hN : 200 ≤ N0) (hn : N0 + 20 ≤ n)
    (hOb : ∀ g' q, Own g' q → q ≠ g.next + 1) (hJy : ∀ s g', J s g' → BeatR g' vv sv S)
    (hJs : ∀ s g1 g' cs, J s g1 → Set1 g1 g' (g.next + 1) cs 0 → J s g') (hJn : ∀ s g1 g', J s g1 → More g1 g' → J s g')
    (hOs : ∀ s g1 g' cs q, J s g1 → Set1 g1 g' (g.next + 1) cs 0 → Own g1 q → Own g' q) (hOn : ∀ s g1 g' q, J s g1 → More g1 g' → Own g1 q → Own g' q)
    (hJ0 : ∀ g', (∀ i, i < g.next → g'.get i = g.get i) → g'.floor = g.floor → g.next + 4 ≤ g'.next → J s g' ∧ Own g' pw ∧ ∀ q, g.next ≤ q → q < g'.next → q ≠ g.next + 1 → Own g' q)
    (hY : ∀ n g1 s c cw pn py pc, N0 ≤ n → ItS Own S vv sv tv pn py pw pc (g.next + 1) yv g1 → g1.get (g.next + 1) = some (.row (ndL S c) true 0) → OkU S (numU S) c → J s g1 → CouR g1 cw S c → oneCell cw = true → g1.floor = g.floor → g1.next + K < far →
      ∃ g', call n yv [.agg ⟨coL (c 0) cw⟩] g1 = some (.bool (step s c).2, g') ∧ J (step s c).1 g' ∧ FrO Own g1 g' ∧ g'.get (g.next + 1) = some (.row (ndL S c) true 0) ∧ g'.floor = g.floor ∧ g1.next ≤ g'.next ∧ g'.next ≤ g1.next + K)
    (hr : g.next + 10 + (K + 4) * (enumB (uLo S) (uHi S) (numU S) 0 fun _ => 0).length < far) :
    ∃ v g', call n (.func (.func 131) ⟨[]⟩ ⟨[.pointer (some ⟨pw, 0, none⟩)]⟩) [yv] g = some (v, g') ∧ J (runL step s (enumB (uLo S) (uHi S) (numU S) 0 fun _ => 0)).1 g' ∧ g'.floor = g.floor ∧ g.next ≤ g'.next ∧ g'.next ≤ g.next + 10 + (K + 4) * (enumB (uLo S) (uHi S) (numU S) 0 fun _ => 0).length := by
  obtain ⟨n, rfl⟩ : ∃ p, n = p + 1 := ⟨n - 1, by omega⟩
  obtain ⟨_, _, z3, _, z5, z6, z7⟩ := hG.sizes
  have hnu : numU S = S.nv + 1 := rfl
  refine call_any (xs := []) (ys := [.pointer (some ⟨pw, 0, none⟩)]) fok131 rfl rfl (by simp) ?_
  simp only [s131, List.cons_append, List.nil_append, W_seq, W_ops]
  refine ops_box (cs := [yv]) (by omega) (by simp only [rn0, rn1, rn2, rn3, rn4, rn5, rn6, rn7, rn8, if_true, if_false, Nat.le_refl, true_and, and_true, decide_true, decide_false, Bool.not_true, Bool.not_false, reduceIte, Nat.reduceEqDiff, Nat.reduceAdd, Nat.reduceMul, Nat.reduceSub, Nat.reduceLeDiff, Nat.reduceLT]; cases yv <;> first | rfl | cases hyv1) (by simp [allB, hyv1]) fun g1 hx1 => ?_
  have n1 := hx1.next
  have f1 := hx1.floor
  have hpw : pw < g.next := by obtain ⟨w, gr, e⟩ := hw; exact AHeap.lt_of_get e
  have hw1 := hw.mono hx1.sub
  have hy0 : BeatR g vv sv S → True := fun _ => trivial
  have hlv : ∀ g', lenA vv g' = some (.int .i64 (S.nv : Int), g') := fun g' => by
    obtain ⟨j0, _, _⟩ := hJ0 (g.more (some (.row [] true 0)) |>.more (some (.row [] true 0)) |>.more (some (.row [] true 0)) |>.more (some (.row [] true 0))) (fun i hi => by
      have a1 : (g.more (some (.row [] true 0))).next = g.next + 1 := rfl
      have a2 : ((g.more (some (.row [] true 0))).more (some (.row [] true 0))).next = g.next + 2 := rfl
      have a3 : (((g.more (some (.row [] true 0))).more (some (.row [] true 0))).more (some (.row [] true 0))).next = g.next + 3 := rfl
      rw [AHeap.get_more (by omega), if_neg (by omega), AHeap.get_more (by omega), if_neg (by omega), AHeap.get_more (by omega), if_neg (by omega), AHeap.get_more (by omega), if_neg (by omega)]) rfl (Nat.le_refl _)
    exact Cells.len (hJy _ _ j0).v g'
  have hmk := make_intsL (h := g1) (z := [.int .i64 0]) (m := S.nv) (by omega)
  rw [repl_one] at hmk
  simp only [rn0, rn1, rn2, rn3, rn4, rn5, rn6, rn7, rn8, if_true, if_false, Nat.le_refl, true_and, and_true, decide_true, decide_false, Bool.not_true, Bool.not_false, reduceIte, Nat.reduceEqDiff, Nat.reduceAdd, Nat.reduceMul, Nat.reduceSub, Nat.reduceLeDiff, Nat.reduceLT, hw1.ld, wkg, Nat.zero_add, hlv, hmk]
  have hz : List.replicate S.nv (.int .i64 0 : Value) = ndL S fun _ => 0 := by
    unfold ndL
    apply List.ext_getElem?
    intro i
    by_cases hi : i < S.nv
    · rw [List.getElem?_replicate, if_pos hi, List.getElem?_map, List.getElem?_range hi]; rfl
    · rw [List.getElem?_eq_none (by simp; omega), List.getElem?_eq_none (by simp; omega)]
  rw [hz]
  refine step_slice (by omega) ndL_one fun g2 hx2 => ?_
  have n2 := hx2.next
  have f2 := hx2.floor
  have e1 : g1.next = g.next + 1 := n1
  simp only [rn0, rn1, rn2, rn3, rn4, rn5, rn6, rn7, rn8, if_true, if_false, Nat.le_refl, true_and, and_true, decide_true, decide_false, Bool.not_true, Bool.not_false, reduceIte, Nat.reduceEqDiff, Nat.reduceAdd, Nat.reduceMul, Nat.reduceSub, Nat.reduceLeDiff, Nat.reduceLT]
  refine step_new (vs := [.slice (some ⟨g1.next, 0, none⟩) S.nv S.nv]) (by omega) (by omega) rfl (by simp only [rn0, rn1, rn2, rn3, rn4, rn5, rn6, rn7, rn8, if_true, if_false, Nat.le_refl, true_and, and_true, decide_true, decide_false, Bool.not_true, Bool.not_false, reduceIte, Nat.reduceEqDiff, Nat.reduceAdd, Nat.reduceMul, Nat.reduceSub, Nat.reduceLeDiff, Nat.reduceLT]; rfl) rfl rfl rfl fun g3 hx3 => ?_
  have n3 := hx3.next
  have f3 := hx3.floor
  simp only [rn0, rn1, rn2, rn3, rn4, rn5, rn6, rn7, rn8, if_true, if_false, Nat.le_refl, true_and, and_true, decide_true, decide_false, Bool.not_true, Bool.not_false, reduceIte, Nat.reduceEqDiff, Nat.reduceAdd, Nat.reduceMul, Nat.reduceSub, Nat.reduceLeDiff, Nat.reduceLT]
  refine step_row (cs := [.nilFunc]) (by omega) rfl rfl fun g4 hx4 => ?_
  have n4 := hx4.next
  have f4 := hx4.floor
  simp only [rn0, rn1, rn2, rn3, rn4, rn5, rn6, rn7, rn8, if_true, if_false, Nat.le_refl, true_and, and_true, decide_true, decide_false, Bool.not_true, Bool.not_false, reduceIte, Nat.reduceEqDiff, Nat.reduceAdd, Nat.reduceMul, Nat.reduceSub, Nat.reduceLeDiff, Nat.reduceLT]
  refine step_store (b := g3.next) (gr := 0) (vs := [chooseV g2.next g.next pw g3.next]) rfl hx4.get (by omega) (by omega) rfl rfl rfl (by simp) fun g6 hs => ?_
  have n6 := hs.next
  have f6 := hs.floor
  have es : splice [Value.nilFunc] 0 [chooseV g2.next g.next pw g3.next] = [chooseV g2.next g.next pw g3.next] := rfl
  rw [es] at hs
  have hs63 : ∀ i, i < g3.next → g6.get i = g3.get i := fun i hi => by rw [hs.old i (by omega), hx4.old i hi]
  have hb6 : g6.get (g.next + 1) = some (.row (ndL S fun _ => 0) true 0) := by
    rw [hs63 _ (by omega), hx3.old _ (by omega)]; have := hx2.get; rw [e1] at this; exact this
  have hold : ∀ i, i < g.next → g6.get i = g.get i := fun i hi => by rw [hs63 i (by omega), hx3.old i (by omega), hx2.old i (by omega), hx1.old i hi]
  obtain ⟨j6, ow6, o6⟩ := hJ0 g6 hold (by omega) (by omega)
  have hit : ItS Own S vv sv tv g2.next g.next pw g3.next (g.next + 1) yv g6 := by
    refine ⟨⟨true, 0, by rw [hs63 _ (by omega)]; have := hx3.get; rw [e1] at this; exact this⟩, ⟨true, 0, by rw [hs63 _ (by omega), hx3.old _ (by omega), hx2.old _ (by omega)]; exact hx1.get⟩, ?_, ⟨true, 0, hs.get⟩, o6 _ (by omega) (by omega) (by omega), o6 _ (by omega) (by omega) (by omega), ow6, o6 _ (by omega) (by omega) (by omega)⟩
    obtain ⟨w, gr, e⟩ := hw
    exact ⟨w, gr, by rw [hold _ hpw]; exact e⟩
  have hy6 := hJy _ _ j6
  obtain ⟨m, hm⟩ : ∃ m : Nat, (m : Int) = S.shi - S.slo + 1 := ⟨(S.shi - S.slo + 1).toNat, by omega⟩
  let part : Nat → List (Nat → Int) := fun k => enumB (uLo S) (uHi S) S.nv 1 fun j => if j = 0 then uLo S 0 + (k : Int) else 0
  have hen : (enumB (uLo S) (uHi S) (numU S) 0 fun _ => 0) = (List.range m).flatMap part := by
    have : (uHi S 0 - uLo S 0 + 1).toNat = m := by rw [uLo_zero, uHi_zero]; omega
    rw [hnu]
    simp only [enumB]
    rw [this]
  have hpos := enumB_pos (lo := uLo S) (hi := uHi S) (numU S) 0 (fun _ => 0) fun k h1 h2 => (hG.u k (by omega)).2.1
  rw [hen] at hr hpos ⊢
  have esz := rsize_ok (n := n) (h := g6) (by omega) (by omega) (lo := S.slo) (hi := S.shi) (by omega) (by omega) (by omega)
  rw [← hm] at esz
  obtain ⟨X, hX⟩ : ∃ X, X = K + 4 := ⟨_, rfl⟩
  rw [← hX] at hr ⊢
  simp only [rn0, rn1, rn2, rn3, rn4, rn5, rn6, rn7, rn8, if_true, if_false, Nat.le_refl, true_and, and_true, decide_true, decide_false, Bool.not_true, Bool.not_false, reduceIte, Nat.reduceEqDiff, Nat.reduceAdd, Nat.reduceMul, Nat.reduceSub, Nat.reduceLeDiff, Nat.reduceLT, wk_rng hit.w, esz]
  refine W_loop m (fun k f ga ms => (FrO Own g6 ga ∧ (∃ c', ga.get (g.next + 1) = some (.row (ndL S c') true 0) ∧ ∀ j, numU S ≤ j → c' j = 0) ∧ J (runL step s ((List.range k).flatMap part)).1 ga ∧ (runL step s ((List.range k).flatMap part)).2 = true ∧
    ga.floor = g.floor ∧ g6.next ≤ ga.next ∧ ga.next ≤ g6.next + X * ((List.range k).flatMap part).length) ∧ ms = [] ∧ f 1 = .pointer (some ⟨pw, 0, none⟩) ∧ f 4 = .pointer (some ⟨g3.next, 0, none⟩) ∧ f 15 = .int .i64 (m : Int) ∧ f 16 = .int .i64 (k : Int)) (by simp; omega) ?_ ?_ ?_
  · simp only [rn0, rn1, rn2, rn3, rn4, rn5, rn6, rn7, rn8, if_true, if_false, Nat.le_refl, true_and, and_true, decide_true, decide_false, Bool.not_true, Bool.not_false, reduceIte, Nat.reduceEqDiff, Nat.reduceAdd, Nat.reduceMul, Nat.reduceSub, Nat.reduceLeDiff, Nat.reduceLT, Int.natCast_zero]
    simp only [List.range_zero, List.flatMap_nil, runL, List.length_nil, Nat.mul_zero, Nat.add_zero, Nat.le_refl, and_true]
    exact ⟨.refl, ⟨_, hb6, fun _ _ => rfl⟩, j6, trivial, by omega⟩
  · rintro k f ga ms hkm ⟨⟨fra, ⟨c', hba, hc'⟩, hja, hra, hfa, hua, hna⟩, rfl, p1, p4, p15, p16⟩
    have hkm' : (k : Int) < (m : Int) := by omega
    have hw1 : wrapF .i64 ((k : Int) + 1) = ((k + 1 : Nat) : Int) := by rw [wrap_in (by omega) (by omega)]; rfl
    have ita := hit.fr fra
    obtain ⟨rest, hpart⟩ := part_flat part hkm
    have hlen : ((List.range m).flatMap part).length = ((List.range k).flatMap part).length + ((part k).length + rest.length) := by rw [hpart]; simp
    have hKm : X * ((List.range m).flatMap part).length = X * ((List.range k).flatMap part).length + (X * (part k).length + X * rest.length) := by rw [hlen, Nat.mul_add, Nat.mul_add]
    have hws : wrapF .i64 (S.slo + (k : Int)) = S.slo + (k : Int) := wrap_in (by omega) (by omega)
    have hbs : ga.get (g.next + 1) = some (.row (ndL S (setU c' 0 (S.slo + (k : Int)))) true 0) := by
      rw [ndL_congr (c' := c') fun j h1 h2 => by simp only [setU]; rw [if_neg (by omega)]]; exact hba
    have hok : OkU S 1 (setU c' 0 (S.slo + (k : Int))) := by
      refine ⟨fun j hj => ?_, fun j hj => ?_⟩
      · obtain rfl : j = 0 := by omega
        simp only [setU, if_true]
        rw [uLo_zero, uHi_zero]; omega
      · simp only [setU]; rw [if_neg (by omega)]; exact hc' j hj
    have hcg : enumB (uLo S) (uHi S) S.nv 1 (setU c' 0 (S.slo + (k : Int))) = part k := enumB_congr S.nv 1 _ _ fun j hj => by
      by_cases e : j = 0
      · subst e; simp [setU, uLo_zero]
      · simp only [setU, e, if_false]; exact hc' j (by omega)
    have hch := choose_c step J (S := S) (vv := vv) (sv := sv) (tv := tv) (pn := g2.next) (py := g.next) (pw := pw) (pc := g3.next) (nb := g.next + 1) (K := K) (N0 := N0) (fl := g.floor) (yv := yv) hG hyv hOb (by omega) hN hJy hJs hJn hOs hOn (fun n g1 s c cw h1 h2 h3 h4 h5 h6 h7 h8 h9 => hY n g1 s c cw _ _ _ h1 h2 h3 h4 h5 h6 h7 h8 h9) S.nv 0 n ga (runL step s ((List.range k).flatMap part)).1 (setU c' 0 (S.slo + (k : Int))) (by omega) (by omega) ita hbs hok hja hfa (by rw [Nat.zero_add, hcg, ← hX]; omega)
    simp only [Nat.zero_add, Int.natCast_zero] at hch
    rw [hcg, ← hX] at hch
    obtain ⟨gb, q1, q2, q3, ⟨cb, q4, q4'⟩, q5, q6, q7⟩ := hch
    have hc00 : setU c' 0 (S.slo + (k : Int)) 0 = S.slo + (k : Int) := by simp [setU]
    rw [hc00] at q1
    have hcb : ∀ j, numU S ≤ j → cb j = 0 := fun j hj => by
      rw [q4' j (by omega)]; simp only [setU]; rw [if_neg (by omega)]; exact hc' j hj
    by_cases hq : (runL step (runL step s ((List.range k).flatMap part)).1 (part k)).2 = true
    · have hrun : runL step s ((List.range (k + 1)).flatMap part) = runL step (runL step s ((List.range k).flatMap part)).1 (part k) := by
        rw [List.range_succ, List.flatMap_append, runL_append, hra, if_pos rfl]; simp
      have hl3 : ((List.range (k + 1)).flatMap part).length = ((List.range k).flatMap part).length + (part k).length := by rw [List.range_succ, List.flatMap_append, List.length_append]; simp
      rw [hq] at q1
      simp only [rn0, rn1, rn2, rn3, rn4, rn5, rn6, rn7, rn8, if_true, if_false, Nat.le_refl, true_and, and_true, decide_true, decide_false, Bool.not_true, Bool.not_false, reduceIte, Nat.reduceEqDiff, Nat.reduceAdd, Nat.reduceMul, Nat.reduceSub, Nat.reduceLeDiff, Nat.reduceLT, p1, p4, p15, p16, hkm', ita.c.ld, ita.w.ld, wkg, Nat.zero_add, List.getElem?_cons_zero, hws, q1, hw1]
      rw [hrun, hl3, Nat.mul_add]
      have hfin := And.intro (fra.trans q3) (And.intro (⟨cb, q4, hcb⟩ : ∃ c', gb.get (g.next + 1) = some (.row (ndL S c') true 0) ∧ ∀ j, numU S ≤ j → c' j = 0) (And.intro q2 (And.intro hq (And.intro q5 (And.intro (by omega : g6.next ≤ gb.next) (by omega : gb.next ≤ g6.next + (X * ((List.range k).flatMap part).length + X * (part k).length)))))))
      first | exact hfin | exact ⟨hfin, rfl⟩
    · have hq' : (runL step (runL step s ((List.range k).flatMap part)).1 (part k)).2 = false := by simpa using hq
      have hrun : runL step s ((List.range m).flatMap part) = runL step (runL step s ((List.range k).flatMap part)).1 (part k) := by
        rw [hpart, runL_append, hra, if_pos rfl, runL_append, hq', if_neg (by simp)]
      rw [hq'] at q1
      simp only [rn0, rn1, rn2, rn3, rn4, rn5, rn6, rn7, rn8, if_true, if_false, Nat.le_refl, true_and, and_true, decide_true, decide_false, Bool.not_true, Bool.not_false, reduceIte, Nat.reduceEqDiff, Nat.reduceAdd, Nat.reduceMul, Nat.reduceSub, Nat.reduceLeDiff, Nat.reduceLT, p1, p4, p15, p16, hkm', ita.c.ld, ita.w.ld, wkg, Nat.zero_add, List.getElem?_cons_zero, hws, q1]
      rw [hrun]
      exact ⟨_, rfl, q2, q5, by omega, by omega⟩
  · rintro f ga ms ⟨⟨fra, ⟨c', hba, hc'⟩, hja, hra, hfa, hua, hna⟩, rfl, p1, p4, p15, p16⟩
    simp only [rn0, rn1, rn2, rn3, rn4, rn5, rn6, rn7, rn8, if_true, if_false, Nat.le_refl, true_and, and_true, decide_true, decide_false, Bool.not_true, Bool.not_false, reduceIte, Nat.reduceEqDiff, Nat.reduceAdd, Nat.reduceMul, Nat.reduceSub, Nat.reduceLeDiff, Nat.reduceLT, p1, p4, p15, p16, Int.lt_irrefl]
    exact ⟨_, rfl, hja, hfa, by omega, by omega⟩
def s120 : SCode := (.seq (.ops [⟨(some 1), none, .box (T 0)⟩, ⟨(some 2), none, .mov (.const .nilFunc)⟩]) (.seq (.ops [⟨(some 3), none, .mkfunc 131 [] [(T 1)]⟩, ⟨(some 2), none, .mov (T 3)⟩]) .ret))
theorem fok120 : FnOk Try.prog 120 4 s120 [.tmp 2] := ⟨Try.f120, _, Try.func120, rfl, Try.ntmps120, by kernel_rfl, by kernel_rfl⟩
theorem courses_c (hn : 1 ≤ n) (hr : h.next < far) {cs : List Value} (h1 : allB oneCell cs = true) (hl : cs.length = 6) :
    ∃ h', call n (.func (.func 120) #[] #[]) [.agg ⟨cs⟩] h = some (.func (.func 131) ⟨[]⟩ ⟨[.pointer (some ⟨h.next, 0, none⟩)]⟩, h') ∧ New h h' cs 0 := by
  obtain ⟨n, rfl⟩ : ∃ p, n = p + 1 := ⟨n - 1, by omega⟩
  suffices hs : ∃ v h', call (n + 1) (.func (.func 120) #[] #[]) [.agg ⟨cs⟩] h = some (v, h') ∧ v = .func (.func 131) ⟨[]⟩ ⟨[.pointer (some ⟨h.next, 0, none⟩)]⟩ ∧ New h h' cs 0 by
    obtain ⟨v, h', e, rfl, hx⟩ := hs
    exact ⟨h', e, hx⟩
  refine call_any0 fok120 rfl rfl (by simp) ?_
  simp only [s120, W_seq, W_ops]
  refine ops_box (cs := cs) (by omega) rfl h1 fun g1 hx1 => ?_
  simp only [rn0, rn1, rn2, rn3, rn4, rn5, rn6, rn7, rn8, if_true, if_false, Nat.le_refl, true_and, and_true, decide_true, decide_false, Bool.not_true, Bool.not_false, reduceIte, Nat.reduceEqDiff, Nat.reduceAdd, Nat.reduceMul, Nat.reduceSub, Nat.reduceLeDiff, Nat.reduceLT]
  exact hx1
theorem call_yield {l : Nat} {args : List Value} : call (n + 1) (.func (.yield l) #[] #[]) args h = roundA Try.prog (call n) n l args h := rfl
end
end Go.Vm.Bt

namespace Go.Vm.Bt
open Go.Proofs Go.Vm.Vat Go.Vm.L2
set_option linter.unusedSimpArgs false
set_option linter.unusedVariables false
set_option maxRecDepth 10000
variable {n : Nat} {h : AHeap}
structure JO (h2 : AHeap) (p : Nat) (S : MB) (vv sv : Value) (s : List (Nat → Int)) (g : AHeap) : Prop where
  old : ∀ i, i < h2.next → i ≠ p → g.get i = h2.get i
  tv : ∃ tv, g.get p = some (.row (wkL S vv sv tv) true 0) ∧ GrowC (h2.next + 4) g tv 3 s.length fun k j => .int .i64 ((s.getD k fun _ => 0) j)
  up : h2.next + 4 ≤ g.next
  len : s.length ≤ g.next
  all : ∀ d, d ∈ s → ∃ u, u ∈ (enumB (uLo S) (uHi S) (numU S) 0 fun _ => 0) ∧ d = doneS S u
  nodup : s.Nodup
theorem nodup_le {α : Type} {l m : List α} (hl : l.Nodup) (hs : ∀ x, x ∈ l → x ∈ m) : l.length ≤ m.length := by
  by_cases c : m.length ≤ l.length
  · exact Nat.le_of_eq (perm_of_sub l m hl hs c).length_eq
  · omega
theorem JO.few {h2 g : AHeap} {p : Nat} {S : MB} {vv sv : Value} {s : List (Nat → Int)} (hj : JO h2 p S vv sv s g) (hG : Good S) : s.length ≤ 200 := by
  have := nodup_le (m := (enumB (uLo S) (uHi S) (numU S) 0 fun _ => 0).map (doneS S)) hj.nodup fun d hd => by
    obtain ⟨u, hu, e⟩ := hj.all d hd
    exact List.mem_map.2 ⟨u, hu, e.symm⟩
  rw [List.length_map] at this
  have := enum_len hG
  omega
def OwnO (h2 : AHeap) (p pw : Nat) (S : MB) (vv sv : Value) (g : AHeap) (q : Nat) : Prop := (h2.next ≤ q ∨ q = pw) ∧ q ≠ p ∧ q ≠ h2.next + 1 ∧ ∀ tv, g.get p = some (.row (wkL S vv sv tv) true 0) → NeB tv q
theorem wkL_inj {S : MB} {vv sv a b : Value} (e : wkL S vv sv a = wkL S vv sv b) : a = b := by
  have := congrArg (·[5]?) e
  simpa [wkL] using this
abbrev wkZ : List Value := [.int .i64 0, .int .i64 0, nilS, .int .i64 0, nilS, nilS]
theorem build_wkZ : buildA (fun x => (#[(0, 5), (5, 1)] : Array (Nat × Nat))[x]?) ⟨[.int .i64 0, .int .i64 0, .slice none 0 0, .int .i64 0, .slice none 0 0, .slice none 0 0]⟩ [] h [] = some (.agg ⟨wkZ⟩, h) := id rfl
theorem sl_dn {d : Nat → Int} : buildSl 3 1 [.int .i64 0, .int .i64 0, .int .i64 0] [0] h [.agg ⟨dn d⟩] = newSlice h (dn d) 1 1 0 := id rfl
def OpenR (h : AHeap) (S : MB) (P : Prop) (vv sv v : Value) (h' : AHeap) : Prop := (∀ i, i < h.next → h'.get i = h.get i) ∧ h.next ≤ h'.next ∧ h'.next ≤ h.next + 26000 ∧ h'.floor = h.floor ∧
  ((faultS S ≠ 0 ∧ v = .tuple ⟨[.agg ⟨wkZ⟩, .int .i64 (faultS S)]⟩) ∨ (faultS S = 0 ∧ ¬ P ∧ v = .tuple ⟨[.agg ⟨wkZ⟩, .int .i64 2]⟩) ∨ (faultS S = 0 ∧ P ∧ truthsS S = [] ∧ v = .tuple ⟨[.agg ⟨wkZ⟩, .int .i64 11]⟩) ∨
    (faultS S = 0 ∧ P ∧ truthsS S ≠ [] ∧ ∃ tv, v = .tuple ⟨[.agg ⟨wkL S vv sv tv⟩, .int .i64 0]⟩ ∧ oneCell tv = true ∧ DonesR h' tv (donesL S) ∧ (∀ a k c, tv = .slice (some a) k c → h.next ≤ a.block) ∧ Long tv))
def s119 : SCode := (.seq (.ops [⟨(some 3), none, .mov (.const (.bool false))⟩]) (.seq (.ops [⟨(some 4), none, .mov (T 0)⟩, ⟨(some 5), none, .loadN 6 (T 1)⟩, ⟨(some 6), none, .call (T 4) [(T 5)]⟩, ⟨(some 3), none, .mov (T 6)⟩]) .ret))
theorem fok119 : FnOk Try.prog 119 7 s119 [.tmp 3] := ⟨Try.f119, _, Try.func119, rfl, Try.ntmps119, by kernel_rfl, by kernel_rfl⟩
theorem open1_c (hn : 301 ≤ n) {fv : Value} {b : Bool} {p : Nat} {cs : List Value} (hp : Row h p cs) (hl : cs.length = 6) (he : ∀ n', 300 ≤ n' → ∀ g, Sub All h g → g.next = h.next → call n' fv [.agg ⟨cs⟩] g = some (.bool b, g)) :
    call n (.func (.func 119) ⟨[]⟩ ⟨[.pointer (some ⟨p, 0, none⟩)]⟩) [fv] h = some (.bool b, h) := by
  obtain ⟨n, rfl⟩ : ∃ p, n = p + 1 := ⟨n - 1, by omega⟩
  refine call_plain (xs := []) (ys := [.pointer (some ⟨p, 0, none⟩)]) fok119 rfl rfl (by simp) rfl ?_
  have hp : Row h.shutAll p cs := hp.mono fun _ _ _ _ _ h => h
  have he := he n (by omega) h.shutAll (fun _ _ _ _ _ h => h) rfl
  generalize h.shutAll = h at hp he
  simp only [rn0, rn1, rn2, rn3, rn4, rn5, rn6, rn7, rn8, if_true, if_false, Nat.le_refl, true_and, and_true, decide_true, decide_false, Bool.not_true, Bool.not_false, reduceIte, Nat.reduceEqDiff, Nat.reduceAdd, Nat.reduceMul, Nat.reduceSub, Nat.reduceLeDiff, Nat.reduceLT, s119, List.cons_append, List.nil_append, hp.whole hl, he]
def Conds (h : AHeap) (S : MB) (vv sv cv : Value) (P : Prop) : Prop :=
  ∃ (m : Nat) (a : Nat → Value) (p : Nat → Prop), m ≤ 1 ∧ Cells h cv 1 m (fun k _ => a k) ∧ (P ↔ ∀ i, i < m → p i) ∧
    ∀ i, i < m → ∃ b, (b = true ↔ p i) ∧ ∀ n', 300 ≤ n' → ∀ g, Sub All h g → g.next ≤ h.next + 60 → call n' (a i) [.agg ⟨wkL S vv sv nilS⟩] g = some (.bool b, g)
theorem conds_nil {S : MB} {vv sv : Value} : Conds h S vv sv nilS True := ⟨0, fun _ => nilS, fun _ => True, by omega, ⟨none, 0, rfl, fun x e => (by cases e), .inl rfl⟩, by simp, fun i hi => by omega⟩
noncomputable def s86 : SCode := (.seq (.ops [⟨(some 2), none, .box (T 0)⟩, ⟨(some 4), none, .alloc [(.int .i64 (0)), (.int .i64 (0)), (.slice none 0 0), (.int .i64 (0)), (.slice none 0 0), (.slice none 0 0)]⟩, ⟨(some 5), none, .mov (.const (.int .i64 (0)))⟩]) (.seq (.seq (.ops [⟨(some 10), none, .loadN 5 (T 2)⟩, ⟨(some 11), none, .call (.func 31) [(T 10)]⟩, ⟨(some 6), none, .mov (T 11)⟩]) (.seq (.ops [⟨(some 12), none, .mov (T 6)⟩, ⟨(some 13), none, .int2 .neq (T 12) (.const (.int .i64 (0)))⟩]) (.cond (T 13) (.seq (.ops [⟨(some 14), none, .build #[(0, 5), (5, 1)] [(.int .i64 (0)), (.int .i64 (0)), (.slice none 0 0), (.int .i64 (0)), (.slice none 0 0), (.slice none 0 0)] [] []⟩, ⟨(some 15), none, .mov (T 6)⟩, ⟨none, none, .store 6 (T 4) (T 14)⟩, ⟨(some 5), none, .mov (T 15)⟩]) .ret) .skip))) (.seq (.ops [⟨(some 16), none, .loadN 5 (T 2)⟩, ⟨(some 17), none, .build #[(0, 5), (5, 1)] [(.int .i64 (0)), (.int .i64 (0)), (.slice none 0 0), (.int .i64 (0)), (.slice none 0 0), (.slice none 0 0)] [0] [(T 16)]⟩, ⟨(some 7), none, .alloc [(.int .i64 (0)), (.int .i64 (0)), (.slice none 0 0), (.int .i64 (0)), (.slice none 0 0), (.slice none 0 0)]⟩, ⟨none, none, .store 6 (T 7) (T 17)⟩]) (.seq (.seq (.ops [⟨(some 18), none, .mov (T 1)⟩, ⟨(some 19), none, .mkfunc 119 [] [(T 7)]⟩, ⟨(some 20), none, .call (.func 118) [(T 18), (T 19)]⟩, ⟨(some 21), none, .not (T 20)⟩]) (.cond (T 21) (.seq (.ops [⟨(some 22), none, .build #[(0, 5), (5, 1)] [(.int .i64 (0)), (.int .i64 (0)), (.slice none 0 0), (.int .i64 (0)), (.slice none 0 0), (.slice none 0 0)] [] []⟩, ⟨none, none, .store 6 (T 4) (T 22)⟩, ⟨(some 5), none, .mov (.const (.int .i64 (2)))⟩]) .ret) .skip)) (.seq (.seq (.ops [⟨(some 23), none, .loadN 6 (T 7)⟩, ⟨(some 24), none, .call (.func 120) [(T 23)]⟩]) (.block 0 (.range (T 24) #[25] (rangeOf Try.f86 0).1 (rangeOf Try.f86 0).2))) (.seq (.seq (.ops [⟨(some 44), none, .fieldAddr 5 (T 7)⟩, ⟨(some 45), none, .load1 (T 44)⟩, ⟨(some 46), none, .len (T 45)⟩, ⟨(some 47), none, .int2 .eql (T 46) (.const (.int .i64 (0)))⟩]) (.cond (T 47) (.seq (.ops [⟨(some 48), none, .build #[(0, 5), (5, 1)] [(.int .i64 (0)), (.int .i64 (0)), (.slice none 0 0), (.int .i64 (0)), (.slice none 0 0), (.slice none 0 0)] [] []⟩, ⟨none, none, .store 6 (T 4) (T 48)⟩, ⟨(some 5), none, .mov (.const (.int .i64 (11)))⟩]) .ret) .skip)) (.seq (.ops [⟨(some 49), none, .loadN 6 (T 7)⟩, ⟨none, none, .store 6 (T 4) (T 49)⟩, ⟨(some 5), none, .mov (.const (.int .i64 (0)))⟩]) .ret)))))))
theorem fok86 : FnOk Try.prog 86 50 s86 [.cellN 4 6, .tmp 5] := ⟨Try.f86, _, Try.func86, rfl, Try.ntmps86, by kernel_rfl, by kernel_rfl⟩
def ra86_0 : SCode := (.ops [⟨(some 8), none, .alloc [(.int .i64 (0)), (.slice none 0 0)]⟩, ⟨none, none, .store 2 (T 8) (T 25)⟩])
theorem raok86_0 : compCode Try.prog 50 (rangeOf Try.f86 0).1 = some ra86_0 := by kernel_rfl
def rb86_0 : SCode := (.block 1 (.seq (.ops [⟨(some 26), none, .loadN 2 (T 8)⟩, ⟨(some 27), none, .call (.func 80) [(T 26)]⟩, ⟨(some 9), none, .alloc [(.int .i64 (0)), (.int .i64 (0)), (.int .i64 (0))]⟩, ⟨none, none, .store 3 (T 9) (T 27)⟩]) (.seq (.ops [⟨(some 28), none, .loadN 6 (T 7)⟩, ⟨(some 29), none, .loadN 3 (T 9)⟩, ⟨(some 30), none, .call (.func 82) [(T 28), (T 29)]⟩, ⟨(some 31), none, .mov (T 30)⟩, ⟨(some 32), (some (31, true)), .fieldAddr 5 (T 7)⟩, ⟨(some 33), (some (31, true)), .load1 (T 32)⟩, ⟨(some 34), (some (31, true)), .loadN 3 (T 9)⟩, ⟨(some 35), (some (31, true)), .call (.func 121) [(T 33), (T 34)]⟩, ⟨(some 36), (some (31, true)), .not (T 35)⟩, ⟨(some 37), none, .pick (T 31) (T 36) (.const (.bool false))⟩]) (.cond (T 37) (.ops [⟨(some 38), none, .fieldAddr 5 (T 7)⟩, ⟨(some 39), none, .load1 (T 38)⟩, ⟨(some 40), none, .loadN 3 (T 9)⟩, ⟨(some 41), none, .bslice 3 1 [(.int .i64 (0)), (.int .i64 (0)), (.int .i64 (0))] [0] [(T 40)]⟩, ⟨(some 42), none, .append 3 24 (T 39) (T 41)⟩, ⟨(some 43), none, .fieldAddr 5 (T 7)⟩, ⟨none, none, .store 1 (T 43) (T 42)⟩]) .skip))))
theorem rbok86_0 : compCode Try.prog 50 (rangeOf Try.f86 0).2 = some rb86_0 := by kernel_rfl
set_option maxHeartbeats 4000000 in
theorem open_c (hn : 700 ≤ n) (hr : h.next + 31000 < far) (hfl : h.floor ≤ h.next) {vv sv cv : Value} {S : MB} {P : Prop} (hy : BeatR h vv sv S) (hT : ThinS S) (hC : Good S → Conds h S vv sv cv P) :
    ∃ v h', call n (.func (.func 86) #[] #[]) [.agg ⟨beL S vv sv⟩, cv] h = some (v, h') ∧ OpenR h S P vv sv v h' := by
  classical
  obtain ⟨n, rfl⟩ : ∃ p, n = p + 1 := ⟨n - 1, by omega⟩
  refine call_any0 fok86 rfl rfl (by simp) ?_
  simp only [s86, W_seq, W_ops]
  refine ops_box (cs := beL S vv sv) (by omega) rfl hy.one fun g1 hx1 => ?_
  have n1 := hx1.next
  have f1 := hx1.floor
  simp only [rn0, rn1, rn2, rn3, rn4, rn5, rn6, rn7, rn8, if_true, if_false, Nat.le_refl, true_and, and_true, decide_true, decide_false, Bool.not_true, Bool.not_false, reduceIte, Nat.reduceEqDiff, Nat.reduceAdd, Nat.reduceMul, Nat.reduceSub, Nat.reduceLeDiff, Nat.reduceLT]
  refine step_row (cs := wkZ) (by omega) rfl rfl fun g2 hx2 => ?_
  have n2 := hx2.next
  have f2 := hx2.floor
  have e1 : g1.next = h.next + 1 := n1
  have e2 : g2.next = h.next + 2 := by omega
  have hy2 := (hy.mono hx1.sub).mono hx2.sub
  have w1 := (hx1.row.mono hx2.sub).whole (n := 5) rfl
  have ec := check_c (n := n) (h := g2) (by omega) (by omega) hy2 hT
  have hr2 : g2.get (h.next + 1) = some (.row wkZ true 0) := by have := hx2.get; rw [e1] at this; exact this
  have old2 : ∀ i, i < h.next → g2.get i = h.get i := fun i hi => by rw [hx2.old i (by omega), hx1.old i hi]
  by_cases hf : faultS S = 0
  case neg =>
    simp only [rn0, rn1, rn2, rn3, rn4, rn5, rn6, rn7, rn8, if_true, if_false, Nat.le_refl, true_and, and_true, decide_true, decide_false, Bool.not_true, Bool.not_false, reduceIte, Nat.reduceEqDiff, Nat.reduceAdd, Nat.reduceMul, Nat.reduceSub, Nat.reduceLeDiff, Nat.reduceLT, w1, ec, hf, build_wkZ, e1]
    refine step_store (vs := wkZ) rfl hr2 (by omega) (by omega) rfl rfl rfl (by simp) fun g3 hs => ?_
    have hrow := hs.row.whole (n := 6) rfl
    simp only [rn0, rn1, rn2, rn3, rn4, rn5, rn6, rn7, rn8, if_true, if_false, Nat.le_refl, true_and, and_true, decide_true, decide_false, Bool.not_true, Bool.not_false, reduceIte, Nat.reduceEqDiff, Nat.reduceAdd, Nat.reduceMul, Nat.reduceSub, Nat.reduceLeDiff, Nat.reduceLT, res_two, hrow]
    refine ⟨fun i hi => by rw [hs.old i (by omega), old2 i hi], by have := hs.next; omega, by have := hs.next; omega, by rw [hs.floor, f2, f1], .inl ⟨hf, ?_⟩⟩
    simp [splice]
  have hG := good_of hf
  have hlenE := enum_len hG
  obtain ⟨mc, ac, pc, mc1, hcv, hPp, hcall⟩ := hC hG
  simp only [rn0, rn1, rn2, rn3, rn4, rn5, rn6, rn7, rn8, if_true, if_false, Nat.le_refl, true_and, and_true, decide_true, decide_false, Bool.not_true, Bool.not_false, reduceIte, Nat.reduceEqDiff, Nat.reduceAdd, Nat.reduceMul, Nat.reduceSub, Nat.reduceLeDiff, Nat.reduceLT, w1, ec, hf, build_wkB]
  refine step_new (vs := wkL S vv sv nilS) (by omega) (by omega) rfl (by simp only [rn0, rn1, rn2, rn3, rn4, rn5, rn6, rn7, rn8, if_true, if_false, Nat.le_refl, true_and, and_true, decide_true, decide_false, Bool.not_true, Bool.not_false, reduceIte, Nat.reduceEqDiff, Nat.reduceAdd, Nat.reduceMul, Nat.reduceSub, Nat.reduceLeDiff, Nat.reduceLT]; rfl) (wk_one hy rfl) rfl rfl fun g3 hx3 => ?_
  have n3 := hx3.next
  have f3 := hx3.floor
  rw [e2] at n3
  have rw3 : Row g3 (h.next + 2) (wkL S vv sv nilS) := by have := hx3.row; rw [e2] at this; exact this
  have w3 := rw3.whole (n := 6) rfl
  have sub3 : Sub All h g3 := hx1.sub.trans (hx2.sub.trans hx3.sub)
  have hsn : g3.shutAll.next = g3.next := rfl
  have hss : Sub All g3 g3.shutAll := fun _ _ _ _ _ h => h
  have eev := everyFn_c (n := n) (h := g3) (v := cv) (m := mc) (a := ac) (p := pc) (ok := .func (.func 119) ⟨[]⟩ ⟨[.pointer (some ⟨h.next + 2, 0, none⟩)]⟩) (by omega) (by omega) (Cells.mono hcv sub3) (by omega)
    fun g hs hg i hi => by
      obtain ⟨b, hb, e⟩ := hcall i hi
      refine ⟨b, hb, open1_c (by omega) (rw3.mono (hss.trans hs)) rfl fun n' hn' g' hs' hn2 => e n' hn' g' (sub3.trans (hss.trans (hs.trans hs'))) (by omega)⟩
  by_cases hP : P
  case neg =>
    have hd : ¬ ∀ i, i < mc → pc i := fun e => hP (hPp.2 e)
    simp only [rn0, rn1, rn2, rn3, rn4, rn5, rn6, rn7, rn8, if_true, if_false, Nat.le_refl, true_and, and_true, decide_true, decide_false, Bool.not_true, Bool.not_false, reduceIte, Nat.reduceEqDiff, Nat.reduceAdd, Nat.reduceMul, Nat.reduceSub, Nat.reduceLeDiff, Nat.reduceLT, e2, eev, eq_false hd, build_wkZ, e1]
    refine step_store (vs := wkZ) rfl (show g3.get (h.next + 1) = some (.row wkZ true 0) by rw [hx3.old _ (by omega)]; exact hr2) (by omega) (by omega) rfl rfl rfl (by simp) fun g4 hs => ?_
    have hrow := hs.row.whole (n := 6) rfl
    simp only [rn0, rn1, rn2, rn3, rn4, rn5, rn6, rn7, rn8, if_true, if_false, Nat.le_refl, true_and, and_true, decide_true, decide_false, Bool.not_true, Bool.not_false, reduceIte, Nat.reduceEqDiff, Nat.reduceAdd, Nat.reduceMul, Nat.reduceSub, Nat.reduceLeDiff, Nat.reduceLT, res_two, hrow]
    refine ⟨fun i hi => by rw [hs.old i (by omega), hx3.old i (by omega), old2 i hi], by have := hs.next; omega, by have := hs.next; omega, by rw [hs.floor, f3, f2, f1], .inr (.inl ⟨hf, hP, ?_⟩)⟩
    simp [splice]
  have hd : ∀ i, i < mc → pc i := hPp.1 hP
  obtain ⟨g4, e4, hx4⟩ := courses_c (n := n) (h := g3) (cs := wkL S vv sv nilS) (by omega) (by omega) (wk_one hy rfl) rfl
  have n4 := hx4.next
  have f4 := hx4.floor
  rw [e1, e2]
  simp only [rn0, rn1, rn2, rn3, rn4, rn5, rn6, rn7, rn8, if_true, if_false, Nat.le_refl, true_and, and_true, decide_true, decide_false, Bool.not_true, Bool.not_false, reduceIte, Nat.reduceEqDiff, Nat.reduceAdd, Nat.reduceMul, Nat.reduceSub, Nat.reduceLeDiff, Nat.reduceLT, eev, eq_true hd, w3, e4]
  refine W_range' rfl (by omega) (by simp only [rn0, rn1, rn2, rn3, rn4, rn5, rn6, rn7, rn8, if_true, if_false, Nat.le_refl, true_and, and_true, decide_true, decide_false, Bool.not_true, Bool.not_false, reduceIte, Nat.reduceEqDiff, Nat.reduceAdd, Nat.reduceMul, Nat.reduceSub, Nat.reduceLeDiff, Nat.reduceLT]; rfl) fun f0 hf0 ts hv h2 hl => ?_
  have f7 : f0 7 = .pointer (some ⟨h.next + 2, 0, none⟩) := by rw [hf0]; simp only [rn0, rn1, rn2, rn3, rn4, rn5, rn6, rn7, rn8, if_true, if_false, Nat.le_refl, true_and, and_true, decide_true, decide_false, Bool.not_true, Bool.not_false, reduceIte, Nat.reduceEqDiff, Nat.reduceAdd, Nat.reduceMul, Nat.reduceSub, Nat.reduceLeDiff, Nat.reduceLT]
  have f4' : f0 4 = .pointer (some ⟨h.next + 1, 0, none⟩) := by rw [hf0]; simp only [rn0, rn1, rn2, rn3, rn4, rn5, rn6, rn7, rn8, if_true, if_false, Nat.le_refl, true_and, and_true, decide_true, decide_false, Bool.not_true, Bool.not_false, reduceIte, Nat.reduceEqDiff, Nat.reduceAdd, Nat.reduceMul, Nat.reduceSub, Nat.reduceLeDiff, Nat.reduceLT]
  clear hf0
  have nl := hl.next
  have fl := hl.floor
  have en : g4.next = h.next + 4 := by omega
  have hbase : ∀ i, i < h.next → h2.get i = h.get i := fun i hi => by rw [hl.old i (by omega), hx4.old i (by omega), hx3.old i (by omega), old2 i hi]
  have hp2 : h2.get (h.next + 2) = some (.row (wkL S vv sv nilS) true 0) := by
    rw [hl.old _ (by omega), hx4.old _ (by omega)]; have := hx3.get; rw [e2] at this; exact this
  have hr2' : h2.get (h.next + 1) = some (.row wkZ true 0) := by
    rw [hl.old _ (by omega), hx4.old _ (by omega), hx3.old _ (by omega)]; exact hr2
  have hpw : Row h2 (h.next + 3) (wkL S vv sv nilS) := by
    have := hx4.row.mono hl.sub
    rw [n3] at this
    exact this
  have hloop := hl.loop
  have hmark := hl.mark
  rw [en] at hloop hmark
  rw [en]
  rw [en] at hl
  generalize hr0 : loopO _ ts _ _ _ _ = r at hloop ⊢
  have r1 : r.state = .ready := by rw [← hr0]; rfl
  have r2 : View 50 r.tmps f0 := by rw [← hr0]; exact hv
  have r3 : r.params = #[25] := by rw [← hr0]; rfl
  have r4 : compCode Try.prog 50 r.assign = some ra86_0 := by rw [← hr0]; exact raok86_0
  have r5 : compCode Try.prog 50 r.body = some rb86_0 := by rw [← hr0]; exact rbok86_0
  have r6 : leftBy r .norm = r := by rw [← hr0]; rfl
  clear hr0 hl hv
  have en2 : h2.next = h.next + 6 := by omega
  have hit := iter_c (Own := OwnO h2 (h.next + 2) (h.next + 3) S vv sv) (doneStep S) (JO h2 (h.next + 2) S vv sv) (g := h2) (pw := h.next + 3) (K := 120) (N0 := 500) (n := n) (tv := nilS) (yv := .func (.yield (h.next + 5)) #[] #[]) [] hG hpw rfl (by simp [eqV, eqCell]) (by omega) (by omega) (by omega)
    (fun g' q hq => hq.2.2.1)
    (fun s g' hj => hy.mono (AHeap.subOf fun i hi => by rw [hj.old i (by omega) (by omega), hbase i hi]))
    (fun s g1 g' cs hj hs => by
      obtain ⟨tv, t1, t2⟩ := hj.tv
      exact ⟨fun i hi hne => by rw [hs.old i (by omega)]; exact hj.old i hi hne, ⟨tv, by rw [hs.old _ (by omega)]; exact t1, t2.keep hs.keep (by omega)⟩, by have := hj.up; have := hs.next; omega, by have := hj.len; have := hs.next; omega, hj.all, hj.nodup⟩)
    (fun s g1 g' hj hx => by
      obtain ⟨tv, t1, t2⟩ := hj.tv
      have := hj.up
      have hu := hx.up
      exact ⟨fun i hi hne => by rw [hx.old i (by omega)]; exact hj.old i hi hne, ⟨tv, by rw [hx.old _ (by omega)]; exact t1, t2.sub hx.sub⟩, by omega, by have := hj.len; omega, hj.all, hj.nodup⟩)
    (fun s g1 g' cs q hj hs ho => ⟨ho.1, ho.2.1, ho.2.2.1, fun tv e => ho.2.2.2 tv (by rw [← hs.old _ (by omega)]; exact e)⟩)
    (fun s g1 g' q hj hx ho => ⟨ho.1, ho.2.1, ho.2.2.1, fun tv e => ho.2.2.2 tv (by rw [← hx.old _ (by have := hj.up; omega)]; exact e)⟩)
    (fun g' ho hfg hup => ⟨⟨fun i hi _ => ho i hi, ⟨nilS, by rw [ho _ (by omega)]; exact hp2, .nil⟩, hup, Nat.zero_le _, fun d hd => (by cases hd), List.nodup_nil⟩, ⟨.inr rfl, by omega, by omega, fun tv e => by
      rw [ho _ (by omega), hp2] at e
      simp only [Option.some.injEq, AObj.row.injEq, and_true] at e
      have := wkL_inj e
      subst this
      intro b m c e'
      cases e'⟩, fun q hq _ hne => ⟨.inl hq, by omega, hne, fun tv e => by
      rw [ho _ (by omega), hp2] at e
      simp only [Option.some.injEq, AObj.row.injEq, and_true] at e
      have := wkL_inj e
      subst this
      intro b m c e'
      cases e'⟩⟩)
    (fun m g1 s c cw pn py pc hm it hb hok hj hcw how hfg hr1 => by
      obtain ⟨m, rfl⟩ : ∃ p, m = p + 1 := ⟨m - 1, by omega⟩
      rw [call_yield]
      obtain ⟨tv, hp, gr⟩ := hj.tv
      have hup := hj.up
      have hloop1 : g1.get (h.next + 5) = some (.loop r) := by rw [hj.old _ (by omega) (by omega)]; exact hloop
      have hpb := AHeap.lt_of_get hb
      suffices key : ∃ e g', roundA Try.prog (call m) m (h.next + 5) [.agg ⟨coL (c 0) cw⟩] g1 = some (.bool (goesOn e), g') ∧ (e = .norm ∧ JO h2 (h.next + 2) S vv sv (doneStep S s c).1 g' ∧ (∀ q, q ≠ h.next + 2 → q ≠ h.next + 5 → q < g1.next → NeB tv q → g'.get q = g1.get q) ∧ (∃ tv', g'.get (h.next + 2) = some (.row (wkL S vv sv tv') true 0) ∧ ∀ q, q < g1.next → NeB tv q → NeB tv' q) ∧ g'.floor = h2.floor ∧ g1.next ≤ g'.next ∧ g'.next ≤ g1.next + 10) by
        obtain ⟨e, g', k1, rfl, k2, k3, ⟨tv', k4, k5⟩, k6, k7, k8⟩ := key
        refine ⟨g', k1, k2, fun q cs hq ho => ?_, by rw [k3 _ (by omega) (by omega) hpb (neB_of gr (by left; omega))]; exact hb, k6, k7, by omega⟩
        obtain ⟨o1, o2, o3, o4⟩ := ho
        have hlt : q < g1.next := by obtain ⟨w, gr, e⟩ := hq; exact AHeap.lt_of_get e
        have hne := o4 tv hp
        have hq5 : q ≠ h.next + 5 := by omega
        refine ⟨by obtain ⟨w, gr, e⟩ := hq; exact ⟨w, gr, by rw [k3 q o2 hq5 hlt hne]; exact e⟩, o1, o2, o3, fun tv2 e => ?_⟩
        rw [k4] at e
        simp only [Option.some.injEq, AObj.row.injEq, and_true] at e
        have := wkL_inj e
        subst this
        exact k5 q hlt hne
      refine round_run (f := f0) hloop1 r1 r2 (by rw [r3]; rfl) (by omega) r4 r5 ?_
      have hset : setFr f0 r.params.toList [.agg ⟨coL (c 0) cw⟩] = upd f0 25 (.agg ⟨coL (c 0) cw⟩) := by rw [r3]; rfl
      rw [hset]
      simp only [rn0, rn1, rn2, rn3, rn4, rn5, rn6, rn7, rn8, if_true, if_false, Nat.le_refl, true_and, and_true, decide_true, decide_false, Bool.not_true, Bool.not_false, reduceIte, Nat.reduceEqDiff, Nat.reduceAdd, Nat.reduceMul, Nat.reduceSub, Nat.reduceLeDiff, Nat.reduceLT, ra86_0]
      refine step_new (vs := coL (c 0) cw) (by omega) (by omega) rfl (by simp only [rn0, rn1, rn2, rn3, rn4, rn5, rn6, rn7, rn8, if_true, if_false, Nat.le_refl, true_and, and_true, decide_true, decide_false, Bool.not_true, Bool.not_false, reduceIte, Nat.reduceEqDiff, Nat.reduceAdd, Nat.reduceMul, Nat.reduceSub, Nat.reduceLeDiff, Nat.reduceLT]; rfl) (by simp [coL, allB, one_int, how]) rfl rfl fun g2 hx2 => ?_
      have n2 := hx2.next
      have f2 := hx2.floor
      simp only [rn0, rn1, rn2, rn3, rn4, rn5, rn6, rn7, rn8, if_true, if_false, Nat.le_refl, true_and, and_true, decide_true, decide_false, Bool.not_true, Bool.not_false, reduceIte, Nat.reduceEqDiff, Nat.reduceAdd, Nat.reduceMul, Nat.reduceSub, Nat.reduceLeDiff, Nat.reduceLT]
      refine ⟨by rw [hx2.old _ (by omega)]; exact hloop1, by omega, fun g3 hp3 => ?_⟩
      have n3 := hp3.next
      have f3 := hp3.floor
      have g3old : ∀ i, i < g1.next → i ≠ h.next + 5 → g3.get i = g1.get i := fun i hi hne => by rw [hp3.old i hne, hx2.old i hi]
      have g3b : ∀ i, i < h.next → g3.get i = h.get i := fun i hi => by rw [g3old i (by omega) (by omega), hj.old i (by omega) (by omega), hbase i hi]
      have hy3 := hy.mono (AHeap.subOf g3b)
      have hp3' : g3.get (h.next + 2) = some (.row (wkL S vv sv tv) true 0) := by rw [g3old _ (by omega) (by omega)]; exact hp
      have rp3 : Row g3 (h.next + 2) (wkL S vv sv tv) := ⟨_, _, hp3'⟩
      have rc3 : Row g3 g1.next (coL (c 0) cw) := by
        obtain ⟨w, gr, e⟩ := hx2.row
        exact ⟨w, gr, by rw [hp3.old _ (by omega)]; exact e⟩
      have hcw3 : CouR g3 cw S c := by
        obtain ⟨a', cap', e', sp, hz | ⟨b, o, cs, w, gr', e2', e3', e4'⟩⟩ := hcw
        · exact ⟨a', cap', e', sp, .inl hz⟩
        · refine ⟨a', cap', e', sp, .inr ⟨b, o, cs, w, gr', e2', ?_, e4'⟩⟩
          rw [g3old b (AHeap.lt_of_get e3') (by rintro rfl; rw [hloop1] at e3'; cases e3')]
          exact e3'
      have hcu : InU S c := fun i hi => hok.1 i hi
      have ed := done_c (n := m) (h := g3) (by omega) (by omega) hcw3 hG hcu
      simp only [rn0, rn1, rn2, rn3, rn4, rn5, rn6, rn7, rn8, if_true, if_false, Nat.le_refl, true_and, and_true, decide_true, decide_false, Bool.not_true, Bool.not_false, reduceIte, Nat.reduceEqDiff, Nat.reduceAdd, Nat.reduceMul, Nat.reduceSub, Nat.reduceLeDiff, Nat.reduceLT, rb86_0, f7, rc3.whole (n := 2) rfl, ed]
      refine step_new (vs := dn (doneS S c)) (by omega) (by omega) rfl (by simp only [rn0, rn1, rn2, rn3, rn4, rn5, rn6, rn7, rn8, if_true, if_false, Nat.le_refl, true_and, and_true, decide_true, decide_false, Bool.not_true, Bool.not_false, reduceIte, Nat.reduceEqDiff, Nat.reduceAdd, Nat.reduceMul, Nat.reduceSub, Nat.reduceLeDiff, Nat.reduceLT]; rfl) dn_one dn_len rfl fun g4 hx4 => ?_
      have n4 := hx4.next
      have f4 := hx4.floor
      have k14 : Keep (h.next + 5) g1 g4 := ⟨fun i cs w gr hi hg => hx4.sub _ _ _ _ trivial (by rw [hp3.old i hi]; exact hx2.sub _ _ _ _ trivial hg), by omega, by omega⟩
      have gr4 := gr.keep k14 (by omega)
      have g4old : ∀ i, i < g1.next → i ≠ h.next + 5 → g4.get i = g1.get i := fun i hi hne => by rw [hx4.old i (by omega), g3old i hi hne]
      have hp4 : g4.get (h.next + 2) = some (.row (wkL S vv sv tv) true 0) := by rw [g4old _ (by omega) (by omega)]; exact hp
      have rp4 : Row g4 (h.next + 2) (wkL S vv sv tv) := ⟨_, _, hp4⟩
      have hy4 := hy3.mono hx4.sub
      have wd4 := hx4.row.whole (n := 3) dn_len
      have hist := isTruth_c (n := m) (h := g4) (u := c) (by omega) (by omega) hy4 gr.one hG
      have hcon := contains_c (n := m) (h := g4) (c := doneS S c) (by omega) (by omega) (show DonesR g4 tv s from gr4.cells) (by have := hj.few hG; omega)
      have hmem := hasD_iff hG (fun d hd => by obtain ⟨u, _, e⟩ := hj.all d hd; exact ⟨u, e⟩) (u := c)
      have hcin : c ∈ (enumB (uLo S) (uHi S) (numU S) 0 fun _ => 0) := (enumB_ok _ _ _ _).2 ⟨fun j _ hj => hok.1 j (by omega), fun j hj => hok.2 j (by omega)⟩
      by_cases ht : (∀ k, k < S.ns → RightS S c k) ∧ doneS S c ∉ s
      · have hst : (doneStep S s c).1 = s ++ [doneS S c] := by simp only [doneStep]; rw [if_pos ht]
        have hnc : ¬ HasD s (doneS S c) := fun e => ht.2 (hmem.1 e)
        simp only [rn0, rn1, rn2, rn3, rn4, rn5, rn6, rn7, rn8, if_true, if_false, Nat.le_refl, true_and, and_true, decide_true, decide_false, Bool.not_true, Bool.not_false, reduceIte, Nat.reduceEqDiff, Nat.reduceAdd, Nat.reduceMul, Nat.reduceSub, Nat.reduceLeDiff, Nat.reduceLT, f7, rp4.whole (n := 6) rfl, wd4, hist, eq_true ht.1, rp4.ld, wkg, Nat.zero_add, hcon, eq_false hnc, sl_dn]
        refine step_slice (by omega) dn_one fun g5 hx5 => ?_
        have n5 := hx5.next
        have f5 := hx5.floor
        have gr5 : GrowC (h2.next + 4) g5 tv 3 s.length (fun k j => .int .i64 (((s ++ [doneS S c]).getD k fun _ => 0) j)) := growC_congr (gr4.sub hx5.sub) fun k j hk hj => by
          rw [List.getD_eq_getElem?_getD, List.getD_eq_getElem?_getD, List.getElem?_append_left hk]
        have hlen := hj.len
        obtain ⟨v', g6, e6, ev, gr6, hk6⟩ := gr5.append (bytes := 24) (cap := 1) (by omega) (by omega) (by omega) hx5.get dn_len dn_one (fun j hj => by
          rw [dn_get hj, List.getD_eq_getElem?_getD, List.getElem?_append_right (Nat.le_refl _)]; simp) (by simp [maxBytes, far] at *; omega) (by simp [maxBytes, far] at *; omega)
        have n6 := hk6.next
        have f6 := hk6.floor
        have hbl := fun (i : Nat) (hi : NeB tv i) (hlt : i < g1.next) => (show g6.get i = g5.get i from hk6.old i (by omega) fun b m q e => hi b m q e)
        have neP : NeB tv (h.next + 2) := neB_of gr (by left; omega)
        have neL : NeB tv (h.next + 5) := neB_of gr (by left; omega)
        have hp6 : g6.get (h.next + 2) = some (.row (wkL S vv sv tv) true 0) := by
          rw [hbl _ neP (by omega), hx5.old _ (by omega)]; exact hp4
        simp only [rn0, rn1, rn2, rn3, rn4, rn5, rn6, rn7, rn8, if_true, if_false, Nat.le_refl, true_and, and_true, decide_true, decide_false, Bool.not_true, Bool.not_false, reduceIte, Nat.reduceEqDiff, Nat.reduceAdd, Nat.reduceMul, Nat.reduceSub, Nat.reduceLeDiff, Nat.reduceLT, f7, e6]
        refine step_store (b := h.next + 2) (off := 5) (vs := [v']) (by rfl) hp6 (by omega) (by omega) (by rw [ev]; rfl) (by rw [ev]; rfl) rfl (by simp [wkL]) fun g7 hs7 => ?_
        have n7 := hs7.next
        have f7' := hs7.floor
        have es7 : splice (wkL S vv sv tv) 5 [v'] = wkL S vv sv v' := rfl
        rw [es7] at hs7
        have g7old : ∀ i, i < g1.next → i ≠ h.next + 2 → i ≠ h.next + 5 → NeB tv i → g7.get i = g1.get i := fun i hi h1 h3 hne => by
          rw [hs7.old i h1, hbl i hne hi, hx5.old i (by omega), g4old i hi h3]
        have hl7 : g7.get (h.next + 5) = some (.loop { r with state := .busy }) := by
          rw [hs7.old _ (by omega), hbl _ neL (by omega), hx5.old _ (by omega), hx4.old _ (by omega), hp3.get]
        simp only [rn0, rn1, rn2, rn3, rn4, rn5, rn6, rn7, rn8, if_true, if_false, Nat.le_refl, true_and, and_true, decide_true, decide_false, Bool.not_true, Bool.not_false, reduceIte, Nat.reduceEqDiff, Nat.reduceAdd, Nat.reduceMul, Nat.reduceSub, Nat.reduceLeDiff, Nat.reduceLT]
        refine ⟨hl7, by omega, by omega, fun g8 hp8 => ⟨?_, ?_, ?_, by rw [hp8.floor]; omega, by rw [hp8.next]; omega, by rw [hp8.next]; omega⟩⟩
        · rw [hst]
          have hg7 := hs7.get
          refine ⟨fun i hi hne => ?_, ⟨v', ?_, ?_⟩, by rw [hp8.next]; omega, by rw [List.length_append, List.length_singleton, hp8.next]; omega, fun d hd => ?_, ?_⟩
          · by_cases e : i = h.next + 5
            · subst e; rw [hp8.get, r6, ← hj.old _ hi hne]; exact hloop1.symm
            · rw [hp8.old i e, g7old i (by omega) hne e (neB_of gr (by left; omega))]; exact hj.old i hi hne
          · rw [hp8.old _ (by omega)]; exact hg7
          · rw [List.length_append, List.length_singleton]
            exact (gr6.keep hs7.keep (by omega)).keep hp8.keep (by omega)
          · rcases List.mem_append.1 hd with hd | hd
            · exact hj.all d hd
            · exact ⟨c, hcin, List.mem_singleton.1 hd⟩
          · rw [List.nodup_append]
            exact ⟨hj.nodup, (by simp), fun a ha b hb e => ht.2 (by rw [List.mem_singleton.1 hb] at e; rw [← e]; exact ha)⟩
        · intro i h1 h3 hlt hne
          rw [hp8.old i h3, g7old i hlt h1 h3 hne]
        · refine ⟨v', by rw [hp8.old _ (by omega)]; exact hs7.get, fun q hq _ b m c' e => ?_⟩
          rw [ev] at e
          cases e
          show q ≠ g5.next
          omega
      · have hst : (doneStep S s c).1 = s := by simp only [doneStep]; rw [if_neg ht]
        have hbranch : (∀ k, k < S.ns → RightS S c k) = False ∨ (∀ k, k < S.ns → RightS S c k) = True ∧ HasD s (doneS S c) = True := by
          by_cases c1 : ∀ k, k < S.ns → RightS S c k
          · exact .inr ⟨eq_true c1, eq_true (hmem.2 (Classical.byContradiction fun e => ht ⟨c1, e⟩))⟩
          · exact .inl (eq_false c1)
        have fin : ∀ g5, Put g4 g5 (h.next + 5) (some (.loop (leftBy r .norm))) → JO h2 (h.next + 2) S vv sv (doneStep S s c).1 g5 ∧ (∀ q, q ≠ h.next + 2 → q ≠ h.next + 5 → q < g1.next → NeB tv q → g5.get q = g1.get q) ∧ (∃ tv', g5.get (h.next + 2) = some (.row (wkL S vv sv tv') true 0) ∧ ∀ q, q < g1.next → NeB tv q → NeB tv' q) ∧ g5.floor = h2.floor ∧ g1.next ≤ g5.next ∧ g5.next ≤ g1.next + 10 := fun g5 hp5 => by
          refine ⟨?_, ?_, ?_, by rw [hp5.floor]; omega, by rw [hp5.next]; omega, by rw [hp5.next]; omega⟩
          · rw [hst]
            refine ⟨fun i hi hne => ?_, ⟨tv, ?_, ?_⟩, by rw [hp5.next]; omega, by have := hj.len; rw [hp5.next]; omega, hj.all, hj.nodup⟩
            · by_cases e : i = h.next + 5
              · subst e; rw [hp5.get, r6, ← hj.old _ hi hne]; exact hloop1.symm
              · rw [hp5.old i e, g4old i (by omega) e]; exact hj.old i hi hne
            · rw [hp5.old _ (by omega)]; exact hp4
            · exact gr4.keep hp5.keep (by omega)
          · intro i h1 h3 hlt _
            rw [hp5.old i h3, g4old i hlt h3]
          · exact ⟨tv, by rw [hp5.old _ (by omega)]; exact hp4, fun q _ hq => hq⟩
        have hl4 : g4.get (h.next + 5) = some (.loop { r with state := .busy }) := by rw [hx4.old _ (by omega), hp3.get]
        rcases hbranch with c1 | ⟨c1, c2⟩
        · simp only [rn0, rn1, rn2, rn3, rn4, rn5, rn6, rn7, rn8, if_true, if_false, Nat.le_refl, true_and, and_true, decide_true, decide_false, Bool.not_true, Bool.not_false, reduceIte, Nat.reduceEqDiff, Nat.reduceAdd, Nat.reduceMul, Nat.reduceSub, Nat.reduceLeDiff, Nat.reduceLT, f7, rp4.whole (n := 6) rfl, wd4, hist, c1]
          exact ⟨hl4, by omega, by omega, fun g5 hp5 => fin g5 hp5⟩
        · simp only [rn0, rn1, rn2, rn3, rn4, rn5, rn6, rn7, rn8, if_true, if_false, Nat.le_refl, true_and, and_true, decide_true, decide_false, Bool.not_true, Bool.not_false, reduceIte, Nat.reduceEqDiff, Nat.reduceAdd, Nat.reduceMul, Nat.reduceSub, Nat.reduceLeDiff, Nat.reduceLT, f7, rp4.whole (n := 6) rfl, wd4, hist, c1, rp4.ld, wkg, Nat.zero_add, hcon, c2]
          exact ⟨hl4, by omega, by omega, fun g5 hp5 => fin g5 hp5⟩)
    (by omega)
  obtain ⟨v5, g5, e5, j5, fl5, u5, n5⟩ := hit
  change JO h2 (h.next + 2) S vv sv (donesL S) g5 at j5
  obtain ⟨tv, t1, t2⟩ := j5.tv
  have hup := j5.up
  refine ⟨v5, g5, .norm, by rw [n3]; exact e5, by omega, by omega, by rw [r6, j5.old _ (by omega) (by omega)]; exact hloop, fun g6 hp6 => ?_⟩
  have n6 := hp6.next
  have f6 := hp6.floor
  have t6 : g6.get (h.next + 2) = some (.row (wkL S vv sv tv) true 0) := by rw [hp6.old _ (by omega)]; exact t1
  have rw6 : Row g6 (h.next + 2) (wkL S vv sv tv) := ⟨_, _, t6⟩
  have w6 := rw6.whole (n := 6) rfl
  have r6' : g6.get (h.next + 1) = some (.row wkZ true 0) := by rw [hp6.old _ (by omega), j5.old _ (by omega) (by omega)]; exact hr2'
  have m6 : g6.get (h.next + 4) = some .deferred := by rw [hp6.old _ (by omega), j5.old _ (by omega) (by omega)]; exact hmark
  have ht2 := t2.one
  have hlenI := Cells.len t2.cells g6
  by_cases hz : truthsS S = []
  · have hz' : ((donesL S).length : Int) = 0 := by rw [dones_nil.2 hz]; rfl
    simp only [rn0, rn1, rn2, rn3, rn4, rn5, rn6, rn7, rn8, if_true, if_false, Nat.le_refl, true_and, and_true, decide_true, decide_false, Bool.not_true, Bool.not_false, reduceIte, Nat.reduceEqDiff, Nat.reduceAdd, Nat.reduceMul, Nat.reduceSub, Nat.reduceLeDiff, Nat.reduceLT, f7, f4', rw6.ld, wkg, Nat.zero_add, hlenI, hz', build_wkZ]
    refine step_store (vs := wkZ) rfl r6' (by omega) (by omega) rfl rfl rfl (by simp) fun g7 hs7 => ?_
    have n7 := hs7.next
    have f7' := hs7.floor
    simp only [rn0, rn1, rn2, rn3, rn4, rn5, rn6, rn7, rn8, if_true, if_false, Nat.le_refl, true_and, and_true, decide_true, decide_false, Bool.not_true, Bool.not_false, reduceIte, Nat.reduceEqDiff, Nat.reduceAdd, Nat.reduceMul, Nat.reduceSub, Nat.reduceLeDiff, Nat.reduceLT, f7, f4']
    refine ret_mark (.inr rfl) (by rw [hs7.old _ (by omega)]; exact m6) (by omega) (by omega) fun g8 hp8 => ?_
    have n8 := hp8.next
    have f8 := hp8.floor
    have w8 : Row g8 (h.next + 1) wkZ := ⟨true, 0, by rw [hp8.old _ (by omega), hs7.get]; rfl⟩
    simp only [rn0, rn1, rn2, rn3, rn4, rn5, rn6, rn7, rn8, if_true, if_false, Nat.le_refl, true_and, and_true, decide_true, decide_false, Bool.not_true, Bool.not_false, reduceIte, Nat.reduceEqDiff, Nat.reduceAdd, Nat.reduceMul, Nat.reduceSub, Nat.reduceLeDiff, Nat.reduceLT, res_two, f4', w8.whole (n := 6) rfl]
    exact ⟨fun i hi => by rw [hp8.old i (by omega), hs7.old i (by omega), hp6.old i (by omega), j5.old i (by omega) (by omega), hbase i hi], by omega, by omega, by omega, .inr (.inr (.inl ⟨hf, hP, hz, rfl⟩))⟩
  · have hz' : ¬ ((donesL S).length : Int) = 0 := fun e => hz (dones_nil.1 (List.eq_nil_of_length_eq_zero (by omega)))
    simp only [rn0, rn1, rn2, rn3, rn4, rn5, rn6, rn7, rn8, if_true, if_false, Nat.le_refl, true_and, and_true, decide_true, decide_false, Bool.not_true, Bool.not_false, reduceIte, Nat.reduceEqDiff, Nat.reduceAdd, Nat.reduceMul, Nat.reduceSub, Nat.reduceLeDiff, Nat.reduceLT, f7, f4', rw6.ld, wkg, Nat.zero_add, hlenI, hz', w6]
    refine step_store (vs := wkL S vv sv tv) rfl r6' (by omega) (by omega) rfl (wk_one hy ht2) rfl (by simp) fun g7 hs7 => ?_
    have n7 := hs7.next
    have f7' := hs7.floor
    simp only [rn0, rn1, rn2, rn3, rn4, rn5, rn6, rn7, rn8, if_true, if_false, Nat.le_refl, true_and, and_true, decide_true, decide_false, Bool.not_true, Bool.not_false, reduceIte, Nat.reduceEqDiff, Nat.reduceAdd, Nat.reduceMul, Nat.reduceSub, Nat.reduceLeDiff, Nat.reduceLT, f7, f4', w6]
    refine ret_mark (.inr rfl) (by rw [hs7.old _ (by omega)]; exact m6) (by omega) (by omega) fun g8 hp8 => ?_
    have n8 := hp8.next
    have f8 := hp8.floor
    have w8 : Row g8 (h.next + 1) (wkL S vv sv tv) := ⟨true, 0, by rw [hp8.old _ (by omega), hs7.get]; rfl⟩
    simp only [rn0, rn1, rn2, rn3, rn4, rn5, rn6, rn7, rn8, if_true, if_false, Nat.le_refl, true_and, and_true, decide_true, decide_false, Bool.not_true, Bool.not_false, reduceIte, Nat.reduceEqDiff, Nat.reduceAdd, Nat.reduceMul, Nat.reduceSub, Nat.reduceLeDiff, Nat.reduceLT, res_two, f4', w8.whole (n := 6) rfl]
    refine ⟨fun i hi => ?_, by omega, by omega, by omega, .inr (.inr (.inr ⟨hf, hP, hz, tv, rfl, ht2, ?_, fun a k c e => by have := (t2.block e).1; omega, t2.long⟩))⟩
    · rw [hp8.old i (by omega), hs7.old i (by omega), hp6.old i (by omega), j5.old i (by omega) (by omega), hbase i hi]
    · exact (((t2.keep hp6.keep (by omega)).keep hs7.keep (by omega)).keep hp8.keep (by omega)).cells
end Go.Vm.Bt

namespace Go.Vm.Bt
open Go.Proofs Go.Vm.Vat Go.Vm.L2
set_option linter.unusedSimpArgs false
set_option linter.unusedVariables false
set_option maxRecDepth 10000
variable {n : Nat} {h : AHeap}
def s134 : SCode := (.seq (.ops [⟨(some 4), none, .mov (.const (.int .i64 (0)))⟩]) (.seq (.seq (.ops [⟨(some 7), none, .mov (T 1)⟩, ⟨(some 8), none, .len (T 7)⟩, ⟨(some 9), none, .mov (.const (.int .i64 (0)))⟩]) (.block 0 (.loop (.seq (.ops [⟨(some 10), none, .int2 .lss (T 9) (T 8)⟩]) (.seq (.cond (T 10) .skip (.exit 0)) (.seq (.block 1 (.seq (.ops [⟨(some 11), none, .idxSl 1 (T 7) (T 9)⟩, ⟨(some 12), none, .load1 (T 11)⟩, ⟨(some 6), none, .mov (T 12)⟩]) (.ops [⟨(some 13), none, .mov (T 0)⟩, ⟨(some 14), none, .mov (T 6)⟩, ⟨(some 15), none, .plain (.call { callee := .builtin .min, args := #[(T 13), (T 14)], argTypes := #[3, 3] }) 3⟩, ⟨(some 0), none, .mov (T 15)⟩]))) (.ops [⟨(some 16), none, .int2 .add (T 9) (.const (.int .i64 (1)))⟩, ⟨(some 9), none, .mov (T 16)⟩]))))))) (.seq (.ops [⟨(some 17), none, .mov (T 0)⟩, ⟨(some 4), none, .mov (T 17)⟩]) .ret)))
theorem fok134 : FnOk Try.prog 134 18 s134 [.tmp 4] := ⟨Try.f134, _, Try.func134, rfl, Try.ntmps134, by kernel_rfl, by kernel_rfl⟩
theorem minimum_c {m : Nat} (hn : m + 2 ≤ n) (hm : m ≤ 1000) {v : Value} {a : Nat → Int} (hi : Ints h v m a) (x : Int) : call n (.func (.func 134) #[] #[]) [.int .i64 x, v] h = some (.int .i64 (minN x a m), h) := by
  obtain ⟨n, rfl⟩ : ∃ p, n = p + 1 := ⟨n - 1, by omega⟩
  refine call_plain0 fok134 rfl rfl (by simp) rfl ?_
  have hi := Cells.shut hi
  generalize h.shutAll = h at hi
  simp only [rn0, rn1, rn2, rn3, rn4, rn5, rn6, rn7, rn8, if_true, if_false, Nat.le_refl, true_and, and_true, decide_true, decide_false, Bool.not_true, Bool.not_false, reduceIte, Nat.reduceEqDiff, Nat.reduceAdd, Nat.reduceMul, Nat.reduceSub, Nat.reduceLeDiff, Nat.reduceLT, s134, Cells.len hi]
  refine W_loop m (fun k f g ms => g = h ∧ ms = [] ∧ f 0 = .int .i64 (minN x a k) ∧ f 7 = v ∧ f 8 = .int .i64 (m : Int) ∧ f 9 = .int .i64 (k : Int)) (by simp; omega) ?_ ?_ ?_
  · simp only [rn0, rn1, rn2, rn3, rn4, rn5, rn6, rn7, rn8, if_true, if_false, Nat.le_refl, true_and, and_true, decide_true, decide_false, Bool.not_true, Bool.not_false, reduceIte, Nat.reduceEqDiff, Nat.reduceAdd, Nat.reduceMul, Nat.reduceSub, Nat.reduceLeDiff, Nat.reduceLT]
    exact ⟨rfl, rfl⟩
  · rintro k f g ms hk ⟨rfl, rfl, f0, f7, f8, f9⟩
    have hk' : (k : Int) < (m : Int) := by omega
    have hw : wrapF .i64 ((k : Int) + 1) = ((k + 1 : Nat) : Int) := by rw [wrap_in (by omega) (by omega)]; rfl
    have he : min (minN x a k) (a k) = minN x a (k + 1) := rfl
    simp only [rn0, rn1, rn2, rn3, rn4, rn5, rn6, rn7, rn8, if_true, if_false, Nat.le_refl, true_and, and_true, decide_true, decide_false, Bool.not_true, Bool.not_false, reduceIte, Nat.reduceEqDiff, Nat.reduceAdd, Nat.reduceMul, Nat.reduceSub, Nat.reduceLeDiff, Nat.reduceLT, f0, f7, f8, f9, hk', Cells.idx hi hk, Cells.ld hi hk Nat.zero_lt_one, valN_tmp, Nat.reduceLT, he, hw]
  · rintro f g ms ⟨rfl, rfl, f0, f7, f8, f9⟩
    simp only [rn0, rn1, rn2, rn3, rn4, rn5, rn6, rn7, rn8, if_true, if_false, Nat.le_refl, true_and, and_true, decide_true, decide_false, Bool.not_true, Bool.not_false, reduceIte, Nat.reduceEqDiff, Nat.reduceAdd, Nat.reduceMul, Nat.reduceSub, Nat.reduceLeDiff, Nat.reduceLT, f0, f7, f8, f9, Int.lt_irrefl]
def s123 : SCode := (.seq (.ops [⟨(some 3), none, .box (T 0)⟩, ⟨(some 6), none, .alloc [(.int .i64 (0)), (.int .i64 (0))]⟩]) (.seq (.draw [⟨.free, ⟨(some 12), none, .fieldAddr 0 (T 3)⟩⟩, ⟨.rd1, ⟨(some 13), none, .load1 (T 12)⟩⟩, ⟨.free, ⟨(some 14), none, .mov (T 1)⟩⟩, ⟨.free, ⟨(some 15), none, .idxSl 3 (T 14) (.const (.int .i64 (0)))⟩⟩, ⟨.rd1, ⟨(some 16), none, .loadN 3 (T 15)⟩⟩, ⟨.free, ⟨(some 17), none, .mov (T 2)⟩⟩, ⟨.any, ⟨(some 18), none, .call (T 13) [(T 16), (T 17)]⟩⟩, ⟨.free, ⟨(some 7), none, .mov (T 18)⟩⟩]) (.seq (.ops [⟨(some 19), none, .mov (T 7)⟩, ⟨(some 20), none, .mov (T 7)⟩, ⟨(some 21), none, .build #[(0, 1), (1, 1)] [(.int .i64 (0)), (.int .i64 (0))] [0, 1] [(T 19), (T 20)]⟩, ⟨(some 8), none, .alloc [(.int .i64 (0)), (.int .i64 (0))]⟩, ⟨none, none, .store 2 (T 8) (T 21)⟩]) (.seq (.seq (.ops [⟨(some 22), none, .mov (T 1)⟩, ⟨(some 23), none, .slice 3 (T 22) (some (.const (.int .i64 (1)))) none none⟩, ⟨(some 24), none, .len (T 23)⟩, ⟨(some 25), none, .mov (.const (.int .i64 (0)))⟩]) (.block 0 (.loop (.seq (.ops [⟨(some 26), none, .int2 .lss (T 25) (T 24)⟩]) (.seq (.cond (T 26) .skip (.exit 0)) (.seq (.block 1 (.seq (.ops [⟨(some 27), none, .idxSl 3 (T 23) (T 25)⟩, ⟨(some 28), none, .loadN 3 (T 27)⟩, ⟨(some 10), none, .alloc [(.int .i64 (0)), (.int .i64 (0)), (.int .i64 (0))]⟩, ⟨none, none, .store 3 (T 10) (T 28)⟩]) (.seq (.ops [⟨(some 29), none, .fieldAddr 0 (T 3)⟩, ⟨(some 30), none, .load1 (T 29)⟩, ⟨(some 31), none, .loadN 3 (T 10)⟩, ⟨(some 32), none, .mov (T 2)⟩, ⟨(some 33), none, .call (T 30) [(T 31), (T 32)]⟩, ⟨(some 11), none, .mov (T 33)⟩]) (.draw [⟨.free, ⟨(some 34), none, .fieldAddr 0 (T 8)⟩⟩, ⟨.rd, ⟨(some 35), none, .load1 (T 34)⟩⟩, ⟨.free, ⟨(some 36), none, .mov (T 11)⟩⟩, ⟨.up, ⟨(some 37), none, .bslice 1 1 [(.int .i64 (0))] [0] [(T 36)]⟩⟩, ⟨.up, ⟨(some 38), none, .call (.func 134) [(T 35), (T 37)]⟩⟩, ⟨.free, ⟨(some 39), none, .fieldAddr 1 (T 8)⟩⟩, ⟨.rd, ⟨(some 40), none, .load1 (T 39)⟩⟩, ⟨.free, ⟨(some 41), none, .mov (T 11)⟩⟩, ⟨.free, ⟨(some 42), none, .plain (.call { callee := .builtin .max, args := #[(T 40), (T 41)], argTypes := #[3, 3] }) 3⟩⟩, ⟨.free, ⟨(some 43), none, .build #[(0, 1), (1, 1)] [(.int .i64 (0)), (.int .i64 (0))] [0, 1] [(T 38), (T 42)]⟩⟩, ⟨.any, ⟨none, none, .store 2 (T 8) (T 43)⟩⟩])))) (.ops [⟨(some 44), none, .int2 .add (T 25) (.const (.int .i64 (1)))⟩, ⟨(some 25), none, .mov (T 44)⟩]))))))) (.seq (.ops [⟨(some 45), none, .loadN 2 (T 8)⟩, ⟨none, none, .store 2 (T 6) (T 45)⟩]) .ret)))))
theorem fok123 : FnOk Try.prog 123 46 s123 [.cellN 6 2] := ⟨Try.f123, _, Try.func123, rfl, Try.ntmps123, by kernel_rfl, by kernel_rfl⟩
set_option maxHeartbeats 1000000 in
theorem boundsI_c (hn : 600 ≤ n) (hr : h.next + 5000 < far) {tv : Value} {L : List (Nat → Int)} {G : Nat} {val : (Nat → Int) → Int} {ai : Nat} (hL : L ≠ []) (hlen : L.length ≤ 300) (htr : DonesR h tv L) (hlong : Long tv) 
    (hG : ∀ g, Sub All h g → g.next + 100 < far → ∀ t, t ∈ L → call (n - 1) (.func (.func G) #[] #[]) [.agg ⟨dn t⟩, .int .i64 (ai : Int)] g = some (.int .i64 (val t), g)) :
    call n (.func (.func 123) #[] #[]) [.agg ⟨[.func (.func G) #[] #[]]⟩, tv, .int .i64 (ai : Int)] h = some (.agg ⟨[.int .i64 (loN val L), .int .i64 (hiN val L)]⟩, h) := by
  obtain ⟨n, rfl⟩ : ∃ p, n = p + 1 := ⟨n - 1, by omega⟩
  rw [Nat.add_sub_cancel] at hG
  have hpos : 0 < L.length := List.length_pos_iff.2 hL
  have hat : ∀ i, i < L.length → L.getD i (fun _ => 0) ∈ L := fun i hi => getD_mem hi
  refine call_plain0 fok123 rfl rfl (by simp) rfl ?_
  have htr : DonesR h.shutAll tv L := Cells.shut htr
  have hr : h.shutAll.next + 5000 < far := hr
  have hfl : h.shutAll.floor ≤ h.shutAll.next := Nat.le_refl _
  have hG : ∀ g, Sub All h.shutAll g → g.next + 100 < far → ∀ t, t ∈ L → call n (.func (.func G) #[] #[]) [.agg ⟨dn t⟩, .int .i64 (ai : Int)] g = some (.int .i64 (val t), g) := fun g hs => hG g (Sub.trans (fun _ _ _ _ _ h => h) hs)
  generalize h.shutAll = h at htr hr hfl hG
  simp only [s123, W_seq, W_ops]
  refine ops_box (cs := [.func (.func G) #[] #[]]) (by omega) rfl rfl fun g1 hx1 => ?_
  have n1 := hx1.next
  have f1 := hx1.floor
  obtain ⟨g2, rfl⟩ : ∃ g2, g2 = g1 := ⟨_, rfl⟩
  have hx2 : Sub All g2 g2 := Sub.refl
  have n2 : g2.next ≤ g2.next + 1 := by omega
  refine ops_alloc (cs := [.int .i64 0, .int .i64 0]) (by omega) rfl fun g3 hx3 => ?_
  have n3 := hx3.next
  have f3 := hx3.floor
  have s3 : Sub All h g3 := hx1.sub.trans hx3.sub
  have r1 := hx1.row.mono hx3.sub
  have ht3 : DonesR g3 tv L := Cells.mono htr s3
  have i0 : indexSl 3 tv (.int .i64 0) = some (ptrO tv 3 0 0) := Cells.idx ht3 hpos
  have e0 := hG g3 s3 (by omega) _ (hat 0 hpos)
  simp only [rn0, rn1, rn2, rn3, rn4, rn5, rn6, rn7, rn8, if_true, if_false, Nat.le_refl, true_and, and_true, decide_true, decide_false, Bool.not_true, Bool.not_false, reduceIte, Nat.reduceEqDiff, Nat.reduceAdd, Nat.reduceMul, Nat.reduceSub, Nat.reduceLeDiff, Nat.reduceLT]
  refine W_draw All ?_
  simp only [rn0, rn1, rn2, rn3, rn4, rn5, rn6, rn7, rn8, if_true, if_false, Nat.le_refl, true_and, and_true, decide_true, decide_false, Bool.not_true, Bool.not_false, reduceIte, Nat.reduceEqDiff, Nat.reduceAdd, Nat.reduceMul, Nat.reduceSub, Nat.reduceLeDiff, Nat.reduceLT, r1.ld, Nat.zero_add, List.getElem?_cons_zero, List.getElem?_cons_succ, i0, dones_ld ht3 hpos, dn_self, e0, build_range]
  generalize hv0 : val (L.getD 0 fun _ => 0) = v0
  refine step_new (vs := [.int .i64 v0, .int .i64 v0]) (by omega) (by omega) rfl (by simp only [rn0, rn1, rn2, rn3, rn4, rn5, rn6, rn7, rn8, if_true, if_false, Nat.le_refl, true_and, and_true, decide_true, decide_false, Bool.not_true, Bool.not_false, reduceIte, Nat.reduceEqDiff, Nat.reduceAdd, Nat.reduceMul, Nat.reduceSub, Nat.reduceLeDiff, Nat.reduceLT]; rfl) rfl rfl rfl fun g4 hx4 => ?_
  have n4 := hx4.next
  have f4 := hx4.floor
  obtain ⟨tl, g5, et, _, s5, u5, b5, f5, o5, htl⟩ := tail_c (Cells.mono ht3 hx4.sub) hpos hlong (by omega)
  have ht5 := htl g5 (Cells.mono (Cells.mono ht3 hx4.sub) s5)
  simp only [rn0, rn1, rn2, rn3, rn4, rn5, rn6, rn7, rn8, if_true, if_false, Nat.le_refl, true_and, and_true, decide_true, decide_false, Bool.not_true, Bool.not_false, reduceIte, Nat.reduceEqDiff, Nat.reduceAdd, Nat.reduceMul, Nat.reduceSub, Nat.reduceLeDiff, Nat.reduceLT, Option.isSome_none, Option.map_some, Option.map_none, et, Cells.len ht5]
  have r10 : g5.get g3.next = some (.row [.int .i64 v0, .int .i64 v0] true 0) := s5 _ _ _ _ trivial hx4.get
  have r15 := (r1.mono hx4.sub).mono s5
  have r6 : g5.get g2.next = some (.row [.int .i64 0, .int .i64 0] true 0) := s5 _ _ _ _ trivial (hx4.sub _ _ _ _ trivial hx3.get)
  refine W_loop (L.length - 1) (fun i f g' ms => (Keep g3.next g5 g' ∧ g'.get g3.next = some (.row [.int .i64 (minN v0 (fun i => val (L.getD (i + 1) fun _ => 0)) i), .int .i64 (maxN v0 (fun i => val (L.getD (i + 1) fun _ => 0)) i)] true 0) ∧ g'.next ≤ g5.next + 4 * i) ∧ ms = [] ∧
    f 3 = .pointer (some ⟨h.next, 0, none⟩) ∧ f 2 = .int .i64 (ai : Int) ∧ f 6 = .pointer (some ⟨g2.next, 0, none⟩) ∧ f 8 = .pointer (some ⟨g3.next, 0, none⟩) ∧ f 23 = tl ∧ f 24 = .int .i64 ((L.length - 1 : Nat) : Int) ∧ f 25 = .int .i64 (i : Int)) (by simp; omega) ?_ ?_ ?_
  · simp only [rn0, rn1, rn2, rn3, rn4, rn5, rn6, rn7, rn8, if_true, if_false, Nat.le_refl, true_and, and_true, decide_true, decide_false, Bool.not_true, Bool.not_false, reduceIte, Nat.reduceEqDiff, Nat.reduceAdd, Nat.reduceMul, Nat.reduceSub, Nat.reduceLeDiff, Nat.reduceLT]
    have hfin := And.intro (Keep.refl (o := g3.next) (h := g5)) (And.intro r10 (Nat.le_refl g5.next))
    first | exact ⟨hfin, rfl⟩ | exact hfin
  · rintro i f g' ms hi ⟨⟨kin, gi, gin⟩, rfl, p3, p5, p6, p8, p23, p24, p25⟩
    have hi' : (i : Int) < ((L.length - 1 : Nat) : Int) := by omega
    have hwi : wrapF .i64 ((i : Int) + 1) = ((i + 1 : Nat) : Int) := by rw [wrap_in (by omega) (by omega)]; rfl
    have kup := kin.up
    have kfl := kin.floor
    have sg' : Sub All h g' := fun j cs w gr t hg => kin.sub _ _ _ _ (by have := AHeap.lt_of_get hg; omega) (s5 _ _ _ _ t (hx4.sub _ _ _ _ t (s3 _ _ _ _ t hg)))
    have ht' := htl g' (Cells.mono htr sg')
    have hld : loadAgg 3 g' (ptrO tl 3 i 0) = some (.agg ⟨dn (L.getD (i + 1) fun _ => 0)⟩) := by
      rw [Cells.ldN ht' hi (by omega) (by omega)]; simp [dn, List.range_succ]
    have r1' := r15.keep kin (by omega)
    simp only [rn0, rn1, rn2, rn3, rn4, rn5, rn6, rn7, rn8, if_true, if_false, Nat.le_refl, true_and, and_true, decide_true, decide_false, Bool.not_true, Bool.not_false, reduceIte, Nat.reduceEqDiff, Nat.reduceAdd, Nat.reduceMul, Nat.reduceSub, Nat.reduceLeDiff, Nat.reduceLT, p3, p5, p6, p8, p23, p24, p25, hi', Cells.idx ht' hi, hld]
    refine step_new (vs := dn (L.getD (i + 1) fun _ => 0)) (by omega) (by omega) rfl (by simp only [rn0, rn1, rn2, rn3, rn4, rn5, rn6, rn7, rn8, if_true, if_false, Nat.le_refl, true_and, and_true, decide_true, decide_false, Bool.not_true, Bool.not_false, reduceIte, Nat.reduceEqDiff, Nat.reduceAdd, Nat.reduceMul, Nat.reduceSub, Nat.reduceLeDiff, Nat.reduceLT]; rfl) dn_one dn_len rfl fun g6 hx6 => ?_
    have n6 := hx6.next
    have f6 := hx6.floor
    have e6 := hG g6 (sg'.trans hx6.sub) (by omega) _ (hat (i + 1) (by omega))
    have r16 := r1'.mono hx6.sub
    have r106 : Row g6 g3.next _ := ⟨_, _, hx6.sub _ _ _ _ trivial gi⟩
    simp only [rn0, rn1, rn2, rn3, rn4, rn5, rn6, rn7, rn8, if_true, if_false, Nat.le_refl, true_and, and_true, decide_true, decide_false, Bool.not_true, Bool.not_false, reduceIte, Nat.reduceEqDiff, Nat.reduceAdd, Nat.reduceMul, Nat.reduceSub, Nat.reduceLeDiff, Nat.reduceLT, p3, p5, p6, p8, p23, p24, p25, r16.ld, hx6.row.whole dn_len, Nat.zero_add, List.getElem?_cons_zero, List.getElem?_cons_succ, e6]
    refine W_draw All ?_
    simp only [rn0, rn1, rn2, rn3, rn4, rn5, rn6, rn7, rn8, if_true, if_false, Nat.le_refl, true_and, and_true, decide_true, decide_false, Bool.not_true, Bool.not_false, reduceIte, Nat.reduceEqDiff, Nat.reduceAdd, Nat.reduceMul, Nat.reduceSub, Nat.reduceLeDiff, Nat.reduceLT, p3, p5, p6, p8, p23, p24, p25, r106.ld, Nat.zero_add, List.getElem?_cons_zero, List.getElem?_cons_succ, sl_int]
    generalize hv1 : val (L.getD (i + 1) fun _ => 0) = v1
    refine up_slice (by omega) rfl (fun g7 hx => hx.sub) fun g7 hx7 => ?_
    have n7 := hx7.next
    have f7 := hx7.floor
    have hone : Ints g7 (.slice (some ⟨g6.next, 0, none⟩) 1 1) 1 (fun _ => v1) := ⟨_, _, rfl, fun x e => by cases e; rfl, .inr ⟨_, 0, _, _, _, rfl, hx7.get, fun i j hi hj => by
      have hi : i = 0 := by omega
      have hj : j = 0 := by omega
      subst hi hj; rfl⟩⟩
    have em := minimum_c (n := n) (h := g7) (m := 1) (by omega) (by omega) hone (minN v0 (fun i => val (L.getD (i + 1) fun _ => 0)) i)
    have hmin : minN (minN v0 (fun i => val (L.getD (i + 1) fun _ => 0)) i) (fun _ => v1) 1 = minN v0 (fun i => val (L.getD (i + 1) fun _ => 0)) (i + 1) := by simp only [minN, hv1]
    have hmax : max (maxN v0 (fun i => val (L.getD (i + 1) fun _ => 0)) i) v1 = maxN v0 (fun i => val (L.getD (i + 1) fun _ => 0)) (i + 1) := by simp only [maxN, hv1]
    rw [hmin] at em
    simp only [rn0, rn1, rn2, rn3, rn4, rn5, rn6, rn7, rn8, if_true, if_false, Nat.le_refl, true_and, and_true, decide_true, decide_false, Bool.not_true, Bool.not_false, reduceIte, Nat.reduceEqDiff, Nat.reduceAdd, Nat.reduceMul, Nat.reduceSub, Nat.reduceLeDiff, Nat.reduceLT, p3, p5, p6, p8, p23, p24, p25, em, r106.ld, Nat.zero_add, List.getElem?_cons_zero, List.getElem?_cons_succ, valN_tmp, Nat.reduceLT, hmax, build_range, eqV_int]
    refine ⟨hx7.sub, ?_⟩
    refine up_store (b := g3.next) (off := 0) (vs := [.int .i64 (minN v0 (fun i => val (L.getD (i + 1) fun _ => 0)) (i + 1)), .int .i64 (maxN v0 (fun i => val (L.getD (i + 1) fun _ => 0)) (i + 1))]) rfl (hx7.sub _ _ _ _ trivial (hx6.sub _ _ _ _ trivial gi)) (by omega) (by omega) rfl rfl rfl (by simp) (fun _ _ => trivial) fun g8 hs8 => ?_
    rw [splice2] at hs8
    have n8 := hs8.next
    have f8 := hs8.floor
    simp only [rn0, rn1, rn2, rn3, rn4, rn5, rn6, rn7, rn8, if_true, if_false, Nat.le_refl, true_and, and_true, decide_true, decide_false, Bool.not_true, Bool.not_false, reduceIte, Nat.reduceEqDiff, Nat.reduceAdd, Nat.reduceMul, Nat.reduceSub, Nat.reduceLeDiff, Nat.reduceLT, p3, p5, p6, p8, p23, p24, p25, hwi]
    have hfin := And.intro ((kin.trans ⟨fun j cs w gr hj hg => hx7.sub _ _ _ _ trivial (hx6.sub _ _ _ _ trivial hg), by omega, by omega⟩).trans hs8.keep) (And.intro hs8.get (by omega : g8.next ≤ g5.next + 4 * (i + 1)))
    first | exact hfin | exact ⟨hfin, rfl⟩
  · rintro f g' ms ⟨⟨kin, gi, gin⟩, rfl, p3, p5, p6, p8, p23, p24, p25⟩
    have kup := kin.up
    have kfl := kin.floor
    have w10 := (show Row g' g3.next _ from ⟨_, _, gi⟩).whole (n := 2) rfl
    have hlo : minN v0 (fun i => val (L.getD (i + 1) fun _ => 0)) (L.length - 1) = loN val L := by unfold loN; rw [hv0]
    have hhi : maxN v0 (fun i => val (L.getD (i + 1) fun _ => 0)) (L.length - 1) = hiN val L := by unfold hiN; rw [hv0]
    rw [hlo, hhi] at w10
    simp only [rn0, rn1, rn2, rn3, rn4, rn5, rn6, rn7, rn8, if_true, if_false, Nat.le_refl, true_and, and_true, decide_true, decide_false, Bool.not_true, Bool.not_false, reduceIte, Nat.reduceEqDiff, Nat.reduceAdd, Nat.reduceMul, Nat.reduceSub, Nat.reduceLeDiff, Nat.reduceLT, p3, p5, p6, p8, p23, p24, p25, Int.lt_irrefl, w10]
    refine step_store (b := g2.next) (off := 0) (vs := [.int .i64 (loN val L), .int .i64 (hiN val L)]) rfl (kin.sub _ _ _ _ (by omega) r6) (by omega) (by omega) rfl rfl rfl (by simp) fun g8 hs8 => ?_
    rw [splice2] at hs8
    simp only [rn0, rn1, rn2, rn3, rn4, rn5, rn6, rn7, rn8, if_true, if_false, Nat.le_refl, true_and, and_true, decide_true, decide_false, Bool.not_true, Bool.not_false, reduceIte, Nat.reduceEqDiff, Nat.reduceAdd, Nat.reduceMul, Nat.reduceSub, Nat.reduceLeDiff, Nat.reduceLT, p6, res_cellN, hs8.row.whole (n := 2) rfl]
def s125 : SCode := (.seq (.ops [⟨(some 3), none, .box (T 0)⟩, ⟨(some 5), none, .box (T 2)⟩, ⟨(some 6), none, .alloc [(.int .i64 (0)), (.int .i64 (0))]⟩]) (.seq (.draw [⟨.free, ⟨(some 12), none, .fieldAddr 0 (T 3)⟩⟩, ⟨.rd1, ⟨(some 13), none, .load1 (T 12)⟩⟩, ⟨.free, ⟨(some 14), none, .mov (T 1)⟩⟩, ⟨.free, ⟨(some 15), none, .idxSl 3 (T 14) (.const (.int .i64 (0)))⟩⟩, ⟨.rd1, ⟨(some 16), none, .loadN 3 (T 15)⟩⟩, ⟨.rd1, ⟨(some 17), none, .loadN 2 (T 5)⟩⟩, ⟨.any, ⟨(some 18), none, .call (T 13) [(T 16), (T 17)]⟩⟩, ⟨.free, ⟨(some 7), none, .mov (T 18)⟩⟩]) (.seq (.ops [⟨(some 19), none, .mov (T 7)⟩, ⟨(some 20), none, .mov (T 7)⟩, ⟨(some 21), none, .build #[(0, 1), (1, 1)] [(.int .i64 (0)), (.int .i64 (0))] [0, 1] [(T 19), (T 20)]⟩, ⟨(some 8), none, .alloc [(.int .i64 (0)), (.int .i64 (0))]⟩, ⟨none, none, .store 2 (T 8) (T 21)⟩]) (.seq (.seq (.ops [⟨(some 22), none, .mov (T 1)⟩, ⟨(some 23), none, .slice 3 (T 22) (some (.const (.int .i64 (1)))) none none⟩, ⟨(some 24), none, .len (T 23)⟩, ⟨(some 25), none, .mov (.const (.int .i64 (0)))⟩]) (.block 0 (.loop (.seq (.ops [⟨(some 26), none, .int2 .lss (T 25) (T 24)⟩]) (.seq (.cond (T 26) .skip (.exit 0)) (.seq (.block 1 (.seq (.ops [⟨(some 27), none, .idxSl 3 (T 23) (T 25)⟩, ⟨(some 28), none, .loadN 3 (T 27)⟩, ⟨(some 10), none, .alloc [(.int .i64 (0)), (.int .i64 (0)), (.int .i64 (0))]⟩, ⟨none, none, .store 3 (T 10) (T 28)⟩]) (.seq (.ops [⟨(some 29), none, .fieldAddr 0 (T 3)⟩, ⟨(some 30), none, .load1 (T 29)⟩, ⟨(some 31), none, .loadN 3 (T 10)⟩, ⟨(some 32), none, .loadN 2 (T 5)⟩, ⟨(some 33), none, .call (T 30) [(T 31), (T 32)]⟩, ⟨(some 11), none, .mov (T 33)⟩]) (.draw [⟨.free, ⟨(some 34), none, .fieldAddr 0 (T 8)⟩⟩, ⟨.rd, ⟨(some 35), none, .load1 (T 34)⟩⟩, ⟨.free, ⟨(some 36), none, .mov (T 11)⟩⟩, ⟨.up, ⟨(some 37), none, .bslice 1 1 [(.int .i64 (0))] [0] [(T 36)]⟩⟩, ⟨.up, ⟨(some 38), none, .call (.func 134) [(T 35), (T 37)]⟩⟩, ⟨.free, ⟨(some 39), none, .fieldAddr 1 (T 8)⟩⟩, ⟨.rd, ⟨(some 40), none, .load1 (T 39)⟩⟩, ⟨.free, ⟨(some 41), none, .mov (T 11)⟩⟩, ⟨.free, ⟨(some 42), none, .plain (.call { callee := .builtin .max, args := #[(T 40), (T 41)], argTypes := #[3, 3] }) 3⟩⟩, ⟨.free, ⟨(some 43), none, .build #[(0, 1), (1, 1)] [(.int .i64 (0)), (.int .i64 (0))] [0, 1] [(T 38), (T 42)]⟩⟩, ⟨.any, ⟨none, none, .store 2 (T 8) (T 43)⟩⟩])))) (.ops [⟨(some 44), none, .int2 .add (T 25) (.const (.int .i64 (1)))⟩, ⟨(some 25), none, .mov (T 44)⟩]))))))) (.seq (.ops [⟨(some 45), none, .loadN 2 (T 8)⟩, ⟨none, none, .store 2 (T 6) (T 45)⟩]) .ret)))))
theorem fok125 : FnOk Try.prog 125 46 s125 [.cellN 6 2] := ⟨Try.f125, _, Try.func125, rfl, Try.ntmps125, by kernel_rfl, by kernel_rfl⟩
set_option maxHeartbeats 1000000 in
theorem boundsP_c (hn : 600 ≤ n) (hr : h.next + 5000 < far) {tv : Value} {L : List (Nat → Int)} {G : Nat} {val : (Nat → Int) → Int} {pa pb : Value} (hL : L ≠ []) (hlen : L.length ≤ 300) (htr : DonesR h tv L) (hlong : Long tv) (hab : allB oneCell [pa, pb] = true) (hself : eqV (.agg ⟨[pa, pb]⟩) (.agg ⟨[pa, pb]⟩) = true)
    (hG : ∀ g, Sub All h g → g.next + 100 < far → ∀ t, t ∈ L → call (n - 1) (.func (.func G) #[] #[]) [.agg ⟨dn t⟩, .agg ⟨[pa, pb]⟩] g = some (.int .i64 (val t), g)) :
    call n (.func (.func 125) #[] #[]) [.agg ⟨[.func (.func G) #[] #[]]⟩, tv, .agg ⟨[pa, pb]⟩] h = some (.agg ⟨[.int .i64 (loN val L), .int .i64 (hiN val L)]⟩, h) := by
  obtain ⟨n, rfl⟩ : ∃ p, n = p + 1 := ⟨n - 1, by omega⟩
  rw [Nat.add_sub_cancel] at hG
  have hpos : 0 < L.length := List.length_pos_iff.2 hL
  have hat : ∀ i, i < L.length → L.getD i (fun _ => 0) ∈ L := fun i hi => getD_mem hi
  refine call_plain0 fok125 rfl rfl (by simp) rfl ?_
  have htr : DonesR h.shutAll tv L := Cells.shut htr
  have hr : h.shutAll.next + 5000 < far := hr
  have hfl : h.shutAll.floor ≤ h.shutAll.next := Nat.le_refl _
  have hG : ∀ g, Sub All h.shutAll g → g.next + 100 < far → ∀ t, t ∈ L → call n (.func (.func G) #[] #[]) [.agg ⟨dn t⟩, .agg ⟨[pa, pb]⟩] g = some (.int .i64 (val t), g) := fun g hs => hG g (Sub.trans (fun _ _ _ _ _ h => h) hs)
  generalize h.shutAll = h at htr hr hfl hG
  simp only [s125, W_seq, W_ops]
  refine ops_box (cs := [.func (.func G) #[] #[]]) (by omega) rfl rfl fun g1 hx1 => ?_
  have n1 := hx1.next
  have f1 := hx1.floor
  refine ops_box (cs := [pa, pb]) (by omega) rfl hab fun g2 hx2 => ?_
  have n2 := hx2.next
  have f2 := hx2.floor
  refine ops_alloc (cs := [.int .i64 0, .int .i64 0]) (by omega) rfl fun g3 hx3 => ?_
  have n3 := hx3.next
  have f3 := hx3.floor
  have s3 : Sub All h g3 := (hx1.sub.trans hx2.sub).trans hx3.sub
  have r1 := (hx1.row.mono hx2.sub).mono hx3.sub
  have rp := hx2.row.mono hx3.sub
  have ht3 : DonesR g3 tv L := Cells.mono htr s3
  have i0 : indexSl 3 tv (.int .i64 0) = some (ptrO tv 3 0 0) := Cells.idx ht3 hpos
  have e0 := hG g3 s3 (by omega) _ (hat 0 hpos)
  simp only [rn0, rn1, rn2, rn3, rn4, rn5, rn6, rn7, rn8, if_true, if_false, Nat.le_refl, true_and, and_true, decide_true, decide_false, Bool.not_true, Bool.not_false, reduceIte, Nat.reduceEqDiff, Nat.reduceAdd, Nat.reduceMul, Nat.reduceSub, Nat.reduceLeDiff, Nat.reduceLT]
  refine W_draw All ?_
  simp only [rn0, rn1, rn2, rn3, rn4, rn5, rn6, rn7, rn8, if_true, if_false, Nat.le_refl, true_and, and_true, decide_true, decide_false, Bool.not_true, Bool.not_false, reduceIte, Nat.reduceEqDiff, Nat.reduceAdd, Nat.reduceMul, Nat.reduceSub, Nat.reduceLeDiff, Nat.reduceLT, r1.ld, rp.whole (n := 2) rfl, hself, Nat.zero_add, List.getElem?_cons_zero, List.getElem?_cons_succ, i0, dones_ld ht3 hpos, dn_self, e0, build_range]
  generalize hv0 : val (L.getD 0 fun _ => 0) = v0
  refine step_new (vs := [.int .i64 v0, .int .i64 v0]) (by omega) (by omega) rfl (by simp only [rn0, rn1, rn2, rn3, rn4, rn5, rn6, rn7, rn8, if_true, if_false, Nat.le_refl, true_and, and_true, decide_true, decide_false, Bool.not_true, Bool.not_false, reduceIte, Nat.reduceEqDiff, Nat.reduceAdd, Nat.reduceMul, Nat.reduceSub, Nat.reduceLeDiff, Nat.reduceLT]; rfl) rfl rfl rfl fun g4 hx4 => ?_
  have n4 := hx4.next
  have f4 := hx4.floor
  obtain ⟨tl, g5, et, _, s5, u5, b5, f5, o5, htl⟩ := tail_c (Cells.mono ht3 hx4.sub) hpos hlong (by omega)
  have ht5 := htl g5 (Cells.mono (Cells.mono ht3 hx4.sub) s5)
  simp only [rn0, rn1, rn2, rn3, rn4, rn5, rn6, rn7, rn8, if_true, if_false, Nat.le_refl, true_and, and_true, decide_true, decide_false, Bool.not_true, Bool.not_false, reduceIte, Nat.reduceEqDiff, Nat.reduceAdd, Nat.reduceMul, Nat.reduceSub, Nat.reduceLeDiff, Nat.reduceLT, Option.isSome_none, Option.map_some, Option.map_none, et, Cells.len ht5]
  have r10 : g5.get g3.next = some (.row [.int .i64 v0, .int .i64 v0] true 0) := s5 _ _ _ _ trivial hx4.get
  have r15 := (r1.mono hx4.sub).mono s5
  have rp5 := (rp.mono hx4.sub).mono s5
  have r6 : g5.get g2.next = some (.row [.int .i64 0, .int .i64 0] true 0) := s5 _ _ _ _ trivial (hx4.sub _ _ _ _ trivial hx3.get)
  refine W_loop (L.length - 1) (fun i f g' ms => (Keep g3.next g5 g' ∧ g'.get g3.next = some (.row [.int .i64 (minN v0 (fun i => val (L.getD (i + 1) fun _ => 0)) i), .int .i64 (maxN v0 (fun i => val (L.getD (i + 1) fun _ => 0)) i)] true 0) ∧ g'.next ≤ g5.next + 4 * i) ∧ ms = [] ∧
    f 3 = .pointer (some ⟨h.next, 0, none⟩) ∧ f 5 = .pointer (some ⟨g1.next, 0, none⟩) ∧ f 6 = .pointer (some ⟨g2.next, 0, none⟩) ∧ f 8 = .pointer (some ⟨g3.next, 0, none⟩) ∧ f 23 = tl ∧ f 24 = .int .i64 ((L.length - 1 : Nat) : Int) ∧ f 25 = .int .i64 (i : Int)) (by simp; omega) ?_ ?_ ?_
  · simp only [rn0, rn1, rn2, rn3, rn4, rn5, rn6, rn7, rn8, if_true, if_false, Nat.le_refl, true_and, and_true, decide_true, decide_false, Bool.not_true, Bool.not_false, reduceIte, Nat.reduceEqDiff, Nat.reduceAdd, Nat.reduceMul, Nat.reduceSub, Nat.reduceLeDiff, Nat.reduceLT]
    have hfin := And.intro (Keep.refl (o := g3.next) (h := g5)) (And.intro r10 (Nat.le_refl g5.next))
    first | exact ⟨hfin, rfl⟩ | exact hfin
  · rintro i f g' ms hi ⟨⟨kin, gi, gin⟩, rfl, p3, p5, p6, p8, p23, p24, p25⟩
    have hi' : (i : Int) < ((L.length - 1 : Nat) : Int) := by omega
    have hwi : wrapF .i64 ((i : Int) + 1) = ((i + 1 : Nat) : Int) := by rw [wrap_in (by omega) (by omega)]; rfl
    have kup := kin.up
    have kfl := kin.floor
    have sg' : Sub All h g' := fun j cs w gr t hg => kin.sub _ _ _ _ (by have := AHeap.lt_of_get hg; omega) (s5 _ _ _ _ t (hx4.sub _ _ _ _ t (s3 _ _ _ _ t hg)))
    have ht' := htl g' (Cells.mono htr sg')
    have hld : loadAgg 3 g' (ptrO tl 3 i 0) = some (.agg ⟨dn (L.getD (i + 1) fun _ => 0)⟩) := by
      rw [Cells.ldN ht' hi (by omega) (by omega)]; simp [dn, List.range_succ]
    have r1' := r15.keep kin (by omega)
    have rp1 := rp5.keep kin (by omega)
    simp only [rn0, rn1, rn2, rn3, rn4, rn5, rn6, rn7, rn8, if_true, if_false, Nat.le_refl, true_and, and_true, decide_true, decide_false, Bool.not_true, Bool.not_false, reduceIte, Nat.reduceEqDiff, Nat.reduceAdd, Nat.reduceMul, Nat.reduceSub, Nat.reduceLeDiff, Nat.reduceLT, p3, p5, p6, p8, p23, p24, p25, hi', Cells.idx ht' hi, hld]
    refine step_new (vs := dn (L.getD (i + 1) fun _ => 0)) (by omega) (by omega) rfl (by simp only [rn0, rn1, rn2, rn3, rn4, rn5, rn6, rn7, rn8, if_true, if_false, Nat.le_refl, true_and, and_true, decide_true, decide_false, Bool.not_true, Bool.not_false, reduceIte, Nat.reduceEqDiff, Nat.reduceAdd, Nat.reduceMul, Nat.reduceSub, Nat.reduceLeDiff, Nat.reduceLT]; rfl) dn_one dn_len rfl fun g6 hx6 => ?_
    have n6 := hx6.next
    have f6 := hx6.floor
    have e6 := hG g6 (sg'.trans hx6.sub) (by omega) _ (hat (i + 1) (by omega))
    have r16 := r1'.mono hx6.sub
    have rp := rp1.mono hx6.sub
    have r106 : Row g6 g3.next _ := ⟨_, _, hx6.sub _ _ _ _ trivial gi⟩
    simp only [rn0, rn1, rn2, rn3, rn4, rn5, rn6, rn7, rn8, if_true, if_false, Nat.le_refl, true_and, and_true, decide_true, decide_false, Bool.not_true, Bool.not_false, reduceIte, Nat.reduceEqDiff, Nat.reduceAdd, Nat.reduceMul, Nat.reduceSub, Nat.reduceLeDiff, Nat.reduceLT, p3, p5, p6, p8, p23, p24, p25, r16.ld, rp.whole (n := 2) rfl, hself, hx6.row.whole dn_len, Nat.zero_add, List.getElem?_cons_zero, List.getElem?_cons_succ, e6]
    refine W_draw All ?_
    simp only [rn0, rn1, rn2, rn3, rn4, rn5, rn6, rn7, rn8, if_true, if_false, Nat.le_refl, true_and, and_true, decide_true, decide_false, Bool.not_true, Bool.not_false, reduceIte, Nat.reduceEqDiff, Nat.reduceAdd, Nat.reduceMul, Nat.reduceSub, Nat.reduceLeDiff, Nat.reduceLT, p3, p5, p6, p8, p23, p24, p25, r106.ld, Nat.zero_add, List.getElem?_cons_zero, List.getElem?_cons_succ, sl_int]
    generalize hv1 : val (L.getD (i + 1) fun _ => 0) = v1
    refine up_slice (by omega) rfl (fun g7 hx => hx.sub) fun g7 hx7 => ?_
    have n7 := hx7.next
    have f7 := hx7.floor
    have hone : Ints g7 (.slice (some ⟨g6.next, 0, none⟩) 1 1) 1 (fun _ => v1) := ⟨_, _, rfl, fun x e => by cases e; rfl, .inr ⟨_, 0, _, _, _, rfl, hx7.get, fun i j hi hj => by
      have hi : i = 0 := by omega
      have hj : j = 0 := by omega
      subst hi hj; rfl⟩⟩
    have em := minimum_c (n := n) (h := g7) (m := 1) (by omega) (by omega) hone (minN v0 (fun i => val (L.getD (i + 1) fun _ => 0)) i)
    have hmin : minN (minN v0 (fun i => val (L.getD (i + 1) fun _ => 0)) i) (fun _ => v1) 1 = minN v0 (fun i => val (L.getD (i + 1) fun _ => 0)) (i + 1) := by simp only [minN, hv1]
    have hmax : max (maxN v0 (fun i => val (L.getD (i + 1) fun _ => 0)) i) v1 = maxN v0 (fun i => val (L.getD (i + 1) fun _ => 0)) (i + 1) := by simp only [maxN, hv1]
    rw [hmin] at em
    simp only [rn0, rn1, rn2, rn3, rn4, rn5, rn6, rn7, rn8, if_true, if_false, Nat.le_refl, true_and, and_true, decide_true, decide_false, Bool.not_true, Bool.not_false, reduceIte, Nat.reduceEqDiff, Nat.reduceAdd, Nat.reduceMul, Nat.reduceSub, Nat.reduceLeDiff, Nat.reduceLT, p3, p5, p6, p8, p23, p24, p25, em, r106.ld, Nat.zero_add, List.getElem?_cons_zero, List.getElem?_cons_succ, valN_tmp, Nat.reduceLT, hmax, build_range, eqV_int]
    refine ⟨hx7.sub, ?_⟩
    refine up_store (b := g3.next) (off := 0) (vs := [.int .i64 (minN v0 (fun i => val (L.getD (i + 1) fun _ => 0)) (i + 1)), .int .i64 (maxN v0 (fun i => val (L.getD (i + 1) fun _ => 0)) (i + 1))]) rfl (hx7.sub _ _ _ _ trivial (hx6.sub _ _ _ _ trivial gi)) (by omega) (by omega) rfl rfl rfl (by simp) (fun _ _ => trivial) fun g8 hs8 => ?_
    rw [splice2] at hs8
    have n8 := hs8.next
    have f8 := hs8.floor
    simp only [rn0, rn1, rn2, rn3, rn4, rn5, rn6, rn7, rn8, if_true, if_false, Nat.le_refl, true_and, and_true, decide_true, decide_false, Bool.not_true, Bool.not_false, reduceIte, Nat.reduceEqDiff, Nat.reduceAdd, Nat.reduceMul, Nat.reduceSub, Nat.reduceLeDiff, Nat.reduceLT, p3, p5, p6, p8, p23, p24, p25, hwi]
    have hfin := And.intro ((kin.trans ⟨fun j cs w gr hj hg => hx7.sub _ _ _ _ trivial (hx6.sub _ _ _ _ trivial hg), by omega, by omega⟩).trans hs8.keep) (And.intro hs8.get (by omega : g8.next ≤ g5.next + 4 * (i + 1)))
    first | exact hfin | exact ⟨hfin, rfl⟩
  · rintro f g' ms ⟨⟨kin, gi, gin⟩, rfl, p3, p5, p6, p8, p23, p24, p25⟩
    have kup := kin.up
    have kfl := kin.floor
    have w10 := (show Row g' g3.next _ from ⟨_, _, gi⟩).whole (n := 2) rfl
    have hlo : minN v0 (fun i => val (L.getD (i + 1) fun _ => 0)) (L.length - 1) = loN val L := by unfold loN; rw [hv0]
    have hhi : maxN v0 (fun i => val (L.getD (i + 1) fun _ => 0)) (L.length - 1) = hiN val L := by unfold hiN; rw [hv0]
    rw [hlo, hhi] at w10
    simp only [rn0, rn1, rn2, rn3, rn4, rn5, rn6, rn7, rn8, if_true, if_false, Nat.le_refl, true_and, and_true, decide_true, decide_false, Bool.not_true, Bool.not_false, reduceIte, Nat.reduceEqDiff, Nat.reduceAdd, Nat.reduceMul, Nat.reduceSub, Nat.reduceLeDiff, Nat.reduceLT, p3, p5, p6, p8, p23, p24, p25, Int.lt_irrefl, w10]
    refine step_store (b := g2.next) (off := 0) (vs := [.int .i64 (loN val L), .int .i64 (hiN val L)]) rfl (kin.sub _ _ _ _ (by omega) r6) (by omega) (by omega) rfl rfl rfl (by simp) fun g8 hs8 => ?_
    rw [splice2] at hs8
    simp only [rn0, rn1, rn2, rn3, rn4, rn5, rn6, rn7, rn8, if_true, if_false, Nat.le_refl, true_and, and_true, decide_true, decide_false, Bool.not_true, Bool.not_false, reduceIte, Nat.reduceEqDiff, Nat.reduceAdd, Nat.reduceMul, Nat.reduceSub, Nat.reduceLeDiff, Nat.reduceLT, p6, res_cellN, hs8.row.whole (n := 2) rfl]
def s122 : SCode := (.seq (.ops [⟨(some 2), none, .box (T 0)⟩, ⟨(some 4), none, .mov (.const (.int .i64 (0)))⟩]) (.seq (.ops [⟨(some 5), none, .mov (T 1)⟩, ⟨(some 6), none, .idxArr 3 1 (T 2) (T 5)⟩, ⟨(some 7), none, .load1 (T 6)⟩, ⟨(some 4), none, .mov (T 7)⟩]) .ret))
theorem fok122 : FnOk Try.prog 122 8 s122 [.tmp 4] := ⟨Try.f122, _, Try.func122, rfl, Try.ntmps122, by kernel_rfl, by kernel_rfl⟩
theorem at_c (hn : 3 ≤ n) (hr : h.next + 3 < far) {d : Nat → Int} {v : Nat} (hv : v < 3) : call n (.func (.func 122) #[] #[]) [.agg ⟨dn d⟩, .int .i64 (v : Int)] h = some (.int .i64 (d v), h) := by
  obtain ⟨n, rfl⟩ : ∃ p, n = p + 1 := ⟨n - 1, by omega⟩
  refine call_plain0 fok122 rfl rfl (by simp) rfl ?_
  have hr : h.shutAll.next + 3 < far := hr
  generalize h.shutAll = h at hr
  simp only [s122, W_seq, W_ops]
  refine ops_box (cs := dn d) (by omega) rfl dn_one fun g1 hx => ?_
  have hi := idxArr_p (b := h.next) (o := 0) hv
  simp only [rn0, rn1, rn2, rn3, rn4, rn5, rn6, rn7, rn8, if_true, if_false, Nat.le_refl, true_and, and_true, decide_true, decide_false, Bool.not_true, Bool.not_false, reduceIte, Nat.reduceEqDiff, Nat.reduceAdd, Nat.reduceMul, Nat.reduceSub, Nat.reduceLeDiff, Nat.reduceLT, hi, Nat.zero_add, hx.ld, dn_get hv]
def s124 : SCode := (.seq (.ops [⟨(some 2), none, .box (T 0)⟩, ⟨(some 3), none, .box (T 1)⟩, ⟨(some 4), none, .mov (.const (.int .i64 (0)))⟩]) (.seq (.ops [⟨(some 5), none, .mov (.const (.int .i64 (0)))⟩]) (.seq (.seq (.ops [⟨(some 8), none, .fieldAddr 1 (T 3)⟩, ⟨(some 9), none, .load1 (T 8)⟩, ⟨(some 10), none, .len (T 9)⟩, ⟨(some 11), none, .mov (.const (.int .i64 (0)))⟩]) (.block 0 (.loop (.seq (.ops [⟨(some 12), none, .int2 .lss (T 11) (T 10)⟩]) (.seq (.cond (T 12) .skip (.exit 0)) (.seq (.block 1 (.seq (.ops [⟨(some 13), none, .mov (T 11)⟩, ⟨(some 14), none, .idxSl 1 (T 9) (T 11)⟩, ⟨(some 15), none, .load1 (T 14)⟩, ⟨(some 6), none, .mov (T 13)⟩, ⟨(some 7), none, .mov (T 15)⟩]) (.draw [⟨.free, ⟨(some 16), none, .mov (T 5)⟩⟩, ⟨.free, ⟨(some 17), none, .fieldAddr 0 (T 3)⟩⟩, ⟨.rd1, ⟨(some 18), none, .load1 (T 17)⟩⟩, ⟨.free, ⟨(some 19), none, .mov (T 6)⟩⟩, ⟨.free, ⟨(some 20), none, .idxSl 4 (T 18) (T 19)⟩⟩, ⟨.rd1, ⟨(some 21), none, .loadN 4 (T 20)⟩⟩, ⟨.free, ⟨(some 22), none, .mov (T 7)⟩⟩, ⟨.free, ⟨(some 23), none, .mov (T 6)⟩⟩, ⟨.free, ⟨(some 24), none, .idxArr 3 1 (T 2) (T 23)⟩⟩, ⟨.rd1, ⟨(some 25), none, .load1 (T 24)⟩⟩, ⟨.any, ⟨(some 26), none, .call (.func 81) [(T 21), (T 22), (T 25)]⟩⟩, ⟨.free, ⟨(some 27), none, .int2 .add (T 16) (T 26)⟩⟩, ⟨.free, ⟨(some 5), none, .mov (T 27)⟩⟩]))) (.ops [⟨(some 28), none, .int2 .add (T 11) (.const (.int .i64 (1)))⟩, ⟨(some 11), none, .mov (T 28)⟩]))))))) (.seq (.ops [⟨(some 29), none, .mov (T 5)⟩, ⟨(some 4), none, .mov (T 29)⟩]) .ret))))
theorem fok124 : FnOk Try.prog 124 30 s124 [.tmp 4] := ⟨Try.f124, _, Try.func124, rfl, Try.ntmps124, by kernel_rfl, by kernel_rfl⟩
theorem lossD_c (hn : 60 ≤ n) (hr : h.next + 40 < far) {vv sv lv : Value} {S : MB} {d e : Nat → Int} {m : Nat} (hy : BeatR h vv sv S) (hl : Ints h lv m e) (hG : Good S) (hm : m ≤ S.nv) (hd : ∀ v, v < m → 0 ≤ d v ∧ d v ≤ 13) (he : ∀ v, v < m → 0 ≤ e v ∧ e v ≤ 9) :
    call n (.func (.func 124) #[] #[]) [.agg ⟨dn d⟩, .agg ⟨[vv, lv]⟩] h = some (.int .i64 (lossTo S d e m), h) := by
  obtain ⟨n, rfl⟩ : ∃ p, n = p + 1 := ⟨n - 1, by omega⟩
  refine call_plain0 fok124 rfl rfl (by simp) rfl ?_
  have hy := hy.shut
  have hl := Cells.shut hl
  have hr : h.shutAll.next + 40 < far := hr
  generalize h.shutAll = h at hy hl hr
  obtain ⟨_, _, z3, _⟩ := hG.sizes
  simp only [s124, W_seq, W_ops]
  refine ops_box (cs := dn d) (by omega) rfl dn_one fun h1 hx1 => ?_
  refine ops_box (cs := [vv, lv]) (by rw [hx1.next]; omega) rfl (by simp [allB, Cells.one hy.v, Cells.one hl]) fun h2 hx2 => ?_
  have n1 := hx1.next
  have n2 := hx2.next
  have r1 := hx1.row.mono hx2.sub
  have r2 := hx2.row
  have hy := (hy.mono hx1.sub).mono hx2.sub
  have hl : Ints h2 lv m e := Cells.mono (Cells.mono hl hx1.sub) hx2.sub
  simp only [rn0, rn1, rn2, rn3, rn4, rn5, rn6, rn7, rn8, if_true, if_false, Nat.le_refl, true_and, and_true, decide_true, decide_false, Bool.not_true, Bool.not_false, reduceIte, Nat.reduceEqDiff, Nat.reduceAdd, Nat.reduceMul, Nat.reduceSub, Nat.reduceLeDiff, Nat.reduceLT, r2.ld, Nat.zero_add, List.getElem?_cons_zero, List.getElem?_cons_succ, Cells.len hl]
  refine W_loop m (fun k f g m' => g = h2 ∧ m' = [] ∧ f 2 = .pointer (some ⟨h.next, 0, none⟩) ∧ f 3 = .pointer (some ⟨h1.next, 0, none⟩) ∧ f 5 = .int .i64 (lossTo S d e k) ∧ f 9 = lv ∧ f 10 = .int .i64 (m : Int) ∧ f 11 = .int .i64 (k : Int)) (by simp; omega) ?_ ?_ ?_
  · simp only [rn0, rn1, rn2, rn3, rn4, rn5, rn6, rn7, rn8, if_true, if_false, Nat.le_refl, true_and, and_true, decide_true, decide_false, Bool.not_true, Bool.not_false, reduceIte, Nat.reduceEqDiff, Nat.reduceAdd, Nat.reduceMul, Nat.reduceSub, Nat.reduceLeDiff, Nat.reduceLT, lossTo]
    first | done | trivial
  · rintro k f g m' hk ⟨rfl, rfl, f2, f3, f5, f9, f10, f11⟩
    have hk' : (k : Int) < (m : Int) := by omega
    have hkv : k < S.nv := by omega
    have hw : wrapF .i64 ((k : Int) + 1) = ((k + 1 : Nat) : Int) := by rw [wrap_in (by omega) (by omega)]; rfl
    have ek := loses_c (n := n) (h := g) (by omega) (by omega) hG hkv (hd k hk) (he k hk)
    have hb := loss_bound hG (d := d) (e := e) k (by omega) fun v hv => ⟨hd v (by omega), he v (by omega)⟩
    have hb2 := lost_bound hG hkv (hd k hk).1 (hd k hk).2 (he k hk).1 (he k hk).2
    have hws : wrapF .i64 (lossTo S d e k + lostS S k (d k) (e k)) = lossTo S d e (k + 1) := by rw [wrap_in (by omega) (by omega)]; rfl
    have hi := idxArr_p (b := h.next) (o := 0) (show k < 3 by omega)
    simp only [rn0, rn1, rn2, rn3, rn4, rn5, rn6, rn7, rn8, if_true, if_false, Nat.le_refl, true_and, and_true, decide_true, decide_false, Bool.not_true, Bool.not_false, reduceIte, Nat.reduceEqDiff, Nat.reduceAdd, Nat.reduceMul, Nat.reduceSub, Nat.reduceLeDiff, Nat.reduceLT, f2, f3, f5, f9, f10, f11, hk', Cells.idx hl hk, Cells.ld hl hk Nat.zero_lt_one]
    refine W_draw All ?_
    simp only [rn0, rn1, rn2, rn3, rn4, rn5, rn6, rn7, rn8, if_true, if_false, Nat.le_refl, true_and, and_true, decide_true, decide_false, Bool.not_true, Bool.not_false, reduceIte, Nat.reduceEqDiff, Nat.reduceAdd, Nat.reduceMul, Nat.reduceSub, Nat.reduceLeDiff, Nat.reduceLT, f2, f3, f5, f9, f10, f11, r2.ld, r1.ld, dn_get (show k < 3 by omega), hi, Nat.zero_add, List.getElem?_cons_zero, List.getElem?_cons_succ, Cells.self hy.v, Cells.idx hy.v hkv, vat_ld hy hkv, eqV_int, ek, hws, hw]
  · rintro f g m' ⟨rfl, rfl, f2, f3, f5, f9, f10, f11⟩
    simp only [rn0, rn1, rn2, rn3, rn4, rn5, rn6, rn7, rn8, if_true, if_false, Nat.le_refl, true_and, and_true, decide_true, decide_false, Bool.not_true, Bool.not_false, reduceIte, Nat.reduceEqDiff, Nat.reduceAdd, Nat.reduceMul, Nat.reduceSub, Nat.reduceLeDiff, Nat.reduceLT, f2, f3, f5, f9, f10, f11, Int.lt_irrefl]
structure OpS (h : AHeap) (vv sv tv : Value) (S : MB) : Prop where
  good : Good S
  some : truthsS S ≠ []
  y : BeatR h vv sv S
  one : oneCell tv = true
  d : DonesR h tv (donesL S)
  long : Long tv
theorem OpS.mono {g : AHeap} {vv sv tv : Value} {S : MB} (ho : OpS h vv sv tv S) (hs : Sub All h g) : OpS g vv sv tv S := ⟨ho.good, ho.some, ho.y.mono hs, ho.one, Cells.mono ho.d hs, ho.long⟩
theorem done_bound {S : MB} (hG : Good S) {t : Nat → Int} (ht : t ∈ donesL S) (v : Nat) : 0 ≤ t v ∧ t v ≤ 13 := by
  obtain ⟨u, hu, rfl⟩ := dones_mem.1 ht
  unfold doneS
  by_cases c : v < S.nv
  · rw [if_pos c]; exact when_bound hG (truth_in hu) c
  · rw [if_neg c]; omega
def s87 : SCode := (.seq (.ops [⟨(some 2), none, .box (T 0)⟩, ⟨(some 4), none, .alloc [(.int .i64 (0)), (.int .i64 (0))]⟩]) (.seq (.ops [⟨(some 5), none, .build #[(0, 1)] [.nilFunc] [0] [(.func 122)]⟩, ⟨(some 6), none, .fieldAddr 5 (T 2)⟩, ⟨(some 7), none, .load1 (T 6)⟩, ⟨(some 8), none, .mov (T 1)⟩, ⟨(some 9), none, .call (.func 123) [(T 5), (T 7), (T 8)]⟩, ⟨none, none, .store 2 (T 4) (T 9)⟩]) .ret))
theorem fok87 : FnOk Try.prog 87 10 s87 [.cellN 4 2] := ⟨Try.f87, _, Try.func87, rfl, Try.ntmps87, by kernel_rfl, by kernel_rfl⟩
theorem whenDone_c (hn : 700 ≤ n) (hr : h.next + 6000 < far) {vv sv tv : Value} {S : MB} (ho : OpS h vv sv tv S) {v : Nat} (hv : v < S.nv) :
    call n (.func (.func 87) #[] #[]) [.agg ⟨wkL S vv sv tv⟩, .int .i64 (v : Int)] h = some (.agg ⟨[.int .i64 (bLo S v), .int .i64 (bHi S v)]⟩, h) := by
  obtain ⟨n, rfl⟩ : ∃ p, n = p + 1 := ⟨n - 1, by omega⟩
  refine call_plain0 fok87 rfl rfl (by simp) rfl ?_
  have ho := ho.mono (g := h.shutAll) fun _ _ _ _ _ h => h
  have hr : h.shutAll.next + 6000 < far := hr
  have hfl : h.shutAll.floor ≤ h.shutAll.next := Nat.le_refl _
  generalize h.shutAll = h at ho hr hfl
  obtain ⟨_, _, z3, _⟩ := ho.good.sizes
  simp only [s87, W_seq, W_ops]
  refine ops_box (cs := wkL S vv sv tv) (by omega) rfl (wk_one ho.y ho.one) fun h1 hx1 => ?_
  have n1 := hx1.next
  have f1 := hx1.floor
  refine ops_alloc (cs := [.int .i64 0, .int .i64 0]) (by omega) rfl fun h2 hx2 => ?_
  have n2 := hx2.next
  have f2 := hx2.floor
  have ho2 := (ho.mono hx1.sub).mono hx2.sub
  have hbd := boundsI_c (n := n) (h := h2) (tv := tv) (L := donesL S) (G := 122) (val := fun d => d v) (ai := v) (by omega) (by omega) (fun e => ho.some (dones_nil.1 e)) (by have := dones_len ho.good; omega) ho2.d ho.long
    fun g hs hg t ht => at_c (by omega) (by omega) (by omega)
  rw [bLo_dones ho.some hv, bHi_dones ho.some hv] at hbd
  simp only [rn0, rn1, rn2, rn3, rn4, rn5, rn6, rn7, rn8, if_true, if_false, Nat.le_refl, true_and, and_true, decide_true, decide_false, Bool.not_true, Bool.not_false, reduceIte, Nat.reduceEqDiff, Nat.reduceAdd, Nat.reduceMul, Nat.reduceSub, Nat.reduceLeDiff, Nat.reduceLT, build_meas, (hx1.row.mono hx2.sub).ld, wkg, Nat.zero_add, hbd]
  refine step_store (b := h1.next) (off := 0) (vs := [.int .i64 (bLo S v), .int .i64 (bHi S v)]) rfl hx2.get (by omega) (by omega) rfl rfl rfl (by simp) fun g8 hs8 => ?_
  rw [splice2] at hs8
  simp only [rn0, rn1, rn2, rn3, rn4, rn5, rn6, rn7, rn8, if_true, if_false, Nat.le_refl, true_and, and_true, decide_true, decide_false, Bool.not_true, Bool.not_false, reduceIte, Nat.reduceEqDiff, Nat.reduceAdd, Nat.reduceMul, Nat.reduceSub, Nat.reduceLeDiff, Nat.reduceLT, res_cellN, hs8.row.whole (n := 2) rfl]
theorem build_plan {a b : Value} (ha : oneCell a = true) (hb : oneCell b = true) : buildA (fun x => (#[(0, 1), (1, 1)] : Array (Nat × Nat))[x]?) ⟨[.slice none 0 0, .slice none 0 0]⟩ [0, 1] h [a, b] = some (.agg ⟨[a, b]⟩, h) := by
  cases a <;> first | (cases ha; done) | skip
  all_goals (cases b <;> first | (cases hb; done) | rfl)
def s93 : SCode := (.seq (.ops [⟨(some 2), none, .box (T 0)⟩, ⟨(some 4), none, .alloc [(.int .i64 (0)), (.int .i64 (0))]⟩]) (.seq (.ops [⟨(some 5), none, .build #[(0, 1)] [.nilFunc] [0] [(.func 124)]⟩, ⟨(some 6), none, .fieldAddr 5 (T 2)⟩, ⟨(some 7), none, .load1 (T 6)⟩, ⟨(some 8), none, .fieldAddr 0 (T 2)⟩, ⟨(some 9), none, .fieldAddr 2 (T 8)⟩, ⟨(some 10), none, .load1 (T 9)⟩, ⟨(some 11), none, .mov (T 1)⟩, ⟨(some 12), none, .build #[(0, 1), (1, 1)] [(.slice none 0 0), (.slice none 0 0)] [0, 1] [(T 10), (T 11)]⟩, ⟨(some 13), none, .call (.func 125) [(T 5), (T 7), (T 12)]⟩, ⟨none, none, .store 2 (T 4) (T 13)⟩]) .ret))
theorem fok93 : FnOk Try.prog 93 14 s93 [.cellN 4 2] := ⟨Try.f93, _, Try.func93, rfl, Try.ntmps93, by kernel_rfl, by kernel_rfl⟩
theorem losses_c (hn : 800 ≤ n) (hr : h.next + 6000 < far) {vv sv tv lv : Value} {S : MB} (ho : OpS h vv sv tv S) {m : Nat} {e : Nat → Int} (hl : Ints h lv m e) (hm : m ≤ S.nv) (he : ∀ v, v < m → 0 ≤ e v ∧ e v ≤ 9) :
    call n (.func (.func 93) #[] #[]) [.agg ⟨wkL S vv sv tv⟩, lv] h = some (.agg ⟨[.int .i64 (wLo S e m), .int .i64 (wHi S e m)]⟩, h) := by
  obtain ⟨n, rfl⟩ : ∃ p, n = p + 1 := ⟨n - 1, by omega⟩
  refine call_plain0 fok93 rfl rfl (by simp) rfl ?_
  have ho := ho.mono (g := h.shutAll) fun _ _ _ _ _ h => h
  have hl := Cells.shut hl
  have hr : h.shutAll.next + 6000 < far := hr
  have hfl : h.shutAll.floor ≤ h.shutAll.next := Nat.le_refl _
  generalize h.shutAll = h at ho hl hr hfl
  simp only [s93, W_seq, W_ops]
  refine ops_box (cs := wkL S vv sv tv) (by omega) rfl (wk_one ho.y ho.one) fun h1 hx1 => ?_
  have n1 := hx1.next
  have f1 := hx1.floor
  refine ops_alloc (cs := [.int .i64 0, .int .i64 0]) (by omega) rfl fun h2 hx2 => ?_
  have n2 := hx2.next
  have f2 := hx2.floor
  have ho2 := (ho.mono hx1.sub).mono hx2.sub
  have hl2 : Ints h2 lv m e := Cells.mono (Cells.mono hl hx1.sub) hx2.sub
  have hbd := boundsP_c (n := n) (h := h2) (tv := tv) (L := donesL S) (G := 124) (val := fun d => lossTo S d e m) (pa := vv) (pb := lv) (by omega) (by omega) (fun e => ho.some (dones_nil.1 e)) (by have := dones_len ho.good; omega) ho2.d ho.long (by simp [allB, Cells.one ho.y.v, Cells.one hl]) (by simp [eqV, eqCells, Cells.selfC ho.y.v, Cells.selfC hl])
    fun g hs hg t ht => lossD_c (by omega) (by omega) (ho2.y.mono hs) (Cells.mono hl2 hs) ho.good hm (fun v _ => done_bound ho.good ht v) he
  rw [wLo_dones ho.some hm, wHi_dones ho.some hm] at hbd
  simp only [rn0, rn1, rn2, rn3, rn4, rn5, rn6, rn7, rn8, if_true, if_false, Nat.le_refl, true_and, and_true, decide_true, decide_false, Bool.not_true, Bool.not_false, reduceIte, Nat.reduceEqDiff, Nat.reduceAdd, Nat.reduceMul, Nat.reduceSub, Nat.reduceLeDiff, Nat.reduceLT, build_meas, (hx1.row.mono hx2.sub).ld, wkg, Nat.zero_add, build_plan (Cells.one ho.y.v) (Cells.one hl), hbd]
  refine step_store (b := h1.next) (off := 0) (vs := [.int .i64 (wLo S e m), .int .i64 (wHi S e m)]) rfl hx2.get (by omega) (by omega) rfl rfl rfl (by simp) fun g8 hs8 => ?_
  rw [splice2] at hs8
  simp only [rn0, rn1, rn2, rn3, rn4, rn5, rn6, rn7, rn8, if_true, if_false, Nat.le_refl, true_and, and_true, decide_true, decide_false, Bool.not_true, Bool.not_false, reduceIte, Nat.reduceEqDiff, Nat.reduceAdd, Nat.reduceMul, Nat.reduceSub, Nat.reduceLeDiff, Nat.reduceLT, res_cellN, hs8.row.whole (n := 2) rfl]
end Go.Vm.Bt
