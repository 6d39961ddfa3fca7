/- Texts of the proofs of this seat, put together: VatTruths, VatMin, VatNeeds, VatBounds, VmEq2, VatBounds2, VatReady. -/
import Derived.Test.YtnibceeoejeimaaPk6

namespace Go.Vm.Vat
open Go.Proofs
set_option linter.unusedSimpArgs false
set_option linter.unusedVariables false
set_option maxRecDepth 10000
variable {n : Nat} {h : AHeap}

/-- a list of lists of numbers that grows: all of it lies from block B on, each list in a block of its own -/
def GrowRows (B : Nat) (h : AHeap) (v : Value) (n : Nat) (cnt : Nat → Nat) (q : Nat → Nat → Int) : Prop :=
  ∃ r : Nat → Value, GrowC B h v 1 n (fun k _ => r k) ∧ ∀ i, i < n → Ints h (r i) (cnt i) (q i) ∧ ∀ a m c, r i = .slice (some a) m c → B ≤ a.block ∧ a.block < h.next ∧ ∀ b m' c', v = .slice (some b) m' c' → a.block ≠ b.block
theorem GrowRows.nil {B : Nat} {cnt : Nat → Nat} {q : Nat → Nat → Int} : GrowRows B h nilS 0 cnt q := ⟨fun _ => nilS, .nil, fun i hi => by omega⟩
theorem GrowRows.rows {B : Nat} {v : Value} {n : Nat} {cnt : Nat → Nat} {q : Nat → Nat → Int} (hg : GrowRows B h v n cnt q) : Rows h v n cnt q := by
  obtain ⟨r, h1, h2⟩ := hg
  exact ⟨r, h1.cells, fun i hi => (h2 i hi).1⟩
theorem GrowRows.keep {B o : Nat} {g : AHeap} {v : Value} {n : Nat} {cnt : Nat → Nat} {q : Nat → Nat → Int} (hg : GrowRows B h v n cnt q) (hk : Keep o h g) (ho : o < B) : GrowRows B g v n cnt q := by
  obtain ⟨r, h1, h2⟩ := hg
  refine ⟨r, h1.keep hk ho, fun i hi => ?_⟩
  obtain ⟨h3, h4⟩ := h2 i hi
  exact ⟨Cells.keep h3 hk fun a k c e => by have := (h4 a k c e).1; omega, fun a m c e => by
    obtain ⟨k1, k2, k3⟩ := h4 a m c e
    exact ⟨k1, Nat.lt_of_lt_of_le k2 hk.up, k3⟩⟩
theorem GrowRows.sub {B : Nat} {g : AHeap} {v : Value} {n : Nat} {cnt : Nat → Nat} {q : Nat → Nat → Int} (hg : GrowRows B h v n cnt q) (hs : Sub All h g) (hup : h.next ≤ g.next) : GrowRows B g v n cnt q := by
  obtain ⟨r, h1, h2⟩ := hg
  refine ⟨r, h1.sub hs, fun i hi => ?_⟩
  obtain ⟨h3, h4⟩ := h2 i hi
  exact ⟨Cells.mono h3 hs, fun a m c e => by
    obtain ⟨k1, k2, k3⟩ := h4 a m c e
    exact ⟨k1, Nat.lt_of_lt_of_le k2 hup, k3⟩⟩
theorem GrowRows.congr {B : Nat} {v : Value} {n : Nat} {cnt cnt' : Nat → Nat} {q q' : Nat → Nat → Int} (hg : GrowRows B h v n cnt q) (h1 : ∀ i, i < n → cnt i = cnt' i) (h2 : ∀ i, i < n → q i = q' i) : GrowRows B h v n cnt' q' := by
  obtain ⟨r, k1, k2⟩ := hg
  exact ⟨r, k1, fun i hi => by rw [← h1 i hi, ← h2 i hi]; exact k2 i hi⟩
/-- one list more -/
theorem GrowRows.push {B : Nat} {h1 : AHeap} {v l : Value} {n : Nat} {cnt : Nat → Nat} {q : Nat → Nat → Int} (hg : GrowRows B h v n cnt q) (hB : h.floor ≤ B) (hf : h.next + 2 < far) (hBn : B ≤ h.next) (hl : Ints h l (cnt n) (q n)) (hone : oneCell l = true)
    (hb : ∀ a k c, l = .slice (some a) k c → B ≤ a.block ∧ a.block < h.next ∧ ∀ b m' c', v = .slice (some b) m' c' → a.block ≠ b.block) (hx : New h h1 [l] 0) (hn : (n + 1) * 24 ≤ maxBytes) (hn1 : n + 1 ≤ maxBytes) :
    ∃ v' g, appendA 1 24 h1 v (.slice (some ⟨h.next, 0, none⟩) 1 1) = some (v', g) ∧ GrowRows B g v' (n + 1) cnt q ∧ Kept h1 g v ∧ oneCell v' = true ∧ (∀ a k c, v = .slice (some a) k c → B ≤ a.block) := by
  obtain ⟨r, g1, g2⟩ := hg
  have hnx := hx.next
  have hfl := hx.floor
  let r' : Nat → Value := fun i => if i = n then l else r i
  have g1' : GrowC B h1 v 1 n (fun k _ => r' k) := (g1.sub hx.sub).congr fun k j hk hj => by show r k = if k = n then l else r k; rw [if_neg (by omega)]
  obtain ⟨v', g, e, ev, gv, hk⟩ := g1'.append (bytes := 24) (cap := 1) (by omega) (by omega) (by omega) hx.get rfl (by simp [allB, hone]) (fun j hj => by rw [one_get j hj]; show some l = some (if n = n then l else r n); rw [if_pos rfl]) hn hn1
  refine ⟨v', g, e, ⟨r', gv, fun i hi => ?_⟩, hk, gv.one, fun a k c e => (g1.block e).1⟩
  have hkn := hk.next
  have hmain : ∀ (x : Value) (m : Nat) (a : Nat → Int), Ints h x m a → (∀ a k c, x = .slice (some a) k c → B ≤ a.block ∧ a.block < h.next ∧ ∀ b m' c', v = .slice (some b) m' c' → a.block ≠ b.block) →
      Ints g x m a ∧ ∀ a k c, x = .slice (some a) k c → B ≤ a.block ∧ a.block < g.next ∧ ∀ b m' c', v' = .slice (some b) m' c' → a.block ≠ b.block := by
    intro x m a hx1 hx2
    refine ⟨Cells.kept (Cells.mono hx1 hx.sub) hk fun a k c e b k' c' e' => (hx2 a k c e).2.2 b k' c' e', fun a k c e => ?_⟩
    obtain ⟨k1, k2, _⟩ := hx2 a k c e
    refine ⟨k1, by omega, fun b m' c' e' => ?_⟩
    rw [ev] at e'
    cases e'
    show a.block ≠ h1.next
    omega
  by_cases hin : i = n
  · subst hin
    have : r' i = l := by show (if i = i then l else r i) = l; rw [if_pos rfl]
    rw [this]
    exact hmain l _ _ hl hb
  · have : r' i = r i := by show (if i = n then l else r i) = r i; rw [if_neg hin]
    rw [this]
    obtain ⟨k1, k2⟩ := g2 i (by omega)
    exact hmain _ _ _ k1 k2

theorem sl_row {v : Value} (hv : oneCell v = true) : buildSl 1 1 [.slice none 0 0] [0] h [v] = newSlice h [v] 1 1 0 := sl_one hv
/-- the truths by their numbers -/
noncomputable def refTruthsTo (Y : MY) (m : Nat) : List (Nat → Int) := open Classical in ((List.range m).map (nthB Y.lo Y.hi Y.nf)).filter fun c => decide (∀ k, k < Y.ns → RightB Y c k)
theorem refTruthsTo_succ {Y : MY} {m : Nat} : refTruthsTo Y (m + 1) = refTruthsTo Y m ++ (open Classical in if (∀ k, k < Y.ns → RightB Y (nthB Y.lo Y.hi Y.nf m) k) then [nthB Y.lo Y.hi Y.nf m] else []) := by
  unfold refTruthsTo
  rw [List.range_succ, List.map_append, List.filter_append]
  congr 1
  simp only [List.map_cons, List.map_nil, List.filter_cons, List.filter_nil, decide_eq_true_eq]
theorem refTruthsTo_len {Y : MY} {m : Nat} : (refTruthsTo Y m).length ≤ m := by
  unfold refTruthsTo
  exact Nat.le_trans (List.length_filter_le _ _) (by simp)
/-- a list of truths, each a list -/
def TruthsL (h : AHeap) (v : Value) (nf : Nat) (l : List (Nat → Int)) : Prop := Rows h v l.length (fun _ => nf) fun k => l.getD k fun _ => 0
theorem nthB_are {Y : MY} (hF : FieldsOk Y) {m : Nat} : AreB Y Y.nf (nthB Y.lo Y.hi Y.nf m) := by
  refine ⟨rfl, fun k hk => ?_⟩
  obtain ⟨v1, v2, v3⟩ := hF k hk
  have hsz : ((sz Y.lo Y.hi k : Nat) : Int) = Y.hi k - Y.lo k + 1 := Int.toNat_of_nonneg (by omega)
  have hml : divN (sz Y.lo Y.hi) m k % sz Y.lo Y.hi k < sz Y.lo Y.hi k := Nat.mod_lt _ (by omega)
  rw [nthB, if_pos hk]
  generalize divN (sz Y.lo Y.hi) m k % sz Y.lo Y.hi k = r at hml
  omega

def s64 : SCode := (.seq (.ops [⟨(some 1), none, .box (T 0)⟩, ⟨(some 2), none, .mov (.const (.slice none 0 0))⟩]) (.seq (.ops [⟨(some 3), none, .mov (.const (.slice none 0 0))⟩]) (.seq (.seq (.ops [⟨(some 4), none, .mov (.const (.int .i64 (0)))⟩]) (.block 0 (.loop (.seq (.seq (.ops [⟨(some 6), none, .mov (T 4)⟩, ⟨(some 7), none, .loadN 3 (T 1)⟩, ⟨(some 8), none, .call (.func 108) [(T 7)]⟩, ⟨(some 9), none, .int2 .lss (T 6) (T 8)⟩]) (.cond (T 9) .skip (.exit 0))) (.seq (.block 1 (.seq (.ops [⟨(some 12), none, .loadN 3 (T 1)⟩, ⟨(some 13), none, .mov (T 4)⟩, ⟨(some 14), none, .call (.func 109) [(T 12), (T 13)]⟩, ⟨(some 5), none, .mov (T 14)⟩]) (.seq (.draw [⟨.rd1, ⟨(some 15), none, .loadN 3 (T 1)⟩⟩, ⟨.free, ⟨(some 16), none, .mov (T 5)⟩⟩, ⟨.up, ⟨(some 17), none, .call (.func 88) [(T 15), (T 16)]⟩⟩, ⟨.rd, ⟨(some 18), none, .loadN 3 (T 1)⟩⟩, ⟨.any, ⟨(some 19), none, .call (.func 70) [(T 18)]⟩⟩, ⟨.free, ⟨(some 20), none, .int2 .eql (T 17) (T 19)⟩⟩]) (.cond (T 20) (.ops [⟨(some 21), none, .mov (T 3)⟩, ⟨(some 22), none, .mov (T 5)⟩, ⟨(some 23), none, .bslice 1 1 [(.slice none 0 0)] [0] [(T 22)]⟩, ⟨(some 24), none, .append 1 24 (T 21) (T 23)⟩, ⟨(some 3), none, .mov (T 24)⟩]) .skip)))) (.ops [⟨(some 10), none, .mov (T 4)⟩, ⟨(some 11), none, .int2 .add (T 10) (.const (.int .i64 (1)))⟩, ⟨(some 4), none, .mov (T 11)⟩])))))) (.seq (.ops [⟨(some 25), none, .mov (T 3)⟩, ⟨(some 2), none, .mov (T 25)⟩]) .ret))))
theorem fok64 : FnOk Try.prog 64 26 s64 [.tmp 2] := ⟨Try.f64, _, Try.func64, rfl, Try.ntmps64, by kernel_rfl, by kernel_rfl⟩
theorem truthsRef_c (hn : 10010 ≤ n) (hr : h.next + 200000 < far) (hfl : h.floor ≤ h.next) {fv vv sv : Value} {Y : MY} (hy : YardR h fv vv sv Y) (hf : faultN Y = 0) :
    ∃ v h', call n (.func (.func 64) #[] #[]) [.agg ⟨[fv, vv, sv]⟩] h = some (v, h') ∧ TruthsL h' v Y.nf (refTruthsTo Y (manyN Y.lo Y.hi Y.nf).toNat) ∧ Made h h' 100000 := by
  obtain ⟨n, rfl⟩ : ∃ p, n = p + 1 := ⟨n - 1, by omega⟩
  obtain ⟨hG, hsz⟩ := fault_size hf
  obtain ⟨z1, z2, z3⟩ := hG.sz
  have hF : ∀ k, k < Y.nf → 0 ≤ Y.lo k ∧ Y.lo k ≤ Y.hi k ∧ Y.hi k ≤ 20 := hG.f
  have hmany := sizeN_many z1 hF Y.nf (Nat.le_refl _)
  obtain ⟨b1, _⟩ := sizeN_bound z1 hF Y.nf (Nat.le_refl _)
  obtain ⟨M, hM⟩ : ∃ M : Nat, manyN Y.lo Y.hi Y.nf = M := ⟨(manyN Y.lo Y.hi Y.nf).toNat, by omega⟩
  have hM2 : M ≤ 2000 := by omega
  rw [hM, Int.toNat_natCast]
  refine call_any0 fok64 rfl rfl (by simp) ?_
  simp only [s64, W_seq, W_ops]
  refine ops_box (cs := [fv, vv, sv]) (by omega) rfl hy.one fun g1 hx1 => ?_
  have n1 := hx1.next
  have f1' := hx1.floor
  simp only [rn0, rn1, rn2, rn3, rn4, rn5, rn6, rn7, rn8, if_true, if_false, Nat.le_refl, true_and, and_true, decide_true, decide_false, Bool.not_true, Bool.not_false, reduceIte, Nat.reduceEqDiff, Nat.reduceAdd, Nat.reduceMul, Nat.reduceSub, Nat.reduceLeDiff, Nat.reduceLT]
  refine W_loop M (fun k f g ms => (∃ v, Sub All g1 g ∧ g.floor = g1.floor ∧ g1.next ≤ g.next ∧ g.next ≤ g1.next + 30 * k ∧ GrowRows g1.next g v (refTruthsTo Y k).length (fun _ => Y.nf) (fun i => (refTruthsTo Y k).getD i fun _ => 0) ∧ f 3 = v) ∧ ms = [] ∧ f 1 = .pointer (some ⟨h.next, 0, none⟩) ∧ f 4 = .int .i64 (k : Int)) (by simp; omega) ?_ ?_ ?_
  · simp only [rn0, rn1, rn2, rn3, rn4, rn5, rn6, rn7, rn8, if_true, if_false, Nat.le_refl, true_and, and_true, decide_true, decide_false, Bool.not_true, Bool.not_false, reduceIte, Nat.reduceEqDiff, Nat.reduceAdd, Nat.reduceMul, Nat.reduceSub, Nat.reduceLeDiff, Nat.reduceLT]
    exact ⟨⟨_, by omega, .nil, rfl⟩, rfl⟩
  · rintro k f g ms hk ⟨⟨v, hs, hfg, hup, hnx, gv, f3⟩, rfl, f1, f4⟩
    have hk' : (k : Int) < (M : Int) := by omega
    have hw : wrapF .i64 ((k : Int) + 1) = ((k + 1 : Nat) : Int) := by rw [wrap_in (by omega) (by omega)]; rfl
    have hyg := (hy.mono hx1.sub).mono hs
    have w1 := (hx1.row.mono hs).whole (n := 3) rfl
    have em := many_c (n := n) (h := g) (by omega) (by omega) hyg (by omega) hF
    rw [hM] at em
    obtain ⟨l, g2, e2, hl2, m2, hl1, hlb⟩ := nth_c (n := n) (h := g) (m := k) (by omega) (by omega) (by omega) hyg z1 hG.f (by omega)
    have n2 := m2.next
    have u2 := m2.up
    have f2 := m2.floor
    have hyg2 := hyg.mono m2.sub
    have w2 := (hx1.row.mono (hs.trans m2.sub)).whole (n := 3) rfl
    have er := right_c (n := n) (h := g2) (b := nthB Y.lo Y.hi Y.nf k) (by omega) (by omega) hyg2 hl2 hG (nthB_are hG.f)
    have ef := full_c (n := n) (h := g2) (by omega) (by omega) hyg2 z3
    have hself := hyg2.self
    by_cases ht : ∀ j, j < Y.ns → RightB Y (nthB Y.lo Y.hi Y.nf k) j
    · have he : ((rightN Y (nthB Y.lo Y.hi Y.nf k) Y.ns : Nat) : Int) = ((2 ^ Y.ns - 1 : Nat) : Int) := by rw [(rightN_full Y _ Y.ns).2 ht]
      have hsucc : refTruthsTo Y (k + 1) = refTruthsTo Y k ++ [nthB Y.lo Y.hi Y.nf k] := by rw [refTruthsTo_succ, if_pos ht]
      have hlk := refTruthsTo_len (Y := Y) (m := k)
      simp only [rn0, rn1, rn2, rn3, rn4, rn5, rn6, rn7, rn8, if_true, if_false, Nat.le_refl, true_and, and_true, decide_true, decide_false, Bool.not_true, Bool.not_false, reduceIte, Nat.reduceEqDiff, Nat.reduceAdd, Nat.reduceMul, Nat.reduceSub, Nat.reduceLeDiff, Nat.reduceLT, f1, f3, f4, w1, em, hk', e2]
      refine W_draw All ?_
      simp only [rn0, rn1, rn2, rn3, rn4, rn5, rn6, rn7, rn8, if_true, if_false, Nat.le_refl, true_and, and_true, decide_true, decide_false, Bool.not_true, Bool.not_false, reduceIte, Nat.reduceEqDiff, Nat.reduceAdd, Nat.reduceMul, Nat.reduceSub, Nat.reduceLeDiff, Nat.reduceLT, f1, f3, f4, w2, er, ef, hself, he, sl_row hl1]
      refine step_slice (by omega) (by simp [allB, hl1]) fun g3 hx3 => ?_
      have n3 := hx3.next
      have f3' := hx3.floor
      have gv2 : GrowRows g1.next g2 v (refTruthsTo Y k).length (fun _ => Y.nf) (fun i => (refTruthsTo Y (k + 1)).getD i fun _ => 0) := (gv.sub m2.sub u2).congr (fun _ _ => rfl) fun i hi => by
        rw [hsucc, List.getD_eq_getElem?_getD, List.getD_eq_getElem?_getD, List.getElem?_append_left hi]
      have hvb : ∀ b k' c, v = .slice (some b) k' c → b.block < g.next := fun b k' c e => by
        obtain ⟨r, q1, _⟩ := gv
        exact (q1.block e).2
      obtain ⟨v', g4, e4, gv4, hk4, hv1, hvB⟩ := gv2.push (h1 := g3) (l := l) (by omega) (by omega) (by omega) (by
        have : (refTruthsTo Y (k + 1)).getD (refTruthsTo Y k).length (fun _ => 0) = nthB Y.lo Y.hi Y.nf k := by rw [hsucc, List.getD_eq_getElem?_getD, List.getElem?_append_right (Nat.le_refl _)]; simp
        rw [this]; exact hl2) hl1 (fun a k' c e => by
        obtain ⟨q1, q2⟩ := hlb a k' c e
        exact ⟨by omega, q2, fun b m' c' e' => by have := hvb b m' c' e'; omega⟩) hx3 (by simp [maxBytes]; omega) (by simp [maxBytes]; omega)
      have n4 := hk4.next
      have f4' := hk4.floor
      simp only [rn0, rn1, rn2, rn3, rn4, rn5, rn6, rn7, rn8, if_true, if_false, Nat.le_refl, true_and, and_true, decide_true, decide_false, Bool.not_true, Bool.not_false, reduceIte, Nat.reduceEqDiff, Nat.reduceAdd, Nat.reduceMul, Nat.reduceSub, Nat.reduceLeDiff, Nat.reduceLT, f1, f4, e4, hw]
      refine ⟨v', fun i cs w gr t hg => ?_, by omega, by omega, by omega, by rw [hsucc, List.length_append, List.length_singleton, ← hsucc]; exact gv4, rfl⟩
      have hlt := AHeap.lt_of_get hg
      rw [hk4.old i (by omega) fun b q z e => by have := hvB b q z e; omega]
      exact hx3.sub _ _ _ _ t (m2.sub _ _ _ _ t (hs _ _ _ _ t hg))
    · have he : ¬ ((rightN Y (nthB Y.lo Y.hi Y.nf k) Y.ns : Nat) : Int) = ((2 ^ Y.ns - 1 : Nat) : Int) := fun e => ht ((rightN_full Y _ Y.ns).1 (by omega))
      have hsucc : refTruthsTo Y (k + 1) = refTruthsTo Y k := by rw [refTruthsTo_succ, if_neg ht, List.append_nil]
      simp only [rn0, rn1, rn2, rn3, rn4, rn5, rn6, rn7, rn8, if_true, if_false, Nat.le_refl, true_and, and_true, decide_true, decide_false, Bool.not_true, Bool.not_false, reduceIte, Nat.reduceEqDiff, Nat.reduceAdd, Nat.reduceMul, Nat.reduceSub, Nat.reduceLeDiff, Nat.reduceLT, f1, f3, f4, w1, em, hk', e2]
      refine W_draw All ?_
      simp only [rn0, rn1, rn2, rn3, rn4, rn5, rn6, rn7, rn8, if_true, if_false, Nat.le_refl, true_and, and_true, decide_true, decide_false, Bool.not_true, Bool.not_false, reduceIte, Nat.reduceEqDiff, Nat.reduceAdd, Nat.reduceMul, Nat.reduceSub, Nat.reduceLeDiff, Nat.reduceLT, f1, f3, f4, w2, er, ef, hself, he, hw]
      rw [hsucc]
      exact ⟨v, hs.trans m2.sub, by omega, by omega, by omega, gv.sub m2.sub u2, rfl⟩
  · rintro f g ms ⟨⟨v, hs, hfg, hup, hnx, gv, f3⟩, rfl, f1, f4⟩
    have hyg := (hy.mono hx1.sub).mono hs
    have w1 := (hx1.row.mono hs).whole (n := 3) rfl
    have em := many_c (n := n) (h := g) (by omega) (by omega) hyg (by omega) hF
    rw [hM] at em
    simp only [rn0, rn1, rn2, rn3, rn4, rn5, rn6, rn7, rn8, if_true, if_false, Nat.le_refl, true_and, and_true, decide_true, decide_false, Bool.not_true, Bool.not_false, reduceIte, Nat.reduceEqDiff, Nat.reduceAdd, Nat.reduceMul, Nat.reduceSub, Nat.reduceLeDiff, Nat.reduceLT, f1, f3, f4, w1, em, Int.lt_irrefl]
    exact ⟨gv.rows, ⟨hx1.sub.trans hs, by omega, by omega, by omega⟩⟩

/-! The same truths, in another order -/
def encF (s d : Nat → Nat) : Nat → Nat → Nat
  | 0, _ => 0
  | c + 1, i => d i + s i * encF s d c (i + 1)
theorem encF_div {s d : Nat → Nat} {nf : Nat} (hd : ∀ i, i < nf → d i < s i) : ∀ k, k ≤ nf → divN s (encF s d nf 0) k = encF s d (nf - k) k := by
  intro k
  induction k with
  | zero => intro _; rfl
  | succ k ih =>
    intro hk
    have h1 := hd k (by omega)
    obtain ⟨c, hc⟩ : ∃ c, nf - k = c + 1 := ⟨nf - k - 1, by omega⟩
    simp only [divN]
    rw [ih (by omega), hc, show nf - (k + 1) = c by omega]
    simp only [encF]
    rw [Nat.add_mul_div_left _ _ (by omega), Nat.div_eq_of_lt h1, Nat.zero_add]
theorem encF_mod {s d : Nat → Nat} {nf : Nat} (hd : ∀ i, i < nf → d i < s i) {k : Nat} (hk : k < nf) : divN s (encF s d nf 0) k % s k = d k := by
  rw [encF_div hd k (by omega)]
  obtain ⟨c, hc⟩ : ∃ c, nf - k = c + 1 := ⟨nf - k - 1, by omega⟩
  rw [hc]
  simp only [encF]
  rw [Nat.add_mul_mod_self_left, Nat.mod_eq_of_lt (hd k hk)]
def prodN (s : Nat → Nat) : Nat → Nat → Nat
  | 0, _ => 1
  | c + 1, i => s i * prodN s c (i + 1)
theorem encF_lt {s d : Nat → Nat} : ∀ (c i : Nat), (∀ j, i ≤ j → j < i + c → d j < s j) → encF s d c i < prodN s c i
  | 0, i, _ => by simp [encF, prodN]
  | c + 1, i, hd => by
    have h1 := hd i (by omega) (by omega)
    have h2 := encF_lt c (i + 1) fun j h1 h2 => hd j (by omega) (by omega)
    simp only [encF, prodN]
    have h3 : s i * (encF s d c (i + 1) + 1) ≤ s i * prodN s c (i + 1) := Nat.mul_le_mul_left _ h2
    rw [Nat.mul_add, Nat.mul_one] at h3
    omega
theorem prodN_from {lo hi : Nat → Int} : ∀ (c i : Nat), (∀ j, i ≤ j → j < i + c → lo j ≤ hi j) → ((prodN (sz lo hi) c i : Nat) : Int) = prodFrom lo hi c i
  | 0, i, _ => rfl
  | c + 1, i, hv => by
    have h1 := hv i (by omega) (by omega)
    have h2 := prodN_from (lo := lo) (hi := hi) c (i + 1) fun j h1 h2 => hv j (by omega) (by omega)
    have hsz : ((sz lo hi i : Nat) : Int) = hi i - lo i + 1 := Int.toNat_of_nonneg (by omega)
    simp only [prodN, prodFrom]
    rw [Int.natCast_mul, h2, hsz]
noncomputable def refTruths (Y : MY) : List (Nat → Int) := refTruthsTo Y (manyN Y.lo Y.hi Y.nf).toNat
theorem refTruths_mem {Y : MY} (hf : faultN Y = 0) {x : Nat → Int} : x ∈ refTruths Y ↔ x ∈ truths Y := by
  obtain ⟨hG, hsz⟩ := fault_size hf
  have hF : ∀ k, k < Y.nf → 0 ≤ Y.lo k ∧ Y.lo k ≤ Y.hi k ∧ Y.hi k ≤ 20 := hG.f
  have hmany := sizeN_many hG.sz.1 hF Y.nf (Nat.le_refl _)
  obtain ⟨b1, _⟩ := sizeN_bound hG.sz.1 hF Y.nf (Nat.le_refl _)
  have hprod := sizeN_prod (lo := Y.lo) (hi := Y.hi) Y.nf 0
  simp only [Nat.zero_add, sizeN, Int.one_mul] at hprod
  have hpN := prodN_from (lo := Y.lo) (hi := Y.hi) Y.nf 0 fun j _ hj => (hF j (by omega)).2.1
  have hM : (manyN Y.lo Y.hi Y.nf).toNat = prodN (sz Y.lo Y.hi) Y.nf 0 := by omega
  rw [truths_mem]
  unfold refTruths refTruthsTo
  rw [List.mem_filter, List.mem_map]
  simp only [List.mem_range, decide_eq_true_eq]
  constructor
  · rintro ⟨⟨m, _, rfl⟩, h2⟩
    exact ⟨⟨(nthB_are hG.f).2, fun j hj => by rw [nthB, if_neg (by omega)]⟩, h2⟩
  · rintro ⟨⟨h1, h2⟩, h3⟩
    refine ⟨⟨encF (sz Y.lo Y.hi) (fun i => (x i - Y.lo i).toNat) Y.nf 0, ?_, ?_⟩, h3⟩
    · rw [hM]
      refine encF_lt Y.nf 0 fun j _ hj => ?_
      obtain ⟨k1, k2⟩ := h1 j (by omega)
      show (x j - Y.lo j).toNat < (Y.hi j - Y.lo j + 1).toNat
      omega
    · funext j
      by_cases hj : j < Y.nf
      · obtain ⟨k1, k2⟩ := h1 j hj
        rw [nthB, if_pos hj, encF_mod (fun i hi => by
          obtain ⟨k1, k2⟩ := h1 i hi
          show (x i - Y.lo i).toNat < (Y.hi i - Y.lo i + 1).toNat
          omega) hj]
        omega
      · rw [nthB, if_neg hj, h2 j (by omega)]
end Go.Vm.Vat

namespace Go.Vm.Vat
open Go.Proofs
set_option linter.unusedSimpArgs false
set_option linter.unusedVariables false
set_option maxRecDepth 10000
variable {n : Nat} {h : AHeap}

def minN (x : Int) (a : Nat → Int) : Nat → Int
  | 0 => x
  | i + 1 => min (minN x a i) (a i)
def s94 : SCode := (.seq (.ops [⟨(some 4), none, .mov (.const (.int .i64 (0)))⟩]) (.seq (.seq (.ops [⟨(some 7), none, .mov (T 1)⟩, ⟨(some 8), none, .len (T 7)⟩, ⟨(some 9), none, .mov (.const (.int .i64 (0)))⟩]) (.block 0 (.loop (.seq (.ops [⟨(some 10), none, .int2 .lss (T 9) (T 8)⟩]) (.seq (.cond (T 10) .skip (.exit 0)) (.seq (.block 1 (.seq (.ops [⟨(some 11), none, .idxSl 1 (T 7) (T 9)⟩, ⟨(some 12), none, .load1 (T 11)⟩, ⟨(some 6), none, .mov (T 12)⟩]) (.ops [⟨(some 13), none, .mov (T 0)⟩, ⟨(some 14), none, .mov (T 6)⟩, ⟨(some 15), none, .plain (.call { callee := .builtin .min, args := #[(T 13), (T 14)], argTypes := #[3, 3] }) 3⟩, ⟨(some 0), none, .mov (T 15)⟩]))) (.ops [⟨(some 16), none, .int2 .add (T 9) (.const (.int .i64 (1)))⟩, ⟨(some 9), none, .mov (T 16)⟩]))))))) (.seq (.ops [⟨(some 17), none, .mov (T 0)⟩, ⟨(some 4), none, .mov (T 17)⟩]) .ret)))
theorem fok94 : FnOk Try.prog 94 18 s94 [.tmp 4] := ⟨Try.f94, _, Try.func94, rfl, Try.ntmps94, by kernel_rfl, by kernel_rfl⟩
theorem minimum_c {m : Nat} (hn : m + 2 ≤ n) (hm : m ≤ 1000) {v : Value} {a : Nat → Int} (hi : Ints h v m a) (x : Int) : call n (.func (.func 94) #[] #[]) [.int .i64 x, v] h = some (.int .i64 (minN x a m), h) := by
  obtain ⟨n, rfl⟩ : ∃ p, n = p + 1 := ⟨n - 1, by omega⟩
  refine call_plain0 fok94 rfl rfl (by simp) rfl ?_
  have hi := Cells.shut hi
  generalize h.shutAll = h at hi
  simp only [rn0, rn1, rn2, rn3, rn4, rn5, rn6, rn7, rn8, if_true, if_false, Nat.le_refl, true_and, and_true, decide_true, decide_false, Bool.not_true, Bool.not_false, reduceIte, Nat.reduceEqDiff, Nat.reduceAdd, Nat.reduceMul, Nat.reduceSub, Nat.reduceLeDiff, Nat.reduceLT, s94, Cells.len hi]
  refine W_loop m (fun k f g ms => g = h ∧ ms = [] ∧ f 0 = .int .i64 (minN x a k) ∧ f 7 = v ∧ f 8 = .int .i64 (m : Int) ∧ f 9 = .int .i64 (k : Int)) (by simp; omega) ?_ ?_ ?_
  · simp only [rn0, rn1, rn2, rn3, rn4, rn5, rn6, rn7, rn8, if_true, if_false, Nat.le_refl, true_and, and_true, decide_true, decide_false, Bool.not_true, Bool.not_false, reduceIte, Nat.reduceEqDiff, Nat.reduceAdd, Nat.reduceMul, Nat.reduceSub, Nat.reduceLeDiff, Nat.reduceLT]
    exact ⟨rfl, rfl⟩
  · rintro k f g ms hk ⟨rfl, rfl, f0, f7, f8, f9⟩
    have hk' : (k : Int) < (m : Int) := by omega
    have hw : wrapF .i64 ((k : Int) + 1) = ((k + 1 : Nat) : Int) := by rw [wrap_in (by omega) (by omega)]; rfl
    have he : min (minN x a k) (a k) = minN x a (k + 1) := rfl
    simp only [rn0, rn1, rn2, rn3, rn4, rn5, rn6, rn7, rn8, if_true, if_false, Nat.le_refl, true_and, and_true, decide_true, decide_false, Bool.not_true, Bool.not_false, reduceIte, Nat.reduceEqDiff, Nat.reduceAdd, Nat.reduceMul, Nat.reduceSub, Nat.reduceLeDiff, Nat.reduceLT, f0, f7, f8, f9, hk', Cells.idx hi hk, Cells.ld hi hk Nat.zero_lt_one, valN_tmp, Nat.reduceLT, he, hw]
  · rintro f g ms ⟨rfl, rfl, f0, f7, f8, f9⟩
    simp only [rn0, rn1, rn2, rn3, rn4, rn5, rn6, rn7, rn8, if_true, if_false, Nat.le_refl, true_and, and_true, decide_true, decide_false, Bool.not_true, Bool.not_false, reduceIte, Nat.reduceEqDiff, Nat.reduceAdd, Nat.reduceMul, Nat.reduceSub, Nat.reduceLeDiff, Nat.reduceLT, f0, f7, f8, f9, Int.lt_irrefl]

def s98 : SCode := (.seq (.ops [⟨(some 2), none, .box (T 0)⟩, ⟨(some 4), none, .mov (.const (.bool false))⟩]) (.seq (.ops [⟨(some 5), none, .mov (T 1)⟩, ⟨(some 6), none, .int2 .leq (.const (.int .i64 (0))) (T 5)⟩, ⟨(some 7), none, .mov (T 6)⟩, ⟨(some 8), (some (7, true)), .mov (T 1)⟩, ⟨(some 9), (some (7, true)), .fieldAddr 0 (T 2)⟩, ⟨(some 10), (some (7, true)), .fieldAddr 0 (T 9)⟩, ⟨(some 11), (some (7, true)), .load1 (T 10)⟩, ⟨(some 12), (some (7, true)), .len (T 11)⟩, ⟨(some 13), (some (7, true)), .int2 .lss (T 8) (T 12)⟩, ⟨(some 14), none, .pick (T 7) (T 13) (.const (.bool false))⟩, ⟨(some 4), none, .mov (T 14)⟩]) .ret))
theorem fok98 : FnOk Try.prog 98 15 s98 [.tmp 4] := ⟨Try.f98, _, Try.func98, rfl, Try.ntmps98, by kernel_rfl, by kernel_rfl⟩
theorem hasField_c (hn : 1 ≤ n) (hr : h.next < far) {F V S T : Value} {s m : Nat} {c : Nat → Nat → Value} (hv : Cells h F s m c) (h1 : allB oneCell [F, V, S, T] = true) (at_ : Int) :
    call n (.func (.func 98) #[] #[]) [.agg ⟨[F, V, S, T]⟩, .int .i64 at_] h = some (.bool (decide (0 ≤ at_ ∧ at_ ≤ (m : Int) - 1)), h) := by
  obtain ⟨n, rfl⟩ : ∃ p, n = p + 1 := ⟨n - 1, by omega⟩
  refine call_plain0 fok98 rfl rfl (by simp) rfl ?_
  have hv := Cells.shut hv
  have hr : h.shutAll.next < far := hr
  generalize h.shutAll = h at hv hr
  simp only [s98, W_seq, W_ops]
  refine ops_box (cs := [F, V, S, T]) (by omega) rfl h1 fun g1 hx => ?_
  have hv1 := Cells.mono hv hx.sub
  by_cases c1 : 0 ≤ at_
  · by_cases c2 : at_ < (m : Int)
    · have c3 : at_ ≤ (m : Int) - 1 := by omega
      simp only [rn0, rn1, rn2, rn3, rn4, rn5, rn6, rn7, rn8, if_true, if_false, Nat.le_refl, true_and, and_true, decide_true, decide_false, Bool.not_true, Bool.not_false, reduceIte, Nat.reduceEqDiff, Nat.reduceAdd, Nat.reduceMul, Nat.reduceSub, Nat.reduceLeDiff, Nat.reduceLT, hx.ld, Nat.zero_add, List.getElem?_cons_zero, List.getElem?_cons_succ, Cells.len hv1, c1, c2, c3, and_self]
    · have c3 : ¬ at_ ≤ (m : Int) - 1 := by omega
      simp only [rn0, rn1, rn2, rn3, rn4, rn5, rn6, rn7, rn8, if_true, if_false, Nat.le_refl, true_and, and_true, decide_true, decide_false, Bool.not_true, Bool.not_false, reduceIte, Nat.reduceEqDiff, Nat.reduceAdd, Nat.reduceMul, Nat.reduceSub, Nat.reduceLeDiff, Nat.reduceLT, hx.ld, Nat.zero_add, List.getElem?_cons_zero, List.getElem?_cons_succ, Cells.len hv1, c1, c2, c3, and_false]
  · simp only [rn0, rn1, rn2, rn3, rn4, rn5, rn6, rn7, rn8, if_true, if_false, Nat.le_refl, true_and, and_true, decide_true, decide_false, Bool.not_true, Bool.not_false, reduceIte, Nat.reduceEqDiff, Nat.reduceAdd, Nat.reduceMul, Nat.reduceSub, Nat.reduceLeDiff, Nat.reduceLT, hx.ld, Nat.zero_add, List.getElem?_cons_zero, List.getElem?_cons_succ, Cells.len hv1, c1, false_and]

/-- what 'openTrue' answers -/
def OpenTR (h : AHeap) (Y : MY) (F V S v : Value) (h' : AHeap) : Prop := Made h h' 240000 ∧
  ((faultN Y ≠ 0 ∧ v = .tuple ⟨[.agg ⟨[nilS, nilS, nilS, nilS]⟩, .int .i64 (faultN Y)]⟩) ∨ (faultN Y = 0 ∧ truths Y = [] ∧ v = .tuple ⟨[.agg ⟨[nilS, nilS, nilS, nilS]⟩, .int .i64 11]⟩) ∨
    (faultN Y = 0 ∧ truths Y ≠ [] ∧ ∃ tv, v = .tuple ⟨[.agg ⟨[F, V, S, tv]⟩, .int .i64 0]⟩ ∧ TruthsR h' tv (truths Y) ∧ Long tv))
def s89 : SCode := (.seq (.ops [⟨(some 1), none, .box (T 0)⟩, ⟨(some 2), none, .alloc [(.slice none 0 0), (.slice none 0 0), (.slice none 0 0), (.slice none 0 0)]⟩, ⟨(some 3), none, .mov (.const (.int .i64 (0)))⟩]) (.seq (.ops [⟨(some 7), none, .loadN 3 (T 1)⟩, ⟨(some 8), none, .call (.func 78) [(T 7)]⟩, ⟨(some 6), none, .mov (T 8)⟩, ⟨(some 9), none, .extract 0 (T 6)⟩, ⟨(some 10), none, .extract 1 (T 6)⟩, ⟨(some 4), none, .alloc [(.slice none 0 0), (.slice none 0 0), (.slice none 0 0), (.slice none 0 0)]⟩, ⟨none, none, .store 4 (T 4) (T 9)⟩, ⟨(some 5), none, .mov (T 10)⟩]) (.seq (.seq (.ops [⟨(some 11), none, .mov (T 5)⟩, ⟨(some 12), none, .int2 .eql (T 11) (.const (.int .i64 (0)))⟩, ⟨(some 13), none, .mov (T 12)⟩, ⟨(some 14), (some (13, true)), .fieldAddr 3 (T 4)⟩, ⟨(some 15), (some (13, true)), .load1 (T 14)⟩, ⟨(some 16), (some (13, true)), .len (T 15)⟩, ⟨(some 17), (some (13, true)), .int2 .eql (T 16) (.const (.int .i64 (0)))⟩, ⟨(some 18), none, .pick (T 13) (T 17) (.const (.bool false))⟩]) (.cond (T 18) (.seq (.ops [⟨(some 19), none, .build #[(0, 3), (3, 1)] [(.slice none 0 0), (.slice none 0 0), (.slice none 0 0), (.slice none 0 0)] [] []⟩, ⟨none, none, .store 4 (T 2) (T 19)⟩, ⟨(some 3), none, .mov (.const (.int .i64 (11)))⟩]) .ret) .skip)) (.seq (.ops [⟨(some 20), none, .loadN 4 (T 4)⟩, ⟨(some 21), none, .mov (T 5)⟩, ⟨none, none, .store 4 (T 2) (T 20)⟩, ⟨(some 3), none, .mov (T 21)⟩]) .ret))))
theorem fok89 : FnOk Try.prog 89 22 s89 [.cellN 2 4, .tmp 3] := ⟨Try.f89, _, Try.func89, rfl, Try.ntmps89, by kernel_rfl, by kernel_rfl⟩
theorem openTrue_c (hn : 10050 ≤ n) (hr : h.next + 400000 < far) (hfl : h.floor ≤ h.next) {F V S : Value} {Y : MY} (hy : YardR h F V S Y) (hY : Thin Y) :
    ∃ v h', call n (.func (.func 89) #[] #[]) [.agg ⟨[F, V, S]⟩] h = some (v, h') ∧ OpenTR h Y F V S v h' := by
  obtain ⟨n, rfl⟩ : ∃ p, n = p + 1 := ⟨n - 1, by omega⟩
  refine call_any0 fok89 rfl rfl (by simp) ?_
  simp only [s89, W_seq, W_ops]
  refine ops_box (cs := [F, V, S]) (by omega) rfl hy.one fun g1 hx1 => ?_
  have n1 := hx1.next
  have f1 := hx1.floor
  simp only [rn0, rn1, rn2, rn3, rn4, rn5, rn6, rn7, rn8, if_true, if_false, Nat.le_refl, true_and, and_true, decide_true, decide_false, Bool.not_true, Bool.not_false, reduceIte, Nat.reduceEqDiff, Nat.reduceAdd, Nat.reduceMul, Nat.reduceSub, Nat.reduceLeDiff, Nat.reduceLT]
  refine step_row (cs := [nilS, nilS, nilS, nilS]) (by omega) rfl rfl fun g2 hx2 => ?_
  have n2 := hx2.next
  have f2 := hx2.floor
  have w2 := (hx1.row.mono hx2.sub).whole (n := 3) rfl
  obtain ⟨v, g3, eo, hm, ho⟩ := open_c (n := n) (h := g2) (by omega) (by omega) (by omega) ((hy.mono hx1.sub).mono hx2.sub) hY
  have n3 := hm.next
  have u3 := hm.up
  have f3 := hm.floor
  have hres : g3.get g1.next = some (.row [nilS, nilS, nilS, nilS] true 0) := hm.sub _ _ _ _ trivial hx2.get
  have hs3 : Sub All h g3 := hx1.sub.trans (hx2.sub.trans hm.sub)
  -- how it ends
  have fin : ∀ (g4 g5 : AHeap) (cs : List Value), Sub All h g4 → New g3 g4 cs 0 → ∀ (vs : List Value), Set1 g4 g5 g1.next vs 0 → Made h g5 240000 := fun g4 g5 cs hs hx vs hst => by
    have := hx.next
    have := hst.next
    have := hx.floor
    have := hst.floor
    exact ⟨fun i cs w gr t hg => by rw [hst.old i (by have := AHeap.lt_of_get hg; omega)]; exact hs _ _ _ _ t hg, by omega, by omega, by omega⟩
  rcases ho with ⟨hf, rfl⟩ | ⟨hf, tv, rfl, htr, hlong⟩
  · simp only [rn0, rn1, rn2, rn3, rn4, rn5, rn6, rn7, rn8, if_true, if_false, Nat.le_refl, true_and, and_true, decide_true, decide_false, Bool.not_true, Bool.not_false, reduceIte, Nat.reduceEqDiff, Nat.reduceAdd, Nat.reduceMul, Nat.reduceSub, Nat.reduceLeDiff, Nat.reduceLT, w2, eo, ex0, ex1]
    refine step_new (vs := [nilS, nilS, nilS, nilS]) (by omega) (by omega) rfl (by simp only [rn0, rn1, rn2, rn3, rn4, rn5, rn6, rn7, rn8, if_true, if_false, Nat.le_refl, true_and, and_true, decide_true, decide_false, Bool.not_true, Bool.not_false, reduceIte, Nat.reduceEqDiff, Nat.reduceAdd, Nat.reduceMul, Nat.reduceSub, Nat.reduceLeDiff, Nat.reduceLT]; rfl) rfl rfl rfl fun g4 hx4 => ?_
    have w4 := hx4.row.whole (n := 4) rfl
    have n4 := hx4.next
    have f4 := hx4.floor
    simp only [rn0, rn1, rn2, rn3, rn4, rn5, rn6, rn7, rn8, if_true, if_false, Nat.le_refl, true_and, and_true, decide_true, decide_false, Bool.not_true, Bool.not_false, reduceIte, Nat.reduceEqDiff, Nat.reduceAdd, Nat.reduceMul, Nat.reduceSub, Nat.reduceLeDiff, Nat.reduceLT, hf, w4]
    refine step_store (vs := [nilS, nilS, nilS, nilS]) rfl (hx4.sub _ _ _ _ trivial hres) (by omega) (by omega) rfl rfl rfl (by simp) fun g5 hs5 => ?_
    rw [splice_all rfl] at hs5
    simp only [rn0, rn1, rn2, rn3, rn4, rn5, rn6, rn7, rn8, if_true, if_false, Nat.le_refl, true_and, and_true, decide_true, decide_false, Bool.not_true, Bool.not_false, reduceIte, Nat.reduceEqDiff, Nat.reduceAdd, Nat.reduceMul, Nat.reduceSub, Nat.reduceLeDiff, Nat.reduceLT, res_two, hs5.row.whole (n := 4) rfl]
    exact ⟨fin g4 g5 _ (hs3.trans hx4.sub) hx4 _ hs5, .inl ⟨hf, rfl⟩⟩
  · have ho4 : allB oneCell [F, V, S, tv] = true := by have h1 := hy.one; have h2 := Cells.one htr; simp [allB] at h1 ⊢; simp [h1, h2]
    simp only [rn0, rn1, rn2, rn3, rn4, rn5, rn6, rn7, rn8, if_true, if_false, Nat.le_refl, true_and, and_true, decide_true, decide_false, Bool.not_true, Bool.not_false, reduceIte, Nat.reduceEqDiff, Nat.reduceAdd, Nat.reduceMul, Nat.reduceSub, Nat.reduceLeDiff, Nat.reduceLT, w2, eo, ex0, ex1]
    refine step_new (vs := [F, V, S, tv]) (by omega) (by omega) rfl (by simp only [rn0, rn1, rn2, rn3, rn4, rn5, rn6, rn7, rn8, if_true, if_false, Nat.le_refl, true_and, and_true, decide_true, decide_false, Bool.not_true, Bool.not_false, reduceIte, Nat.reduceEqDiff, Nat.reduceAdd, Nat.reduceMul, Nat.reduceSub, Nat.reduceLeDiff, Nat.reduceLT]; rfl) ho4 rfl rfl fun g4 hx4 => ?_
    have w4 := hx4.row.whole (n := 4) rfl
    have n4 := hx4.next
    have f4 := hx4.floor
    have htr4 : TruthsR g4 tv (truths Y) := Cells.mono htr hx4.sub
    by_cases he : truths Y = []
    · have hl : (truths Y).length = 0 := by rw [he]; rfl
      simp only [rn0, rn1, rn2, rn3, rn4, rn5, rn6, rn7, rn8, if_true, if_false, Nat.le_refl, true_and, and_true, decide_true, decide_false, Bool.not_true, Bool.not_false, reduceIte, Nat.reduceEqDiff, Nat.reduceAdd, Nat.reduceMul, Nat.reduceSub, Nat.reduceLeDiff, Nat.reduceLT, hx4.row.ld, Nat.zero_add, List.getElem?_cons_zero, List.getElem?_cons_succ, Cells.len htr4, hl, Int.natCast_zero, build_work0]
      refine step_store (vs := [nilS, nilS, nilS, nilS]) rfl (hx4.sub _ _ _ _ trivial hres) (by omega) (by omega) rfl rfl rfl (by simp) fun g5 hs5 => ?_
      rw [splice_all rfl] at hs5
      simp only [rn0, rn1, rn2, rn3, rn4, rn5, rn6, rn7, rn8, if_true, if_false, Nat.le_refl, true_and, and_true, decide_true, decide_false, Bool.not_true, Bool.not_false, reduceIte, Nat.reduceEqDiff, Nat.reduceAdd, Nat.reduceMul, Nat.reduceSub, Nat.reduceLeDiff, Nat.reduceLT, res_two, hs5.row.whole (n := 4) rfl]
      exact ⟨fin g4 g5 _ (hs3.trans hx4.sub) hx4 _ hs5, .inr (.inl ⟨hf, he, rfl⟩)⟩
    · have hl : ¬ ((truths Y).length : Int) = 0 := fun e => he (List.eq_nil_of_length_eq_zero (by omega))
      simp only [rn0, rn1, rn2, rn3, rn4, rn5, rn6, rn7, rn8, if_true, if_false, Nat.le_refl, true_and, and_true, decide_true, decide_false, Bool.not_true, Bool.not_false, reduceIte, Nat.reduceEqDiff, Nat.reduceAdd, Nat.reduceMul, Nat.reduceSub, Nat.reduceLeDiff, Nat.reduceLT, hx4.row.ld, Nat.zero_add, List.getElem?_cons_zero, List.getElem?_cons_succ, Cells.len htr4, hl, w4]
      refine step_store (vs := [F, V, S, tv]) rfl (hx4.sub _ _ _ _ trivial hres) (by omega) (by omega) rfl ho4 rfl (by simp) fun g5 hs5 => ?_
      rw [splice_all (cs := [nilS, nilS, nilS, nilS]) (vs := [F, V, S, tv]) rfl] at hs5
      simp only [rn0, rn1, rn2, rn3, rn4, rn5, rn6, rn7, rn8, if_true, if_false, Nat.le_refl, true_and, and_true, decide_true, decide_false, Bool.not_true, Bool.not_false, reduceIte, Nat.reduceEqDiff, Nat.reduceAdd, Nat.reduceMul, Nat.reduceSub, Nat.reduceLeDiff, Nat.reduceLT, res_two, hs5.row.whole (n := 4) rfl]
      refine ⟨fin g4 g5 _ (hs3.trans hx4.sub) hx4 _ hs5, .inr (.inr ⟨hf, he, tv, rfl, ?_, hlong⟩)⟩
      obtain ⟨a, cap, e, hsp, h0 | ⟨b, o, cs, w, gr, e1, e2, e3⟩⟩ := htr
      · exact absurd (List.eq_nil_of_length_eq_zero h0) he
      · have hpos : 0 < (truths Y).length := by omega
        have hne : b ≠ g1.next := fun eb => by
          subst eb
          have hrow : (AObj.row cs w gr) = .row [nilS, nilS, nilS, nilS] true 0 := Option.some.inj (e2.symm.trans hres)
          cases hrow
          have := List.mem_of_getElem? (e3 0 0 hpos (by omega))
          simp at this
        exact ⟨a, cap, e, hsp, .inr ⟨b, o, cs, w, gr, e1, by rw [hs5.old b hne]; exact hx4.sub _ _ _ _ trivial e2, e3⟩⟩

/-! ### The law's own: the truths, or an error -/
/-- what 'asked' answers -/
def AskedR (h : AHeap) (Y : MY) (due : Int) (v : Value) (h' : AHeap) : Prop := Made h h' 150000 ∧
  ((faultN Y ≠ 0 ∧ v = .tuple ⟨[nilS, .int .i64 (faultN Y)]⟩) ∨ (faultN Y = 0 ∧ due ≠ 0 ∧ v = .tuple ⟨[nilS, .int .i64 due]⟩) ∨ (faultN Y = 0 ∧ due = 0 ∧ refTruths Y = [] ∧ v = .tuple ⟨[nilS, .int .i64 11]⟩) ∨
    (faultN Y = 0 ∧ due = 0 ∧ refTruths Y ≠ [] ∧ ∃ l, v = .tuple ⟨[l, .int .i64 0]⟩ ∧ TruthsL h' l Y.nf (refTruths Y)))
def s43 : SCode := (.seq (.ops [⟨(some 2), none, .box (T 0)⟩, ⟨(some 4), none, .mov (.const (.slice none 0 0))⟩, ⟨(some 5), none, .mov (.const (.int .i64 (0)))⟩]) (.seq (.seq (.ops [⟨(some 8), none, .loadN 3 (T 2)⟩, ⟨(some 9), none, .call (.func 29) [(T 8)]⟩, ⟨(some 6), none, .mov (T 9)⟩]) (.seq (.ops [⟨(some 10), none, .mov (T 6)⟩, ⟨(some 11), none, .int2 .neq (T 10) (.const (.int .i64 (0)))⟩]) (.cond (T 11) (.seq (.ops [⟨(some 12), none, .mov (T 6)⟩, ⟨(some 4), none, .mov (.const (.slice none 0 0))⟩, ⟨(some 5), none, .mov (T 12)⟩]) .ret) .skip))) (.seq (.seq (.ops [⟨(some 13), none, .mov (T 1)⟩, ⟨(some 14), none, .int2 .neq (T 13) (.const (.int .i64 (0)))⟩]) (.cond (T 14) (.seq (.ops [⟨(some 15), none, .mov (T 1)⟩, ⟨(some 4), none, .mov (.const (.slice none 0 0))⟩, ⟨(some 5), none, .mov (T 15)⟩]) .ret) .skip)) (.seq (.ops [⟨(some 16), none, .loadN 3 (T 2)⟩, ⟨(some 17), none, .call (.func 64) [(T 16)]⟩, ⟨(some 7), none, .mov (T 17)⟩]) (.seq (.seq (.ops [⟨(some 18), none, .mov (T 7)⟩, ⟨(some 19), none, .len (T 18)⟩, ⟨(some 20), none, .int2 .eql (T 19) (.const (.int .i64 (0)))⟩]) (.cond (T 20) (.seq (.ops [⟨(some 4), none, .mov (.const (.slice none 0 0))⟩, ⟨(some 5), none, .mov (.const (.int .i64 (11)))⟩]) .ret) .skip)) (.seq (.ops [⟨(some 21), none, .mov (T 7)⟩, ⟨(some 4), none, .mov (T 21)⟩, ⟨(some 5), none, .mov (.const (.int .i64 (0)))⟩]) .ret))))))
theorem fok43 : FnOk Try.prog 43 22 s43 [.tmp 4, .tmp 5] := ⟨Try.f43, _, Try.func43, rfl, Try.ntmps43, by kernel_rfl, by kernel_rfl⟩
theorem asked_c (hn : 10020 ≤ n) (hr : h.next + 300000 < far) (hfl : h.floor ≤ h.next) {fv vv sv : Value} {Y : MY} (hy : YardR h fv vv sv Y) (due : Int) :
    ∃ v h', call n (.func (.func 43) #[] #[]) [.agg ⟨[fv, vv, sv]⟩, .int .i64 due] h = some (v, h') ∧ AskedR h Y due v h' := by
  obtain ⟨n, rfl⟩ : ∃ p, n = p + 1 := ⟨n - 1, by omega⟩
  refine call_any0 fok43 rfl rfl (by simp) ?_
  simp only [s43, W_seq, W_ops]
  refine ops_box (cs := [fv, vv, sv]) (by omega) rfl hy.one fun g1 hx1 => ?_
  have n1 := hx1.next
  have f1 := hx1.floor
  have hy1 := hy.mono hx1.sub
  have w1 := hx1.row.whole (n := 3) rfl
  have ef := faultL_c (n := n) (h := g1) (by omega) (by omega) hy1
  have m1 : Made h g1 150000 := ⟨hx1.sub, by omega, by omega, f1⟩
  by_cases hf : faultN Y = 0
  case neg =>
    simp only [rn0, rn1, rn2, rn3, rn4, rn5, rn6, rn7, rn8, if_true, if_false, Nat.le_refl, true_and, and_true, decide_true, decide_false, Bool.not_true, Bool.not_false, reduceIte, Nat.reduceEqDiff, Nat.reduceAdd, Nat.reduceMul, Nat.reduceSub, Nat.reduceLeDiff, Nat.reduceLT, w1, ef, hf, ret_tt]
    exact ⟨m1, .inl ⟨hf, rfl⟩⟩
  by_cases hd : due = 0
  case neg =>
    simp only [rn0, rn1, rn2, rn3, rn4, rn5, rn6, rn7, rn8, if_true, if_false, Nat.le_refl, true_and, and_true, decide_true, decide_false, Bool.not_true, Bool.not_false, reduceIte, Nat.reduceEqDiff, Nat.reduceAdd, Nat.reduceMul, Nat.reduceSub, Nat.reduceLeDiff, Nat.reduceLT, w1, ef, hf, hd, ret_tt]
    exact ⟨m1, .inr (.inl ⟨hf, hd, rfl⟩)⟩
  subst hd
  obtain ⟨l, g2, e2, ht, m2⟩ := truthsRef_c (n := n) (h := g1) (by omega) (by omega) (by omega) hy1 hf
  have n2 := m2.next
  have u2 := m2.up
  have f2 := m2.floor
  have hm : Made h g2 150000 := ⟨hx1.sub.trans m2.sub, by omega, by omega, by omega⟩
  obtain ⟨r, q1, q2⟩ := ht
  by_cases he : refTruths Y = []
  · have hl : (refTruthsTo Y (manyN Y.lo Y.hi Y.nf).toNat).length = 0 := by show (refTruths Y).length = 0; rw [he]; rfl
    simp only [rn0, rn1, rn2, rn3, rn4, rn5, rn6, rn7, rn8, if_true, if_false, Nat.le_refl, true_and, and_true, decide_true, decide_false, Bool.not_true, Bool.not_false, reduceIte, Nat.reduceEqDiff, Nat.reduceAdd, Nat.reduceMul, Nat.reduceSub, Nat.reduceLeDiff, Nat.reduceLT, w1, ef, hf, e2, Cells.len q1, hl, Int.natCast_zero, ret_tt]
    exact ⟨hm, .inr (.inr (.inl ⟨hf, rfl, he, rfl⟩))⟩
  · have hl : ¬ ((refTruthsTo Y (manyN Y.lo Y.hi Y.nf).toNat).length : Int) = 0 := fun e => he (List.eq_nil_of_length_eq_zero (by show (refTruthsTo Y (manyN Y.lo Y.hi Y.nf).toNat).length = 0; omega))
    simp only [rn0, rn1, rn2, rn3, rn4, rn5, rn6, rn7, rn8, if_true, if_false, Nat.le_refl, true_and, and_true, decide_true, decide_false, Bool.not_true, Bool.not_false, reduceIte, Nat.reduceEqDiff, Nat.reduceAdd, Nat.reduceMul, Nat.reduceSub, Nat.reduceLeDiff, Nat.reduceLT, w1, ef, hf, e2, Cells.len q1, hl, ret_tt]
    exact ⟨hm, .inr (.inr (.inr ⟨hf, rfl, he, _, rfl, r, q1, q2⟩))⟩

def s36 : SCode := (.seq (.ops [⟨(some 1), none, .box (T 0)⟩, ⟨(some 2), none, .mov (.const (.slice none 0 0))⟩, ⟨(some 3), none, .mov (.const (.int .i64 (0)))⟩]) (.seq (.ops [⟨(some 4), none, .loadN 3 (T 1)⟩, ⟨(some 5), none, .call (.func 43) [(T 4), (.const (.int .i64 (0)))]⟩, ⟨(some 6), none, .extract 0 (T 5)⟩, ⟨(some 7), none, .extract 1 (T 5)⟩, ⟨(some 2), none, .mov (T 6)⟩, ⟨(some 3), none, .mov (T 7)⟩]) .ret))
theorem fok36 : FnOk Try.prog 36 8 s36 [.tmp 2, .tmp 3] := ⟨Try.f36, _, Try.func36, rfl, Try.ntmps36, by kernel_rfl, by kernel_rfl⟩
theorem sure_c (hn : 10025 ≤ n) (hr : h.next + 300010 < far) (hfl : h.floor ≤ h.next) {fv vv sv : Value} {Y : MY} (hy : YardR h fv vv sv Y) :
    ∃ v h', call n (.func (.func 36) #[] #[]) [.agg ⟨[fv, vv, sv]⟩] h = some (v, h') ∧ (Made h h' 150010 ∧
      ((faultN Y ≠ 0 ∧ v = .tuple ⟨[nilS, .int .i64 (faultN Y)]⟩) ∨ (faultN Y = 0 ∧ refTruths Y = [] ∧ v = .tuple ⟨[nilS, .int .i64 11]⟩) ∨
        (faultN Y = 0 ∧ refTruths Y ≠ [] ∧ ∃ l, v = .tuple ⟨[l, .int .i64 0]⟩ ∧ TruthsL h' l Y.nf (refTruths Y)))) := by
  obtain ⟨n, rfl⟩ : ∃ p, n = p + 1 := ⟨n - 1, by omega⟩
  refine call_any0 fok36 rfl rfl (by simp) ?_
  simp only [s36, W_seq, W_ops]
  refine ops_box (cs := [fv, vv, sv]) (by omega) rfl hy.one fun g1 hx1 => ?_
  have n1 := hx1.next
  have f1 := hx1.floor
  have hy1 := hy.mono hx1.sub
  have w1 := hx1.row.whole (n := 3) rfl
  obtain ⟨v, g2, e2, m2, hv⟩ := asked_c (n := n) (h := g1) (by omega) (by omega) (by omega) hy1 0
  have n2 := m2.next
  have u2 := m2.up
  have f2 := m2.floor
  have hm : Made h g2 150010 := ⟨hx1.sub.trans m2.sub, by omega, by omega, by omega⟩
  rcases hv with ⟨hf, rfl⟩ | ⟨_, h0, _⟩ | ⟨hf, _, he, rfl⟩ | ⟨hf, _, he, l, rfl, ht⟩
  · simp only [rn0, rn1, rn2, rn3, rn4, rn5, rn6, rn7, rn8, if_true, if_false, Nat.le_refl, true_and, and_true, decide_true, decide_false, Bool.not_true, Bool.not_false, reduceIte, Nat.reduceEqDiff, Nat.reduceAdd, Nat.reduceMul, Nat.reduceSub, Nat.reduceLeDiff, Nat.reduceLT, w1, e2, ex0, ex1, ret_tt]
    exact ⟨hm, .inl hf⟩
  · exact absurd rfl h0
  · simp only [rn0, rn1, rn2, rn3, rn4, rn5, rn6, rn7, rn8, if_true, if_false, Nat.le_refl, true_and, and_true, decide_true, decide_false, Bool.not_true, Bool.not_false, reduceIte, Nat.reduceEqDiff, Nat.reduceAdd, Nat.reduceMul, Nat.reduceSub, Nat.reduceLeDiff, Nat.reduceLT, w1, e2, ex0, ex1, ret_tt]
    exact ⟨hm, .inr (.inl ⟨hf, he⟩)⟩
  · simp only [rn0, rn1, rn2, rn3, rn4, rn5, rn6, rn7, rn8, if_true, if_false, Nat.le_refl, true_and, and_true, decide_true, decide_false, Bool.not_true, Bool.not_false, reduceIte, Nat.reduceEqDiff, Nat.reduceAdd, Nat.reduceMul, Nat.reduceSub, Nat.reduceLeDiff, Nat.reduceLT, w1, e2, ex0, ex1, ret_tt]
    exact ⟨hm, .inr (.inr ⟨hf, he, _, rfl, ht⟩)⟩
end Go.Vm.Vat

namespace Go.Vm.Vat
open Go.Proofs
set_option linter.unusedSimpArgs false
set_option linter.unusedVariables false
set_option maxRecDepth 10000
variable {n : Nat} {h : AHeap}

/-! ### Slices without their first element -/
theorem tail_c {v : Value} {s m : Nat} {c : Nat → Nat → Value} (hc : Cells h v s m c) (hm : 0 < m) (hlong : Long v) (hf : h.next < far) :
    ∃ v' h', sliceA s false h v (some (.int .i64 1)) none none = some (v', h') ∧ Cells h' v' s (m - 1) (fun k j => c (k + 1) j) ∧ Sub All h h' ∧ h.next ≤ h'.next ∧ h'.next ≤ h.next + 1 ∧ h'.floor = h.floor ∧ oneCell v' = true ∧ ∀ g, Cells g v s m c → Cells g v' s (m - 1) (fun k j => c (k + 1) j) := by
  obtain ⟨b, o, cap, cs, w, gr, rfl, h1, h2⟩ := hc.ptr hm
  have e1 : boundA 0 (some (.int .i64 1)) = some 1 := rfl
  have e2 : boundA m none = some m := rfl
  have e3 : Nat.ble 1 m = true := ble_iff.2 hm
  have e4 : Nat.ble m m = true := ble_iff.2 (Nat.le_refl _)
  have hcell : ∀ g, Cells g (.slice (some ⟨b, o, none⟩) m cap) s m c → ∀ cp, Cells g (.slice (addrPlus (some ⟨b, o, none⟩) (1 * s)) (m - 1) cp) s (m - 1) (fun k j => c (k + 1) j) := fun g hcg cp => by
    obtain ⟨b', o', cap', cs, w, gr, e, h1, h2⟩ := hcg.ptr hm
    cases e
    have ea : addrPlus (some ⟨b, o, none⟩) (1 * s) = some ⟨b, o + s, none⟩ := by
      simp only [addrPlus, Nat.one_mul]
    rw [ea]
    refine ⟨_, cp, rfl, fun x e => by cases e; rfl, ?_⟩
    by_cases h0 : m - 1 = 0
    · exact .inl h0
    · exact .inr ⟨b, o + s, cs, w, gr, rfl, h1, fun k j hk hj => by
        have := h2 (k + 1) j (by omega) hj
        rw [Nat.add_mul, Nat.one_mul] at this
        rw [show o + s + k * s + j = o + (k * s + s) + j by omega]
        exact this⟩
  unfold sliceA
  simp only [e1, e2, e3, e4, Bool.and_self, cond_true]
  cases hc1 : Nat.blt cap unk with
  | true =>
    simp only [cond_true]
    cases hc2 : Nat.beq cap 1 with
    | true =>
      simp only [cond_true]
      by_cases h0 : m - 1 = 0
      · exact ⟨_, _, rfl, ⟨_, _, rfl, fun x e => by cases e; rfl, .inl h0⟩, Sub.refl, Nat.le_refl _, by omega, rfl, rfl, fun g _ => ⟨_, _, rfl, fun x e => by cases e; rfl, .inl h0⟩⟩
      · exact absurd (hlong _ _ _ rfl (beq_iff.1 hc2)) (by omega)
    | false =>
      simp only [cond_false]
      exact ⟨_, _, rfl, hcell h hc _, Sub.refl, Nat.le_refl _, by omega, rfl, rfl, fun g hg => hcell g hg _⟩
  | false =>
    have e5 : Nat.beq 1 0 = false := rfl
    simp only [cond_false, e5]
    cases hc3 : Nat.blt 1 m with
    | true =>
      simp only [cond_true]
      exact ⟨_, _, rfl, hcell h hc _, Sub.refl, Nat.le_refl _, by omega, rfl, rfl, fun g hg => hcell g hg _⟩
    | false =>
      have h0 : m - 1 = 0 := by
        have : ¬ 1 < m := fun h => by rw [blt_iff.2 h] at hc3; cases hc3
        omega
      simp only [cond_false]
      rw [push_run hf]
      have hmm := more_more hf none
      exact ⟨_, _, rfl, ⟨_, _, by rw [h0], fun x e => by cases e; rfl, .inl h0⟩, hmm.sub, by rw [hmm.next]; omega, by rw [hmm.next]; omega, hmm.floor, rfl, fun g _ => ⟨_, _, by rw [h0], fun x e => by cases e; rfl, .inl h0⟩⟩

/-! ### What is surely in a vat -/
theorem le_minN {x : Int} {a : Nat → Int} {b : Int} : ∀ m, b ≤ minN x a m ↔ b ≤ x ∧ ∀ i, i < m → b ≤ a i
  | 0 => by simp [minN]
  | m + 1 => by
    simp only [minN]
    rw [Int.le_min, le_minN m]
    constructor
    · rintro ⟨⟨h1, h2⟩, h3⟩
      refine ⟨h1, fun i hi => ?_⟩
      by_cases e : i = m
      · subst e; exact h3
      · exact h2 i (by omega)
    · rintro ⟨h1, h2⟩
      exact ⟨⟨h1, fun i hi => h2 i (by omega)⟩, h2 m (by omega)⟩
def blueWith (Y : MY) (v f : Nat) (many : Nat) (t : Nat → Int) : Int := blueN t (Y.q v) Y.nf + many * t f
def s119 : SCode := (.seq (.ops [⟨(some 5), none, .box (T 0)⟩, ⟨(some 6), none, .mov (.const (.int .i64 (0)))⟩]) (.seq (.draw [⟨.rd1, ⟨(some 7), none, .loadN 4 (T 1)⟩⟩, ⟨.rd1, ⟨(some 8), none, .loadN 5 (T 5)⟩⟩, ⟨.rd1, ⟨(some 9), none, .load1 (T 2)⟩⟩, ⟨.up, ⟨(some 10), none, .call (.func 77) [(T 7), (T 8), (T 9)]⟩⟩, ⟨.rd, ⟨(some 11), none, .load1 (T 3)⟩⟩, ⟨.rd, ⟨(some 12), none, .load1 (T 4)⟩⟩, ⟨.free, ⟨(some 13), none, .idxArr 5 1 (T 5) (T 12)⟩⟩, ⟨.rd, ⟨(some 14), none, .load1 (T 13)⟩⟩, ⟨.free, ⟨(some 15), none, .int2 .mul (T 11) (T 14)⟩⟩, ⟨.free, ⟨(some 16), none, .int2 .add (T 10) (T 15)⟩⟩, ⟨.free, ⟨(some 6), none, .mov (T 16)⟩⟩]) .ret))
theorem fok119 : FnOk Try.prog 119 17 s119 [.tmp 6] := ⟨Try.f119, _, Try.func119, rfl, Try.ntmps119, by kernel_rfl, by kernel_rfl⟩
theorem sureBlue1_c (hn : 10003 ≤ n) (hr : h.next + 10 < far) {F V S T : Value} {Y : MY} {t : Nat → Int} {p0 p1 p2 p3 v f many : Nat} (ha : AtVat h V Y t) (h1 : allB oneCell [F, V, S, T] = true) (hv : v < Y.nv) (hf : f < Y.nf) (hm : many ≤ 100)
    (r0 : Row h p0 [F, V, S, T]) (r1 : Row h p1 [.int .i64 (v : Int)]) (r2 : Row h p2 [.int .i64 (many : Int)]) (r3 : Row h p3 [.int .i64 (f : Int)]) :
    call n (.func (.func 119) ⟨[]⟩ ⟨[.pointer (some ⟨p0, 0, none⟩), .pointer (some ⟨p1, 0, none⟩), .pointer (some ⟨p2, 0, none⟩), .pointer (some ⟨p3, 0, none⟩)]⟩) [.agg ⟨arr t⟩] h = some (.int .i64 (blueWith Y v f many t), h) := by
  obtain ⟨n, rfl⟩ : ∃ p, n = p + 1 := ⟨n - 1, by omega⟩
  refine call_plain (xs := []) (ys := [.pointer (some ⟨p0, 0, none⟩), .pointer (some ⟨p1, 0, none⟩), .pointer (some ⟨p2, 0, none⟩), .pointer (some ⟨p3, 0, none⟩)]) fok119 rfl rfl (by simp) rfl ?_
  have hsub : Sub All h h.shutAll := fun _ _ _ _ _ h => h
  have ha := ha.mono hsub
  have r0 := r0.mono hsub
  have r1 := r1.mono hsub
  have r2 := r2.mono hsub
  have r3 := r3.mono hsub
  have hr : h.shutAll.next + 10 < far := hr
  generalize h.shutAll = h at ha r0 r1 r2 r3 hr
  simp only [s119, List.cons_append, List.nil_append, W_seq, W_ops]
  refine ops_box (cs := arr t) (by omega) rfl arr_one fun g1 hx1 => ?_
  have n1 := hx1.next
  have ha := ha.mono hx1.sub
  have w0 := (r0.mono hx1.sub).whole (n := 4) rfl
  have w1 := r1.mono hx1.sub
  have w2 := r2.mono hx1.sub
  have w3 := r3.mono hx1.sub
  have w5 := hx1.row.whole arr_len
  obtain ⟨v1, v2⟩ := ha.ok v hv
  have ei := inVat_c (n := n) (h := g1) (b := t) (F := F) (S := S) (T := T) (at_ := v) (by omega) (by omega) ha.v h1 hv v1 ha.sz ha.b (fun i hi => v2 i (by omega))
  have hsz := ha.sz
  obtain ⟨b1, b2⟩ := blueN_bound (b := t) (q := Y.q v) (n := Y.nf) (by omega) ha.b (fun i hi => v2 i (by omega)) Y.nf (Nat.le_refl _)
  obtain ⟨t1, t2⟩ := ha.b f hf
  have m1 : (0 : Int) ≤ (many : Int) * t f := Int.mul_nonneg (by omega) t1
  have m2 : (many : Int) * t f ≤ 100 * 20 := Int.mul_le_mul (by omega) t2 t1 (by omega)
  have hw1 : wrapF .i64 ((many : Int) * t f) = many * t f := wrap_in (by omega) (by omega)
  have hw2 : wrapF .i64 (blueN t (Y.q v) Y.nf + many * t f) = blueWith Y v f many t := by rw [wrap_in (by omega) (by omega)]; rfl
  have hl : loadCell g1 (.pointer (some ⟨h.next, f, none⟩)) = some (.int .i64 (t f)) := by rw [hx1.row.ld, arr_get (by omega)]
  simp only [rn0, rn1, rn2, rn3, rn4, rn5, rn6, rn7, rn8, if_true, if_false, Nat.le_refl, true_and, and_true, decide_true, decide_false, Bool.not_true, Bool.not_false, reduceIte, Nat.reduceEqDiff, Nat.reduceAdd, Nat.reduceMul, Nat.reduceSub, Nat.reduceLeDiff, Nat.reduceLT]
  refine W_draw All ?_
  simp only [rn0, rn1, rn2, rn3, rn4, rn5, rn6, rn7, rn8, if_true, if_false, Nat.le_refl, true_and, and_true, decide_true, decide_false, Bool.not_true, Bool.not_false, reduceIte, Nat.reduceEqDiff, Nat.reduceAdd, Nat.reduceMul, Nat.reduceSub, Nat.reduceLeDiff, Nat.reduceLT, w0, w1.ld, w2.ld, w3.ld, w5, ei, List.getElem?_cons_zero, idxArr_p (l := 5) (k := f) (by omega), Nat.zero_add, hl, hw1, hw2]

/-- what is surely in the vat, with so many further bundles -/
def sureN (Y : MY) (v f many : Nat) (L : List (Nat → Int)) : Int := minN (blueWith Y v f many (L.getD 0 fun _ => 0)) (fun i => blueWith Y v f many (L.getD (i + 1) fun _ => 0)) (L.length - 1)
theorem le_sureN {Y : MY} {v f many : Nat} {L : List (Nat → Int)} (hL : L ≠ []) {b : Int} : b ≤ sureN Y v f many L ↔ ∀ t, t ∈ L → b ≤ blueWith Y v f many t := by
  unfold sureN
  rw [le_minN]
  have hpos : 0 < L.length := List.length_pos_iff.2 hL
  have hget : ∀ i, (hi : i < L.length) → L.getD i (fun _ => 0) = L[i] := fun i hi => by rw [List.getD_eq_getElem?_getD, List.getElem?_eq_getElem hi]; rfl
  constructor
  · rintro ⟨h1, h2⟩ t ht
    obtain ⟨i, hi, rfl⟩ := List.getElem_of_mem ht
    cases i with
    | zero => rw [← hget 0 hi]; exact h1
    | succ i => rw [← hget (i + 1) hi]; exact h2 i (by omega)
  · intro ht
    refine ⟨ht _ (by rw [hget 0 hpos]; exact List.getElem_mem hpos), fun i hi => ?_⟩
    have hi' : i + 1 < L.length := by omega
    exact ht _ (by rw [hget (i + 1) hi']; exact List.getElem_mem hi')
theorem truths_range {Y : MY} (hf : faultN Y = 0) {t : Nat → Int} (ht : t ∈ truths Y) : ∀ k, k < Y.nf → 0 ≤ t k ∧ t k ≤ 20 := fun k hk => by
  have h1 := (truths_mem.1 ht).1.1 k hk
  have h2 := (good_of hf).f k hk
  omega
theorem truths_at {Y : MY} {i : Nat} (hi : i < (truths Y).length) : (truths Y).getD i (fun _ => 0) ∈ truths Y := by rw [List.getD_eq_getElem?_getD, List.getElem?_eq_getElem hi]; exact List.getElem_mem hi
def s99 : SCode := (.seq (.ops [⟨(some 4), none, .box (T 0)⟩, ⟨(some 5), none, .box (T 1)⟩, ⟨(some 6), none, .box (T 2)⟩, ⟨(some 7), none, .box (T 3)⟩, ⟨(some 8), none, .mov (.const (.int .i64 (0)))⟩]) (.seq (.ops [⟨(some 13), none, .mkfunc 119 [] [(T 4), (T 5), (T 7), (T 6)]⟩, ⟨(some 9), none, .mov (T 13)⟩]) (.seq (.ops [⟨(some 14), none, .mov (T 9)⟩, ⟨(some 15), none, .fieldAddr 3 (T 4)⟩, ⟨(some 16), none, .load1 (T 15)⟩, ⟨(some 17), none, .idxSl 5 (T 16) (.const (.int .i64 (0)))⟩, ⟨(some 18), none, .loadN 5 (T 17)⟩, ⟨(some 19), none, .call (T 14) [(T 18)]⟩, ⟨(some 10), none, .mov (T 19)⟩]) (.seq (.seq (.ops [⟨(some 20), none, .fieldAddr 3 (T 4)⟩, ⟨(some 21), none, .load1 (T 20)⟩, ⟨(some 22), none, .slice 5 (T 21) (some (.const (.int .i64 (1)))) none none⟩, ⟨(some 23), none, .len (T 22)⟩, ⟨(some 24), none, .mov (.const (.int .i64 (0)))⟩]) (.block 0 (.loop (.seq (.ops [⟨(some 25), none, .int2 .lss (T 24) (T 23)⟩]) (.seq (.cond (T 25) .skip (.exit 0)) (.seq (.block 1 (.seq (.ops [⟨(some 26), none, .idxSl 5 (T 22) (T 24)⟩, ⟨(some 27), none, .loadN 5 (T 26)⟩, ⟨(some 12), none, .alloc [(.int .i64 (0)), (.int .i64 (0)), (.int .i64 (0)), (.int .i64 (0)), (.int .i64 (0))]⟩, ⟨none, none, .store 5 (T 12) (T 27)⟩]) (.ops [⟨(some 28), none, .mov (T 10)⟩, ⟨(some 29), none, .mov (T 9)⟩, ⟨(some 30), none, .loadN 5 (T 12)⟩, ⟨(some 31), none, .call (T 29) [(T 30)]⟩, ⟨(some 32), none, .bslice 1 1 [(.int .i64 (0))] [0] [(T 31)]⟩, ⟨(some 33), none, .call (.func 94) [(T 28), (T 32)]⟩, ⟨(some 10), none, .mov (T 33)⟩]))) (.ops [⟨(some 34), none, .int2 .add (T 24) (.const (.int .i64 (1)))⟩, ⟨(some 24), none, .mov (T 34)⟩]))))))) (.seq (.ops [⟨(some 35), none, .mov (T 10)⟩, ⟨(some 8), none, .mov (T 35)⟩]) .ret)))))
theorem fok99 : FnOk Try.prog 99 36 s99 [.tmp 8] := ⟨Try.f99, _, Try.func99, rfl, Try.ntmps99, by kernel_rfl, by kernel_rfl⟩
theorem sureBlue_c (hn : 10010 ≤ n) (hr : h.next + 100000 < far) {F V S tv : Value} {Y : MY} {v f many : Nat} (hy : YardR h F V S Y) (hf0 : faultN Y = 0) (hL : truths Y ≠ []) (htr : TruthsR h tv (truths Y)) (hlong : Long tv) (hv : v < Y.nv) (hf : f < Y.nf) (hm : many ≤ 100) :
    call n (.func (.func 99) #[] #[]) [.agg ⟨[F, V, S, tv]⟩, .int .i64 (v : Int), .int .i64 (f : Int), .int .i64 (many : Int)] h = some (.int .i64 (sureN Y v f many (truths Y)), h) := by
  obtain ⟨n, rfl⟩ : ∃ p, n = p + 1 := ⟨n - 1, by omega⟩
  refine call_plain0 fok99 rfl rfl (by simp) rfl ?_
  have hy := hy.shut
  have htr : TruthsR h.shutAll tv (truths Y) := Cells.shut htr
  have hr : h.shutAll.next + 100000 < far := hr
  have hfl : h.shutAll.floor ≤ h.shutAll.next := Nat.le_refl _
  generalize h.shutAll = h at hy htr hr hfl
  have hG := good_of hf0
  have hpos : 0 < (truths Y).length := List.length_pos_iff.2 hL
  have hlen := truths_len hf0
  have ho4 : allB oneCell [F, V, S, tv] = true := by have h1 := hy.one; have h2 := Cells.one htr; simp [allB] at h1 ⊢; simp [h1, h2]
  simp only [s99, W_seq, W_ops]
  refine ops_box (cs := [F, V, S, tv]) (by omega) rfl ho4 fun g1 hx1 => ?_
  refine ops_box (cs := [.int .i64 (v : Int)]) (by rw [hx1.next]; omega) rfl rfl fun g2 hx2 => ?_
  refine ops_box (cs := [.int .i64 (f : Int)]) (by rw [hx2.next, hx1.next]; omega) rfl rfl fun g3 hx3 => ?_
  refine ops_box (cs := [.int .i64 (many : Int)]) (by rw [hx3.next, hx2.next, hx1.next]; omega) rfl rfl fun g4 hx4 => ?_
  have n1 := hx1.next
  have n2 := hx2.next
  have n3 := hx3.next
  have n4 := hx4.next
  have r0 := ((hx1.row.mono hx2.sub).mono hx3.sub).mono hx4.sub
  have r1 := (hx2.row.mono hx3.sub).mono hx4.sub
  have r3 := hx3.row.mono hx4.sub
  have r2 := hx4.row
  have s4 : Sub All h g4 := hx1.sub.trans (hx2.sub.trans (hx3.sub.trans hx4.sub))
  have f4 : g4.floor = h.floor := by rw [hx4.floor, hx3.floor, hx2.floor, hx1.floor]
  have htr4 : TruthsR g4 tv (truths Y) := Cells.mono htr s4
  have hat : ∀ {g : AHeap} {t : Nat → Int}, Sub All h g → t ∈ truths Y → AtVat g V Y t := fun hs ht => ⟨(hy.mono hs).v, hG.sz.1, hG.v, truths_range hf0 ht⟩
  have q0 := truths_ld htr4 hpos
  have e0 := sureBlue1_c (n := n) (h := g4) (F := F) (S := S) (T := tv) (t := (truths Y).getD 0 fun _ => 0) (v := v) (f := f) (many := many) (by omega) (by omega) (hat s4 (truths_at hpos)) ho4 hv hf hm r0 r1 r2 r3
  have i0 : indexSl 5 tv (.int .i64 0) = some (ptrO tv 5 0 0) := Cells.idx htr4 hpos
  obtain ⟨tl, g5, et, ht5, s5, u5, b5, f5, o5, _⟩ := tail_c htr4 hpos hlong (by omega)
  simp only [rn0, rn1, rn2, rn3, rn4, rn5, rn6, rn7, rn8, if_true, if_false, Nat.le_refl, true_and, and_true, decide_true, decide_false, Bool.not_true, Bool.not_false, reduceIte, Nat.reduceEqDiff, Nat.reduceAdd, Nat.reduceMul, Nat.reduceSub, Nat.reduceLeDiff, Nat.reduceLT, r0.ld, Nat.zero_add, List.getElem?_cons_zero, List.getElem?_cons_succ, i0, q0, e0, Option.isSome_none, Option.map_some, Option.map_none, et, Cells.len ht5]
  refine W_loop ((truths Y).length - 1) (fun k f' g ms => (Sub All g5 g ∧ g.floor = g5.floor ∧ g5.next ≤ g.next ∧ g.next ≤ g5.next + 2 * k) ∧ ms = [] ∧
    f' 9 = .func (.func 119) ⟨[]⟩ ⟨[.pointer (some ⟨h.next, 0, none⟩), .pointer (some ⟨g1.next, 0, none⟩), .pointer (some ⟨g3.next, 0, none⟩), .pointer (some ⟨g2.next, 0, none⟩)]⟩ ∧
    f' 10 = .int .i64 (minN (blueWith Y v f many ((truths Y).getD 0 fun _ => 0)) (fun i => blueWith Y v f many ((truths Y).getD (i + 1) fun _ => 0)) k) ∧ f' 22 = tl ∧ f' 23 = .int .i64 (((truths Y).length - 1 : Nat) : Int) ∧ f' 24 = .int .i64 (k : Int)) (by simp; omega) ?_ ?_ ?_
  · simp only [rn0, rn1, rn2, rn3, rn4, rn5, rn6, rn7, rn8, if_true, if_false, Nat.le_refl, true_and, and_true, decide_true, decide_false, Bool.not_true, Bool.not_false, reduceIte, Nat.reduceEqDiff, Nat.reduceAdd, Nat.reduceMul, Nat.reduceSub, Nat.reduceLeDiff, Nat.reduceLT]
    exact ⟨by omega, rfl, rfl⟩
  · rintro k f' g ms hk ⟨⟨hs, hfg, hup, hnx⟩, rfl, f9, f10, f22, f23, f24⟩
    have hk' : (k : Int) < (((truths Y).length - 1 : Nat) : Int) := by omega
    have hw : wrapF .i64 ((k : Int) + 1) = ((k + 1 : Nat) : Int) := by rw [wrap_in (by omega) (by omega)]; rfl
    have ht := Cells.mono ht5 hs
    have hld : loadAgg 5 g (ptrO tl 5 k 0) = some (.agg ⟨arr ((truths Y).getD (k + 1) fun _ => 0)⟩) := by
      rw [Cells.ldN ht hk (by omega) (by omega)]; simp [arr, List.range_succ]
    simp only [rn0, rn1, rn2, rn3, rn4, rn5, rn6, rn7, rn8, if_true, if_false, Nat.le_refl, true_and, and_true, decide_true, decide_false, Bool.not_true, Bool.not_false, reduceIte, Nat.reduceEqDiff, Nat.reduceAdd, Nat.reduceMul, Nat.reduceSub, Nat.reduceLeDiff, Nat.reduceLT, f9, f10, f22, f23, f24, hk', Cells.idx ht hk, hld]
    refine step_new (vs := arr ((truths Y).getD (k + 1) fun _ => 0)) (by omega) (by omega) rfl (by simp only [rn0, rn1, rn2, rn3, rn4, rn5, rn6, rn7, rn8, if_true, if_false, Nat.le_refl, true_and, and_true, decide_true, decide_false, Bool.not_true, Bool.not_false, reduceIte, Nat.reduceEqDiff, Nat.reduceAdd, Nat.reduceMul, Nat.reduceSub, Nat.reduceLeDiff, Nat.reduceLT]; rfl) arr_one arr_len rfl fun g6 hx6 => ?_
    have n6 := hx6.next
    have f6 := hx6.floor
    have s46 : Sub All g4 g6 := s5.trans (hs.trans hx6.sub)
    have e6 := sureBlue1_c (n := n) (h := g6) (F := F) (S := S) (T := tv) (t := (truths Y).getD (k + 1) fun _ => 0) (v := v) (f := f) (many := many) (by omega) (by omega) (hat (s4.trans s46) (truths_at (by omega))) ho4 hv hf hm (r0.mono s46) (r1.mono s46) (r2.mono s46) (r3.mono s46)
    simp only [rn0, rn1, rn2, rn3, rn4, rn5, rn6, rn7, rn8, if_true, if_false, Nat.le_refl, true_and, and_true, decide_true, decide_false, Bool.not_true, Bool.not_false, reduceIte, Nat.reduceEqDiff, Nat.reduceAdd, Nat.reduceMul, Nat.reduceSub, Nat.reduceLeDiff, Nat.reduceLT, f9, f10, f22, f23, f24, hx6.row.whole arr_len, e6, sl_int]
    refine step_slice (by omega) rfl fun g7 hx7 => ?_
    have n7 := hx7.next
    have f7 := hx7.floor
    have hone : Ints g7 (.slice (some ⟨g6.next, 0, none⟩) 1 1) 1 (fun _ => blueWith Y v f many ((truths Y).getD (k + 1) fun _ => 0)) := ⟨_, _, rfl, fun x e => by cases e; rfl, .inr ⟨_, 0, _, _, _, rfl, hx7.get, fun i j hi hj => by
      have hi : i = 0 := by omega
      have hj : j = 0 := by omega
      subst hi hj; rfl⟩⟩
    have em := minimum_c (n := n) (h := g7) (m := 1) (by omega) (by omega) hone (minN (blueWith Y v f many ((truths Y).getD 0 fun _ => 0)) (fun i => blueWith Y v f many ((truths Y).getD (i + 1) fun _ => 0)) k)
    simp only [rn0, rn1, rn2, rn3, rn4, rn5, rn6, rn7, rn8, if_true, if_false, Nat.le_refl, true_and, and_true, decide_true, decide_false, Bool.not_true, Bool.not_false, reduceIte, Nat.reduceEqDiff, Nat.reduceAdd, Nat.reduceMul, Nat.reduceSub, Nat.reduceLeDiff, Nat.reduceLT, f9, f10, f22, f23, f24, em, hw]
    exact ⟨⟨hs.trans (hx6.sub.trans hx7.sub), by omega, by omega, by omega⟩, rfl⟩
  · rintro f' g ms ⟨⟨hs, hfg, hup, hnx⟩, rfl, f9, f10, f22, f23, f24⟩
    simp only [rn0, rn1, rn2, rn3, rn4, rn5, rn6, rn7, rn8, if_true, if_false, Nat.le_refl, true_and, and_true, decide_true, decide_false, Bool.not_true, Bool.not_false, reduceIte, Nat.reduceEqDiff, Nat.reduceAdd, Nat.reduceMul, Nat.reduceSub, Nat.reduceLeDiff, Nat.reduceLT, f9, f10, f22, f23, f24, Int.lt_irrefl]
    rfl

/-! The reference's truths -/
theorem refTruths_range {Y : MY} (hf : faultN Y = 0) {t : Nat → Int} (ht : t ∈ refTruths Y) : ∀ k, k < Y.nf → 0 ≤ t k ∧ t k ≤ 20 := truths_range hf ((refTruths_mem hf).1 ht)
theorem refTruths_at {Y : MY} {i : Nat} (hi : i < (refTruths Y).length) : (refTruths Y).getD i (fun _ => 0) ∈ refTruths Y := by rw [List.getD_eq_getElem?_getD, List.getElem?_eq_getElem hi]; exact List.getElem_mem hi
theorem refTruths_len {Y : MY} (hf : faultN Y = 0) : (refTruths Y).length ≤ 2000 := by
  obtain ⟨hG, hsz⟩ := fault_size hf
  have hF : ∀ k, k < Y.nf → 0 ≤ Y.lo k ∧ Y.lo k ≤ Y.hi k ∧ Y.hi k ≤ 20 := hG.f
  have hmany := sizeN_many hG.sz.1 hF Y.nf (Nat.le_refl _)
  have := refTruthsTo_len (Y := Y) (m := (manyN Y.lo Y.hi Y.nf).toNat)
  unfold refTruths
  omega
theorem mem_getD {L : List (Nat → Int)} {t : Nat → Int} (ht : t ∈ L) : ∃ i, i < L.length ∧ L.getD i (fun _ => 0) = t := by
  obtain ⟨i, hi, rfl⟩ := List.getElem_of_mem ht
  exact ⟨i, hi, by rw [List.getD_eq_getElem?_getD, List.getElem?_eq_getElem hi]; rfl⟩
theorem refTruths_nil {Y : MY} (hf : faultN Y = 0) : refTruths Y = [] ↔ truths Y = [] := by
  constructor
  · intro h
    cases ht : truths Y with
    | nil => rfl
    | cons x l =>
      have : x ∈ refTruths Y := (refTruths_mem hf).2 (by rw [ht]; simp)
      rw [h] at this
      cases this
  · intro h
    cases ht : refTruths Y with
    | nil => rfl
    | cons x l =>
      have : x ∈ truths Y := (refTruths_mem hf).1 (by rw [ht]; simp)
      rw [h] at this
      cases this
end Go.Vm.Vat

namespace Go.Vm.Vat
open Go.Proofs
set_option linter.unusedSimpArgs false
set_option linter.unusedVariables false
set_option maxRecDepth 10000
variable {n : Nat} {h : AHeap}

/-! ### Bounds in all truths -/
def maxN (x : Int) (a : Nat → Int) : Nat → Int
  | 0 => x
  | i + 1 => max (maxN x a i) (a i)
theorem map_splice {F F' : Nat → Value} {m off : Nat} {vs : List Value} (hl : off + vs.length ≤ m) (h1 : ∀ i, i < m → (i < off ∨ off + vs.length ≤ i) → F' i = F i) (h2 : ∀ j, j < vs.length → vs[j]? = some (F' (off + j))) :
    splice ((List.range m).map F) off vs = (List.range m).map F' := by
  apply List.ext_getElem?
  intro i
  have hlen : ((List.range m).map F).length = m := by simp
  simp only [splice]
  by_cases hi : i < m
  · rw [List.getElem?_map, List.getElem?_range hi]
    by_cases c1 : i < off
    · rw [List.getElem?_append_left (by simp [hlen]; omega), List.getElem?_take, if_pos c1, List.getElem?_map, List.getElem?_range hi]
      simp [h1 i hi (.inl c1)]
    · rw [List.getElem?_append_right (by simp [hlen]; omega)]
      have e : (List.take off ((List.range m).map F)).length = off := by simp [hlen]; omega
      rw [e]
      by_cases c2 : i < off + vs.length
      · rw [List.getElem?_append_left (by omega), h2 (i - off) (by omega)]
        simp [show off + (i - off) = i by omega]
      · rw [List.getElem?_append_right (by omega), List.getElem?_drop, show off + vs.length + (i - off - vs.length) = i by omega, List.getElem?_map, List.getElem?_range hi]
        simp [h1 i hi (.inr (by omega))]
  · rw [List.getElem?_eq_none (by simp; omega), List.getElem?_eq_none (by simp [hlen]; omega)]
theorem splice2 {a b c d : Value} : splice [a, b] 0 [c, d] = [c, d] := rfl
/-- so many ranges of which the first k are there -/
def mixR (k : Nat) (lo hi : Nat → Int) (i : Nat) : Value := .int .i64 (if i < 2 * k then (if i % 2 = 0 then lo (i / 2) else hi (i / 2)) else 0)
theorem mixR_one {m k : Nat} {lo hi : Nat → Int} : allB oneCell ((List.range m).map (mixR k lo hi)) = true := by rw [allB_iff]; intro v hv; obtain ⟨i, _, rfl⟩ := List.mem_map.1 hv; rfl
theorem mixR_splice {m k : Nat} {lo hi : Nat → Int} (hk : k < m) : splice ((List.range (2 * m)).map (mixR k lo hi)) (k * 2) [.int .i64 (lo k), .int .i64 (hi k)] = (List.range (2 * m)).map (mixR (k + 1) lo hi) := by
  refine map_splice (by simp; omega) (fun i hi hc => ?_) (fun j hj => ?_)
  · simp only [List.length_cons, List.length_nil] at hc
    simp only [mixR]
    congr 1
    by_cases c : i < 2 * k
    · rw [if_pos c, if_pos (by omega)]
    · rw [if_neg c, if_neg (by omega)]
  · simp only [List.length_cons, List.length_nil] at hj
    rcases j with _ | _ | j
    · simp only [mixR, Nat.add_zero, List.getElem?_cons_zero]
      rw [if_pos (by omega), if_pos (by omega), show k * 2 / 2 = k by omega]
    · simp only [mixR, List.getElem?_cons_succ, List.getElem?_cons_zero]
      rw [if_pos (by omega), if_neg (by omega), show (k * 2 + (0 + 1)) / 2 = k by omega]
    · omega
theorem repl_mixR {m : Nat} {lo hi : Nat → Int} : repl [.int .i64 0, .int .i64 0] m = (List.range (2 * m)).map (mixR 0 lo hi) := by
  have h0 : ∀ i, mixR 0 lo hi i = .int .i64 0 := fun i => by simp [mixR]
  have : ∀ m, repl [(.int .i64 0 : Value), .int .i64 0] m = List.replicate (2 * m) (.int .i64 0) := by
    intro m
    induction m with
    | zero => rfl
    | succ m ih => rw [repl, ih, show 2 * (m + 1) = 2 * m + 1 + 1 by omega, List.replicate_succ, List.replicate_succ]; rfl
  rw [this]
  apply List.ext_getElem?
  intro i
  by_cases hi : i < 2 * m
  · rw [List.getElem?_replicate, if_pos hi, List.getElem?_map, List.getElem?_range hi]; simp [h0]
  · rw [List.getElem?_eq_none (by simp; omega), List.getElem?_eq_none (by simp; omega)]
theorem make_ranges {z : List Value} {m : Nat} (hm : m ≤ 1000) : makeSl 2 16 z h (.int .i64 (m : Int)) (.int .i64 (m : Int)) = newSlice h (repl z m) m m 0 := by
  show (bif Nat.ble m m && Nat.ble (m * 16) maxBytes && Nat.ble m maxBytes then newSlice h (repl z m) m m 0 else none) = _
  have e1 : Nat.ble m m = true := ble_iff.2 (Nat.le_refl _)
  have e2 : Nat.ble (m * 16) maxBytes = true := ble_iff.2 (by simp [maxBytes]; omega)
  have e3 : Nat.ble m maxBytes = true := ble_iff.2 (by simp [maxBytes]; omega)
  rw [e1, e2, e3]; rfl
theorem idxSl_s {s k m c o : Nat} (hk : k < m) : indexSl s (.slice (some ⟨o, 0, none⟩) m c) (.int .i64 (k : Int)) = some (.pointer (some ⟨o, k * s, none⟩)) := by
  show placeAt ⟨o, 0, none⟩ (Int.ofNat k) m s = _
  unfold placeAt
  simp only [blt_iff.2 hk, cond_true, Nat.zero_add]
/-- the bounds of what is measured -/
def loN (val : (Nat → Int) → Int) (L : List (Nat → Int)) : Int := minN (val (L.getD 0 fun _ => 0)) (fun i => val (L.getD (i + 1) fun _ => 0)) (L.length - 1)
def hiN (val : (Nat → Int) → Int) (L : List (Nat → Int)) : Int := maxN (val (L.getD 0 fun _ => 0)) (fun i => val (L.getD (i + 1) fun _ => 0)) (L.length - 1)
theorem maxN_le {x : Int} {a : Nat → Int} {b : Int} : ∀ m, maxN x a m ≤ b ↔ x ≤ b ∧ ∀ i, i < m → a i ≤ b
  | 0 => by simp [maxN]
  | m + 1 => by
    simp only [maxN]
    rw [Int.max_le, maxN_le m]
    constructor
    · rintro ⟨⟨h1, h2⟩, h3⟩
      refine ⟨h1, fun i hi => ?_⟩
      by_cases e : i = m
      · subst e; exact h3
      · exact h2 i (by omega)
    · rintro ⟨h1, h2⟩
      exact ⟨⟨h1, fun i hi => h2 i (by omega)⟩, h2 m (by omega)⟩
theorem all_getD {L : List (Nat → Int)} (hL : L ≠ []) {p : (Nat → Int) → Prop} : (p (L.getD 0 fun _ => 0) ∧ ∀ i, i < L.length - 1 → p (L.getD (i + 1) fun _ => 0)) ↔ ∀ t, t ∈ L → p t := by
  have hpos : 0 < L.length := List.length_pos_iff.2 hL
  have hget : ∀ i, (hi : i < L.length) → L.getD i (fun _ => 0) = L[i] := fun i hi => by rw [List.getD_eq_getElem?_getD, List.getElem?_eq_getElem hi]; rfl
  constructor
  · rintro ⟨h1, h2⟩ t ht
    obtain ⟨i, hi, rfl⟩ := List.getElem_of_mem ht
    cases i with
    | zero => rw [← hget 0 hi]; exact h1
    | succ i => rw [← hget (i + 1) hi]; exact h2 i (by omega)
  · intro ht
    refine ⟨ht _ (by rw [hget 0 hpos]; exact List.getElem_mem hpos), fun i hi => ?_⟩
    have hi' : i + 1 < L.length := by omega
    exact ht _ (by rw [hget (i + 1) hi']; exact List.getElem_mem hi')
theorem le_loN {val : (Nat → Int) → Int} {L : List (Nat → Int)} (hL : L ≠ []) {b : Int} : b ≤ loN val L ↔ ∀ t, t ∈ L → b ≤ val t := by
  unfold loN; rw [le_minN]; exact all_getD hL (p := fun t => b ≤ val t)
theorem hiN_le {val : (Nat → Int) → Int} {L : List (Nat → Int)} (hL : L ≠ []) {b : Int} : hiN val L ≤ b ↔ ∀ t, t ∈ L → val t ≤ b := by
  unfold hiN; rw [maxN_le]; exact all_getD hL (p := fun t => val t ≤ b)

def s90 : SCode := (.seq (.ops [⟨(some 3), none, .box (T 0)⟩, ⟨(some 4), none, .box (T 1)⟩, ⟨(some 6), none, .mov (.const (.slice none 0 0))⟩]) (.seq (.ops [⟨(some 14), none, .mov (T 2)⟩, ⟨(some 15), none, .mkslice 2 16 [(.int .i64 (0)), (.int .i64 (0))] (T 14) (T 14)⟩, ⟨(some 7), none, .mov (T 15)⟩]) (.seq (.seq (.ops [⟨(some 16), none, .mov (T 2)⟩, ⟨(some 17), none, .mov (.const (.int .i64 (0)))⟩]) (.block 0 (.loop (.seq (.ops [⟨(some 18), none, .int2 .lss (T 17) (T 16)⟩]) (.seq (.cond (T 18) .skip (.exit 0)) (.seq (.block 1 (.seq (.ops [⟨(some 19), none, .mov (T 17)⟩, ⟨(some 8), none, .mov (T 19)⟩]) (.seq (.draw [⟨.free, ⟨(some 20), none, .fieldAddr 0 (T 3)⟩⟩, ⟨.rd1, ⟨(some 21), none, .load1 (T 20)⟩⟩, ⟨.rd1, ⟨(some 22), none, .loadN 4 (T 4)⟩⟩, ⟨.free, ⟨(some 23), none, .fieldAddr 3 (T 4)⟩⟩, ⟨.rd1, ⟨(some 24), none, .load1 (T 23)⟩⟩, ⟨.free, ⟨(some 25), none, .idxSl 5 (T 24) (.const (.int .i64 (0)))⟩⟩, ⟨.rd1, ⟨(some 26), none, .loadN 5 (T 25)⟩⟩, ⟨.free, ⟨(some 27), none, .mov (T 8)⟩⟩, ⟨.any, ⟨(some 28), none, .call (T 21) [(T 22), (T 26), (T 27)]⟩⟩, ⟨.free, ⟨(some 9), none, .mov (T 28)⟩⟩]) (.seq (.ops [⟨(some 29), none, .mov (T 9)⟩, ⟨(some 30), none, .mov (T 9)⟩, ⟨(some 31), none, .build #[(0, 1), (1, 1)] [(.int .i64 (0)), (.int .i64 (0))] [0, 1] [(T 29), (T 30)]⟩, ⟨(some 10), none, .alloc [(.int .i64 (0)), (.int .i64 (0))]⟩, ⟨none, none, .store 2 (T 10) (T 31)⟩]) (.seq (.seq (.ops [⟨(some 32), none, .fieldAddr 3 (T 4)⟩, ⟨(some 33), none, .load1 (T 32)⟩, ⟨(some 34), none, .slice 5 (T 33) (some (.const (.int .i64 (1)))) none none⟩, ⟨(some 35), none, .len (T 34)⟩, ⟨(some 36), none, .mov (.const (.int .i64 (0)))⟩]) (.block 2 (.loop (.seq (.ops [⟨(some 37), none, .int2 .lss (T 36) (T 35)⟩]) (.seq (.cond (T 37) .skip (.exit 2)) (.seq (.block 3 (.seq (.ops [⟨(some 38), none, .idxSl 5 (T 34) (T 36)⟩, ⟨(some 39), none, .loadN 5 (T 38)⟩, ⟨(some 12), none, .alloc [(.int .i64 (0)), (.int .i64 (0)), (.int .i64 (0)), (.int .i64 (0)), (.int .i64 (0))]⟩, ⟨none, none, .store 5 (T 12) (T 39)⟩]) (.seq (.ops [⟨(some 40), none, .fieldAddr 0 (T 3)⟩, ⟨(some 41), none, .load1 (T 40)⟩, ⟨(some 42), none, .loadN 4 (T 4)⟩, ⟨(some 43), none, .loadN 5 (T 12)⟩, ⟨(some 44), none, .mov (T 8)⟩, ⟨(some 45), none, .call (T 41) [(T 42), (T 43), (T 44)]⟩, ⟨(some 13), none, .mov (T 45)⟩]) (.draw [⟨.free, ⟨(some 46), none, .fieldAddr 0 (T 10)⟩⟩, ⟨.rd, ⟨(some 47), none, .load1 (T 46)⟩⟩, ⟨.free, ⟨(some 48), none, .mov (T 13)⟩⟩, ⟨.up, ⟨(some 49), none, .bslice 1 1 [(.int .i64 (0))] [0] [(T 48)]⟩⟩, ⟨.up, ⟨(some 50), none, .call (.func 94) [(T 47), (T 49)]⟩⟩, ⟨.free, ⟨(some 51), none, .fieldAddr 1 (T 10)⟩⟩, ⟨.rd, ⟨(some 52), none, .load1 (T 51)⟩⟩, ⟨.free, ⟨(some 53), none, .mov (T 13)⟩⟩, ⟨.free, ⟨(some 54), none, .plain (.call { callee := .builtin .max, args := #[(T 52), (T 53)], argTypes := #[3, 3] }) 3⟩⟩, ⟨.free, ⟨(some 55), none, .build #[(0, 1), (1, 1)] [(.int .i64 (0)), (.int .i64 (0))] [0, 1] [(T 50), (T 54)]⟩⟩, ⟨.any, ⟨none, none, .store 2 (T 10) (T 55)⟩⟩])))) (.ops [⟨(some 56), none, .int2 .add (T 36) (.const (.int .i64 (1)))⟩, ⟨(some 36), none, .mov (T 56)⟩]))))))) (.ops [⟨(some 57), none, .mov (T 7)⟩, ⟨(some 58), none, .mov (T 8)⟩, ⟨(some 59), none, .loadN 2 (T 10)⟩, ⟨(some 60), none, .idxSl 2 (T 57) (T 58)⟩, ⟨none, none, .store 2 (T 60) (T 59)⟩])))))) (.ops [⟨(some 61), none, .int2 .add (T 17) (.const (.int .i64 (1)))⟩, ⟨(some 17), none, .mov (T 61)⟩]))))))) (.seq (.ops [⟨(some 62), none, .mov (T 7)⟩, ⟨(some 6), none, .mov (T 62)⟩]) .ret))))
theorem fok90 : FnOk Try.prog 90 63 s90 [.tmp 6] := ⟨Try.f90, _, Try.func90, rfl, Try.ntmps90, by kernel_rfl, by kernel_rfl⟩
theorem bounds_c (hn : 10020 ≤ n) (hr : h.next + 200000 < far) (hfl : h.floor ≤ h.next) {F V S tv : Value} {L : List (Nat → Int)} {G m : Nat} {val : Nat → (Nat → Int) → Int} (ho4 : allB oneCell [F, V, S, tv] = true) (hL : L ≠ []) (hlen : L.length ≤ 2000) (htr : TruthsR h tv L) (hlong : Long tv) (hm : m ≤ 5)
    (hG : ∀ g, Sub All h g → g.next + 100 < far → ∀ k, k < m → ∀ t, t ∈ L → call (n - 1) (.func (.func G) #[] #[]) [.agg ⟨[F, V, S, tv]⟩, .agg ⟨arr t⟩, .int .i64 (k : Int)] g = some (.int .i64 (val k t), g)) :
    ∃ v h', call n (.func (.func 90) #[] #[]) [.agg ⟨[.func (.func G) #[] #[]]⟩, .agg ⟨[F, V, S, tv]⟩, .int .i64 (m : Int)] h = some (v, h') ∧ Ranges h' v m (fun k => loN (val k) L) (fun k => hiN (val k) L) ∧ Made h h' 100000 := by
  obtain ⟨n, rfl⟩ : ∃ p, n = p + 1 := ⟨n - 1, by omega⟩
  rw [Nat.add_sub_cancel] at hG
  have hpos : 0 < L.length := List.length_pos_iff.2 hL
  have hat : ∀ i, i < L.length → L.getD i (fun _ => 0) ∈ L := fun i hi => by rw [List.getD_eq_getElem?_getD, List.getElem?_eq_getElem hi]; exact List.getElem_mem hi
  refine call_any0 fok90 rfl rfl (by simp) ?_
  simp only [s90, W_seq, W_ops]
  refine ops_box (cs := [.func (.func G) #[] #[]]) (by omega) rfl rfl fun g1 hx1 => ?_
  refine ops_box (cs := [F, V, S, tv]) (by rw [hx1.next]; omega) rfl ho4 fun g2 hx2 => ?_
  have n1 := hx1.next
  have n2 := hx2.next
  have f1 := hx1.floor
  have f2 := hx2.floor
  simp only [rn0, rn1, rn2, rn3, rn4, rn5, rn6, rn7, rn8, if_true, if_false, Nat.le_refl, true_and, and_true, decide_true, decide_false, Bool.not_true, Bool.not_false, reduceIte, Nat.reduceEqDiff, Nat.reduceAdd, Nat.reduceMul, Nat.reduceSub, Nat.reduceLeDiff, Nat.reduceLT, make_ranges (m := m) (by omega), repl_mixR (m := m) (lo := fun k => loN (val k) L) (hi := fun k => hiN (val k) L)]
  refine step_slice (by omega) mixR_one fun g3 hx3 => ?_
  have n3 := hx3.next
  have f3 := hx3.floor
  have r1 := (hx1.row.mono hx2.sub).mono hx3.sub
  have r2 := hx2.row.mono hx3.sub
  have s3 : Sub All h g3 := hx1.sub.trans (hx2.sub.trans hx3.sub)
  have hro : g3.get g2.next = some (.row ((List.range (2 * m)).map (mixR 0 (fun k => loN (val k) L) (fun k => hiN (val k) L))) true 0) := hx3.get
  simp only [rn0, rn1, rn2, rn3, rn4, rn5, rn6, rn7, rn8, if_true, if_false, Nat.le_refl, true_and, and_true, decide_true, decide_false, Bool.not_true, Bool.not_false, reduceIte, Nat.reduceEqDiff, Nat.reduceAdd, Nat.reduceMul, Nat.reduceSub, Nat.reduceLeDiff, Nat.reduceLT]
  refine W_loop m (fun k f g ms => (Keep g2.next g3 g ∧ g.get g2.next = some (.row ((List.range (2 * m)).map (mixR k (fun k => loN (val k) L) (fun k => hiN (val k) L))) true 0) ∧ g.next ≤ g3.next + 5000 * k) ∧ ms = [] ∧ f 3 = .pointer (some ⟨h.next, 0, none⟩) ∧ f 4 = .pointer (some ⟨g1.next, 0, none⟩) ∧
    f 7 = .slice (some ⟨g2.next, 0, none⟩) m m ∧ f 16 = .int .i64 (m : Int) ∧ f 17 = .int .i64 (k : Int)) (by simp; omega) ?_ ?_ ?_
  · simp only [rn0, rn1, rn2, rn3, rn4, rn5, rn6, rn7, rn8, if_true, if_false, Nat.le_refl, true_and, and_true, decide_true, decide_false, Bool.not_true, Bool.not_false, reduceIte, Nat.reduceEqDiff, Nat.reduceAdd, Nat.reduceMul, Nat.reduceSub, Nat.reduceLeDiff, Nat.reduceLT]
    exact ⟨⟨Keep.refl, hro, by omega⟩, rfl⟩
  · rintro k f g ms hk ⟨⟨st, go, gn⟩, rfl, p3, p4, p7, p16, p17⟩
    have hk' : (k : Int) < (m : Int) := by omega
    have hw : wrapF .i64 ((k : Int) + 1) = ((k + 1 : Nat) : Int) := by rw [wrap_in (by omega) (by omega)]; rfl
    have hup := st.up
    have hfg := st.floor
    have sg : Sub All h g := fun i cs w gr t hg => st.sub _ _ _ _ (by have := AHeap.lt_of_get hg; omega) (s3 _ _ _ _ t hg)
    have r1g := r1.keep st (by omega)
    have r2g := r2.keep st (by omega)
    have htg : TruthsR g tv L := Cells.mono htr sg
    have i0 : indexSl 5 tv (.int .i64 0) = some (ptrO tv 5 0 0) := Cells.idx htg hpos
    have e0 := hG g sg (by omega) k hk _ (hat 0 hpos)
    simp only [rn0, rn1, rn2, rn3, rn4, rn5, rn6, rn7, rn8, if_true, if_false, Nat.le_refl, true_and, and_true, decide_true, decide_false, Bool.not_true, Bool.not_false, reduceIte, Nat.reduceEqDiff, Nat.reduceAdd, Nat.reduceMul, Nat.reduceSub, Nat.reduceLeDiff, Nat.reduceLT, p3, p4, p7, p16, p17, hk']
    refine W_draw All ?_
    simp only [rn0, rn1, rn2, rn3, rn4, rn5, rn6, rn7, rn8, if_true, if_false, Nat.le_refl, true_and, and_true, decide_true, decide_false, Bool.not_true, Bool.not_false, reduceIte, Nat.reduceEqDiff, Nat.reduceAdd, Nat.reduceMul, Nat.reduceSub, Nat.reduceLeDiff, Nat.reduceLT, p3, p4, p7, p16, p17, r1g.ld, r2g.whole (n := 4) rfl, r2g.ld, Nat.zero_add, List.getElem?_cons_zero, List.getElem?_cons_succ, i0, truths_ld htg hpos, e0, build_range]
    generalize hv0 : val k (L.getD 0 fun _ => 0) = v0
    refine step_new (vs := [.int .i64 v0, .int .i64 v0]) (by omega) (by omega) rfl (by simp only [rn0, rn1, rn2, rn3, rn4, rn5, rn6, rn7, rn8, if_true, if_false, Nat.le_refl, true_and, and_true, decide_true, decide_false, Bool.not_true, Bool.not_false, reduceIte, Nat.reduceEqDiff, Nat.reduceAdd, Nat.reduceMul, Nat.reduceSub, Nat.reduceLeDiff, Nat.reduceLT]; rfl) rfl rfl rfl fun g4 hx4 => ?_
    have n4 := hx4.next
    have f4 := hx4.floor
    have r2g4 := r2g.mono hx4.sub
    obtain ⟨tl, g5, et, _, s5, u5, b5, f5, o5, htl⟩ := tail_c (Cells.mono htg hx4.sub) hpos hlong (by omega)
    have ht5 := htl g5 (Cells.mono (Cells.mono htg hx4.sub) s5)
    simp only [rn0, rn1, rn2, rn3, rn4, rn5, rn6, rn7, rn8, if_true, if_false, Nat.le_refl, true_and, and_true, decide_true, decide_false, Bool.not_true, Bool.not_false, reduceIte, Nat.reduceEqDiff, Nat.reduceAdd, Nat.reduceMul, Nat.reduceSub, Nat.reduceLeDiff, Nat.reduceLT, p3, p4, p7, p16, p17, r2g4.ld, Nat.zero_add, List.getElem?_cons_zero, List.getElem?_cons_succ, Option.isSome_none, Option.map_some, Option.map_none, et, Cells.len ht5]
    have r10 : g5.get g.next = some (.row [.int .i64 v0, .int .i64 v0] true 0) := s5 _ _ _ _ trivial hx4.get
    refine W_loop (L.length - 1) (fun i f g' ms => (Keep g.next g5 g' ∧ g'.get g.next = some (.row [.int .i64 (minN v0 (fun i => val k (L.getD (i + 1) fun _ => 0)) i), .int .i64 (maxN v0 (fun i => val k (L.getD (i + 1) fun _ => 0)) i)] true 0) ∧ g'.next ≤ g5.next + 2 * i) ∧ ms = [] ∧
      f 3 = .pointer (some ⟨h.next, 0, none⟩) ∧ f 4 = .pointer (some ⟨g1.next, 0, none⟩) ∧ f 7 = .slice (some ⟨g2.next, 0, none⟩) m m ∧ f 16 = .int .i64 (m : Int) ∧ f 17 = .int .i64 (k : Int) ∧ f 8 = .int .i64 (k : Int) ∧ f 10 = .pointer (some ⟨g.next, 0, none⟩) ∧
      f 34 = tl ∧ f 35 = .int .i64 ((L.length - 1 : Nat) : Int) ∧ f 36 = .int .i64 (i : Int)) (by simp; omega) ?_ ?_ ?_
    · simp only [rn0, rn1, rn2, rn3, rn4, rn5, rn6, rn7, rn8, if_true, if_false, Nat.le_refl, true_and, and_true, decide_true, decide_false, Bool.not_true, Bool.not_false, reduceIte, Nat.reduceEqDiff, Nat.reduceAdd, Nat.reduceMul, Nat.reduceSub, Nat.reduceLeDiff, Nat.reduceLT, p3, p4, p7, p16, p17]
      exact ⟨⟨Keep.refl, r10, by omega⟩, rfl⟩
    · rintro i f g' ms hi ⟨⟨kin, gi, gin⟩, rfl, p3, p4, p7, p16, p17, p8, p10, p34, p35, p36⟩
      have hi' : (i : Int) < ((L.length - 1 : Nat) : Int) := by omega
      have hwi : wrapF .i64 ((i : Int) + 1) = ((i + 1 : Nat) : Int) := by rw [wrap_in (by omega) (by omega)]; rfl
      have kup := kin.up
      have kfl := kin.floor
      have sg5 : Sub All h g5 := sg.trans (hx4.sub.trans s5)
      have sg' : Sub All h g' := fun j cs w gr t hg => kin.sub _ _ _ _ (by have := AHeap.lt_of_get hg; omega) (sg5 _ _ _ _ t hg)
      have ht' := htl g' (Cells.mono htr sg')
      have hld : loadAgg 5 g' (ptrO tl 5 i 0) = some (.agg ⟨arr (L.getD (i + 1) fun _ => 0)⟩) := by
        rw [Cells.ldN ht' hi (by omega) (by omega)]; simp [arr, List.range_succ]
      have r1' := ((r1g.mono hx4.sub).mono s5).keep kin (by omega)
      have r2' := ((r2g.mono hx4.sub).mono s5).keep kin (by omega)
      simp only [rn0, rn1, rn2, rn3, rn4, rn5, rn6, rn7, rn8, if_true, if_false, Nat.le_refl, true_and, and_true, decide_true, decide_false, Bool.not_true, Bool.not_false, reduceIte, Nat.reduceEqDiff, Nat.reduceAdd, Nat.reduceMul, Nat.reduceSub, Nat.reduceLeDiff, Nat.reduceLT, p3, p4, p7, p8, p10, p16, p17, p34, p35, p36, hi', Cells.idx ht' hi, hld]
      refine step_new (vs := arr (L.getD (i + 1) fun _ => 0)) (by omega) (by omega) rfl (by simp only [rn0, rn1, rn2, rn3, rn4, rn5, rn6, rn7, rn8, if_true, if_false, Nat.le_refl, true_and, and_true, decide_true, decide_false, Bool.not_true, Bool.not_false, reduceIte, Nat.reduceEqDiff, Nat.reduceAdd, Nat.reduceMul, Nat.reduceSub, Nat.reduceLeDiff, Nat.reduceLT]; rfl) arr_one arr_len rfl fun g6 hx6 => ?_
      have n6 := hx6.next
      have f6 := hx6.floor
      have e6 := hG g6 (sg'.trans hx6.sub) (by omega) k hk _ (hat (i + 1) (by omega))
      have r16 := r1'.mono hx6.sub
      have r26 := r2'.mono hx6.sub
      have r106 : Row g6 g.next _ := ⟨_, _, hx6.sub _ _ _ _ trivial gi⟩
      simp only [rn0, rn1, rn2, rn3, rn4, rn5, rn6, rn7, rn8, if_true, if_false, Nat.le_refl, true_and, and_true, decide_true, decide_false, Bool.not_true, Bool.not_false, reduceIte, Nat.reduceEqDiff, Nat.reduceAdd, Nat.reduceMul, Nat.reduceSub, Nat.reduceLeDiff, Nat.reduceLT, p3, p4, p7, p8, p10, p16, p17, p34, p35, p36, r16.ld, r26.whole (n := 4) rfl, hx6.row.whole arr_len, Nat.zero_add, List.getElem?_cons_zero, List.getElem?_cons_succ, e6]
      refine W_draw All ?_
      simp only [rn0, rn1, rn2, rn3, rn4, rn5, rn6, rn7, rn8, if_true, if_false, Nat.le_refl, true_and, and_true, decide_true, decide_false, Bool.not_true, Bool.not_false, reduceIte, Nat.reduceEqDiff, Nat.reduceAdd, Nat.reduceMul, Nat.reduceSub, Nat.reduceLeDiff, Nat.reduceLT, p3, p4, p7, p8, p10, p16, p17, p34, p35, p36, r106.ld, Nat.zero_add, List.getElem?_cons_zero, List.getElem?_cons_succ, sl_int]
      generalize hv1 : val k (L.getD (i + 1) fun _ => 0) = v1
      refine up_slice (by omega) rfl (fun g7 hx => hx.sub) fun g7 hx7 => ?_
      have n7 := hx7.next
      have f7 := hx7.floor
      have hone : Ints g7 (.slice (some ⟨g6.next, 0, none⟩) 1 1) 1 (fun _ => v1) := ⟨_, _, rfl, fun x e => by cases e; rfl, .inr ⟨_, 0, _, _, _, rfl, hx7.get, fun i j hi hj => by
        have hi : i = 0 := by omega
        have hj : j = 0 := by omega
        subst hi hj; rfl⟩⟩
      have em := minimum_c (n := n) (h := g7) (m := 1) (by omega) (by omega) hone (minN v0 (fun i => val k (L.getD (i + 1) fun _ => 0)) i)
      have hmin : minN (minN v0 (fun i => val k (L.getD (i + 1) fun _ => 0)) i) (fun _ => v1) 1 = minN v0 (fun i => val k (L.getD (i + 1) fun _ => 0)) (i + 1) := by simp only [minN, hv1]
      have hmax : max (maxN v0 (fun i => val k (L.getD (i + 1) fun _ => 0)) i) v1 = maxN v0 (fun i => val k (L.getD (i + 1) fun _ => 0)) (i + 1) := by simp only [maxN, hv1]
      rw [hmin] at em
      simp only [rn0, rn1, rn2, rn3, rn4, rn5, rn6, rn7, rn8, if_true, if_false, Nat.le_refl, true_and, and_true, decide_true, decide_false, Bool.not_true, Bool.not_false, reduceIte, Nat.reduceEqDiff, Nat.reduceAdd, Nat.reduceMul, Nat.reduceSub, Nat.reduceLeDiff, Nat.reduceLT, p3, p4, p7, p8, p10, p16, p17, p34, p35, p36, em, r106.ld, Nat.zero_add, List.getElem?_cons_zero, List.getElem?_cons_succ, valN_tmp, Nat.reduceLT, hmax, build_range]
      refine ⟨hx7.sub, ?_⟩
      refine up_store (b := g.next) (off := 0) (vs := [.int .i64 (minN v0 (fun i => val k (L.getD (i + 1) fun _ => 0)) (i + 1)), .int .i64 (maxN v0 (fun i => val k (L.getD (i + 1) fun _ => 0)) (i + 1))]) rfl (hx7.sub _ _ _ _ trivial (hx6.sub _ _ _ _ trivial gi)) (by omega) (by omega) rfl rfl rfl (by simp) (fun _ _ => trivial) fun g8 hs8 => ?_
      rw [splice2] at hs8
      have n8 := hs8.next
      have f8 := hs8.floor
      simp only [rn0, rn1, rn2, rn3, rn4, rn5, rn6, rn7, rn8, if_true, if_false, Nat.le_refl, true_and, and_true, decide_true, decide_false, Bool.not_true, Bool.not_false, reduceIte, Nat.reduceEqDiff, Nat.reduceAdd, Nat.reduceMul, Nat.reduceSub, Nat.reduceLeDiff, Nat.reduceLT, p3, p4, p7, p8, p10, p16, p17, p34, p35, p36, hwi]
      exact ⟨(kin.trans ⟨fun j cs w gr hj hg => hx7.sub _ _ _ _ trivial (hx6.sub _ _ _ _ trivial hg), by omega, by omega⟩).trans hs8.keep, hs8.get, by omega⟩
    · rintro f g' ms ⟨⟨kin, gi, gin⟩, rfl, p3, p4, p7, p16, p17, p8, p10, p34, p35, p36⟩
      have kup := kin.up
      have kfl := kin.floor
      have w10 := (show Row g' g.next _ from ⟨_, _, gi⟩).whole (n := 2) rfl
      have hlo : minN v0 (fun i => val k (L.getD (i + 1) fun _ => 0)) (L.length - 1) = loN (val k) L := by unfold loN; rw [hv0]
      have hhi : maxN v0 (fun i => val k (L.getD (i + 1) fun _ => 0)) (L.length - 1) = hiN (val k) L := by unfold hiN; rw [hv0]
      rw [hlo, hhi] at w10
      have go' : g'.get g2.next = some (.row ((List.range (2 * m)).map (mixR k (fun k => loN (val k) L) (fun k => hiN (val k) L))) true 0) := kin.sub _ _ _ _ (by omega) (s5 _ _ _ _ trivial (hx4.sub _ _ _ _ trivial go))
      simp only [rn0, rn1, rn2, rn3, rn4, rn5, rn6, rn7, rn8, if_true, if_false, Nat.le_refl, true_and, and_true, decide_true, decide_false, Bool.not_true, Bool.not_false, reduceIte, Nat.reduceEqDiff, Nat.reduceAdd, Nat.reduceMul, Nat.reduceSub, Nat.reduceLeDiff, Nat.reduceLT, p3, p4, p7, p8, p10, p16, p17, p34, p35, p36, Int.lt_irrefl, w10, idxSl_s hk]
      refine step_store (b := g2.next) (off := k * 2) (vs := [.int .i64 (loN (val k) L), .int .i64 (hiN (val k) L)]) rfl go' (by omega) (by omega) rfl rfl rfl (by simp; omega) fun g8 hs8 => ?_
      have h8 := hs8.get
      rw [mixR_splice (lo := fun k => loN (val k) L) (hi := fun k => hiN (val k) L) hk] at h8
      have n8 := hs8.next
      have f8 := hs8.floor
      simp only [rn0, rn1, rn2, rn3, rn4, rn5, rn6, rn7, rn8, if_true, if_false, Nat.le_refl, true_and, and_true, decide_true, decide_false, Bool.not_true, Bool.not_false, reduceIte, Nat.reduceEqDiff, Nat.reduceAdd, Nat.reduceMul, Nat.reduceSub, Nat.reduceLeDiff, Nat.reduceLT, p3, p4, p7, p8, p10, p16, p17, p34, p35, p36, hw]
      refine ⟨⟨fun j cs w gr hj hg => ?_, by omega, by omega⟩, h8, by omega⟩
      have hlt := AHeap.lt_of_get hg
      rw [hs8.old j hj]
      exact kin.sub _ _ _ _ (by omega) (s5 _ _ _ _ trivial (hx4.sub _ _ _ _ trivial (st.sub _ _ _ _ hj hg)))
  · rintro f g ms ⟨⟨st, go, gn⟩, rfl, p3, p4, p7, p16, p17⟩
    have hup := st.up
    have hfg := st.floor
    simp only [rn0, rn1, rn2, rn3, rn4, rn5, rn6, rn7, rn8, if_true, if_false, Nat.le_refl, true_and, and_true, decide_true, decide_false, Bool.not_true, Bool.not_false, reduceIte, Nat.reduceEqDiff, Nat.reduceAdd, Nat.reduceMul, Nat.reduceSub, Nat.reduceLeDiff, Nat.reduceLT, p3, p4, p7, p16, p17, Int.lt_irrefl]
    refine ⟨⟨_, _, rfl, fun x e => by cases e; rfl, ?_⟩, ⟨fun i cs w gr t hg => st.sub _ _ _ _ (by have := AHeap.lt_of_get hg; omega) (s3 _ _ _ _ t hg), by omega, by omega, by omega⟩⟩
    refine .inr ⟨_, 0, _, _, _, rfl, go, fun k j hk hj => ?_⟩
    rw [Nat.zero_add, List.getElem?_map, List.getElem?_range (by omega)]
    simp only [Option.map_some, mixR]
    rw [if_pos (by omega)]
    rcases j with _ | _ | j
    · rw [if_pos (by omega), show (k * 2 + 0) / 2 = k by omega]; rfl
    · rw [if_neg (by omega), show (k * 2 + (0 + 1)) / 2 = k by omega]; rfl
    · omega
end Go.Vm.Vat

namespace Go.Vm
variable {P : Program} {N : Nat} {f : Fr} {h : AHeap} {ty t u e : TypeId} {x y : Operand}
/-! ### Structs of two integers, compared -/
theorem pr_eqTwo {d : Nat} {f0 f1 : Field} {a0 a1 b0 b1 : Int} (ht : P.underlying t = some (.struct #[f0, f1])) (hp : P.stoodInHeld t = false) (n0 : f0.name ≠ "_") (n1 : f1.name ≠ "_") (o0 : f0.offset = 0) (o1 : f1.offset = 1)
    (e0 : P.underlying f0.type = some (.int .i64)) (e1 : P.underlying f1.type = some (.int .i64)) :
    pureRun P (Op.equalIn (d + 2) t (.agg ⟨[.int .i64 a0, .int .i64 a1]⟩) (.agg ⟨[.int .i64 b0, .int .i64 b1]⟩)) = some (decide (a0 = b0 ∧ a1 = b1)) := by
  have x0 : ∀ (p q : Int), pureRun P (part f0.type ⟨[.int .i64 p, .int .i64 q]⟩ f0.offset) = some (.int .i64 p) := fun p q => pr_part e0 (by rw [o0]; rfl)
  have x1 : ∀ (p q : Int), pureRun P (part f1.type ⟨[.int .i64 p, .int .i64 q]⟩ f1.offset) = some (.int .i64 q) := fun p q => pr_part e1 (by rw [o1]; rfl)
  rw [Op.equalIn]
  simp only [pureRun_bind, pr_under ht, Option.bind_some, pr_program, hp, Bool.false_eq_true, if_false]
  rw [← Array.forIn_toList]
  simp only [List.forIn_cons, List.forIn_nil, pureRun_bind, n0, n1, ne_eq, not_false_eq_true, if_true, x0, pr_eqInt e0, Option.bind_some]
  by_cases c0 : a0 = b0 <;> by_cases c1 : a1 = b1 <;> simp [c0, c1, pr_pure, pureRun_bind, x1, pr_eqInt e1]
theorem plainF_neqTwo {f0 f1 : Field} {a0 a1 b0 b1 : Int} (hx : valN N f x = .agg ⟨[.int .i64 a0, .int .i64 a1]⟩) (hy : valN N f y = .agg ⟨[.int .i64 b0, .int .i64 b1]⟩) (hg : P.eqGuardType P.depth t = false)
    (ht : P.underlying t = some (.struct #[f0, f1])) (hp : P.stoodInHeld t = false) (n0 : f0.name ≠ "_") (n1 : f1.name ≠ "_") (o0 : f0.offset = 0) (o1 : f1.offset = 1)
    (e0 : P.underlying f0.type = some (.int .i64)) (e1 : P.underlying f1.type = some (.int .i64)) :
    plainF P N (.binOp .neq t x y u) ty f h = some (.bool (!(decide (a0 = b0 ∧ a1 = b1))), h) := by
  unfold plainF
  have : allB (fun x => plainV (valN N f x)) (Op.binOp .neq t x y u).operands.toList = true := by simp [Op.operands, allB, hx, hy, plainV, plainE, plainCell]
  rw [this]
  have e : pureRun P (execOp (valN N f) (bare (.binOp .neq t x y u) ty)) = some (.value (.bool (!(decide (a0 = b0 ∧ a1 = b1))))) := by
    simp only [execOp, bare, hx, hy, pureRun_bind, pr_guard hg, Option.bind_some, binOp, Op.equal, Op.maxDepth, pr_eqTwo ht hp n0 n1 o0 o1 e0 e1, pr_pure]
  rw [e]
  rfl
theorem binA_neqAgg {op : Op} {l r : Array Value} : binA P N .neq op ty (.agg l) (.agg r) f h = plainF P N op ty f h := id rfl
end Go.Vm

namespace Go.Vm.Vat
open Go.Proofs
set_option linter.unusedSimpArgs false
set_option linter.unusedVariables false
set_option maxRecDepth 10000
variable {n : Nat} {h : AHeap}

def s91 : SCode := (.seq (.ops [⟨(some 3), none, .box (T 0)⟩, ⟨(some 4), none, .box (T 1)⟩, ⟨(some 6), none, .mov (.const (.int .i64 (0)))⟩]) (.seq (.ops [⟨(some 7), none, .mov (T 2)⟩, ⟨(some 8), none, .idxArr 5 1 (T 4) (T 7)⟩, ⟨(some 9), none, .load1 (T 8)⟩, ⟨(some 6), none, .mov (T 9)⟩]) .ret))
theorem fok91 : FnOk Try.prog 91 10 s91 [.tmp 6] := ⟨Try.f91, _, Try.func91, rfl, Try.ntmps91, by kernel_rfl, by kernel_rfl⟩
theorem inBundle_c (hn : 1 ≤ n) (hr : h.next + 3 < far) {F V S T : Value} (h1 : allB oneCell [F, V, S, T] = true) {t : Nat → Int} {k : Nat} (hk : k < 5) :
    call n (.func (.func 91) #[] #[]) [.agg ⟨[F, V, S, T]⟩, .agg ⟨arr t⟩, .int .i64 (k : Int)] h = some (.int .i64 (t k), h) := by
  obtain ⟨n, rfl⟩ : ∃ p, n = p + 1 := ⟨n - 1, by omega⟩
  refine call_plain0 fok91 rfl rfl (by simp) rfl ?_
  have hr : h.shutAll.next + 3 < far := hr
  generalize h.shutAll = h at hr
  simp only [s91, W_seq, W_ops]
  refine ops_box (cs := [F, V, S, T]) (by omega) rfl h1 fun g1 hx1 => ?_
  refine ops_box (cs := arr t) (by rw [hx1.next]; omega) rfl arr_one fun g2 hx2 => ?_
  have hl : loadCell g2 (.pointer (some ⟨g1.next, k, none⟩)) = some (.int .i64 (t k)) := by rw [hx2.row.ld, arr_get hk]
  simp only [rn0, rn1, rn2, rn3, rn4, rn5, rn6, rn7, rn8, if_true, if_false, Nat.le_refl, true_and, and_true, decide_true, decide_false, Bool.not_true, Bool.not_false, reduceIte, Nat.reduceEqDiff, Nat.reduceAdd, Nat.reduceMul, Nat.reduceSub, Nat.reduceLeDiff, Nat.reduceLT, idxArr_p (l := 5) (k := k) hk, Nat.zero_add, hl]
theorem build_fn {G : Nat} : buildA (fun x => (#[(0, 1)] : Array (Nat × Nat))[x]?) ⟨[.nilFunc]⟩ [0] h [.func (.func G) #[] #[]] = some (.agg ⟨[.func (.func G) #[] #[]]⟩, h) := id rfl

/-- what Bounds and Fields answer -/
def RangesR (h : AHeap) (Y : MY) (m : Nat) (val : Nat → (Nat → Int) → Int) (v : Value) (h' : AHeap) : Prop := Made h h' 400000 ∧
  ((faultN Y ≠ 0 ∧ v = .tuple ⟨[nilS, .int .i64 (faultN Y)]⟩) ∨ (faultN Y = 0 ∧ truths Y = [] ∧ v = .tuple ⟨[nilS, .int .i64 11]⟩) ∨
    (faultN Y = 0 ∧ truths Y ≠ [] ∧ ∃ l, v = .tuple ⟨[l, .int .i64 0]⟩ ∧ Ranges h' l m (fun k => loN (val k) (truths Y)) (fun k => hiN (val k) (truths Y))))
def s34 : SCode := (.seq (.ops [⟨(some 1), none, .box (T 0)⟩, ⟨(some 2), none, .mov (.const (.slice none 0 0))⟩, ⟨(some 3), none, .mov (.const (.int .i64 (0)))⟩]) (.seq (.ops [⟨(some 7), none, .loadN 3 (T 1)⟩, ⟨(some 8), none, .call (.func 89) [(T 7)]⟩, ⟨(some 6), none, .mov (T 8)⟩, ⟨(some 9), none, .extract 0 (T 6)⟩, ⟨(some 10), none, .extract 1 (T 6)⟩, ⟨(some 4), none, .alloc [(.slice none 0 0), (.slice none 0 0), (.slice none 0 0), (.slice none 0 0)]⟩, ⟨none, none, .store 4 (T 4) (T 9)⟩, ⟨(some 5), none, .mov (T 10)⟩]) (.seq (.seq (.ops [⟨(some 11), none, .mov (T 5)⟩, ⟨(some 12), none, .int2 .neq (T 11) (.const (.int .i64 (0)))⟩]) (.cond (T 12) (.seq (.ops [⟨(some 13), none, .mov (T 5)⟩, ⟨(some 2), none, .mov (.const (.slice none 0 0))⟩, ⟨(some 3), none, .mov (T 13)⟩]) .ret) .skip)) (.seq (.ops [⟨(some 14), none, .build #[(0, 1)] [.nilFunc] [0] [(.func 77)]⟩, ⟨(some 15), none, .loadN 4 (T 4)⟩, ⟨(some 16), none, .fieldAddr 0 (T 4)⟩, ⟨(some 17), none, .fieldAddr 1 (T 16)⟩, ⟨(some 18), none, .load1 (T 17)⟩, ⟨(some 19), none, .len (T 18)⟩, ⟨(some 20), none, .call (.func 90) [(T 14), (T 15), (T 19)]⟩, ⟨(some 2), none, .mov (T 20)⟩, ⟨(some 3), none, .mov (.const (.int .i64 (0)))⟩]) .ret))))
theorem fok34 : FnOk Try.prog 34 21 s34 [.tmp 2, .tmp 3] := ⟨Try.f34, _, Try.func34, rfl, Try.ntmps34, by kernel_rfl, by kernel_rfl⟩
theorem boundsV_c (hn : 10060 ≤ n) (hr : h.next + 900000 < far) (hfl : h.floor ≤ h.next) {F V S : Value} {Y : MY} (hy : YardR h F V S Y) (hY : Thin Y) :
    ∃ v h', call n (.func (.func 34) #[] #[]) [.agg ⟨[F, V, S]⟩] h = some (v, h') ∧ RangesR h Y Y.nv (fun k t => blueN t (Y.q k) Y.nf) v h' := by
  obtain ⟨n, rfl⟩ : ∃ p, n = p + 1 := ⟨n - 1, by omega⟩
  refine call_any0 fok34 rfl rfl (by simp) ?_
  simp only [s34, W_seq, W_ops]
  refine ops_box (cs := [F, V, S]) (by omega) rfl hy.one fun g1 hx1 => ?_
  have n1 := hx1.next
  have f1 := hx1.floor
  have w1 := hx1.row.whole (n := 3) rfl
  obtain ⟨v, g2, eo, hm, ho⟩ := openTrue_c (n := n) (h := g1) (by omega) (by omega) (by omega) (hy.mono hx1.sub) hY
  have n2 := hm.next
  have u2 := hm.up
  have f2 := hm.floor
  rcases ho with ⟨hf, rfl⟩ | ⟨hf, he, rfl⟩ | ⟨hf, he, tv, rfl, htr, hlong⟩
  · simp only [rn0, rn1, rn2, rn3, rn4, rn5, rn6, rn7, rn8, if_true, if_false, Nat.le_refl, true_and, and_true, decide_true, decide_false, Bool.not_true, Bool.not_false, reduceIte, Nat.reduceEqDiff, Nat.reduceAdd, Nat.reduceMul, Nat.reduceSub, Nat.reduceLeDiff, Nat.reduceLT, w1, eo, ex0, ex1]
    refine step_new (vs := [nilS, nilS, nilS, nilS]) (by omega) (by omega) rfl (by simp only [rn0, rn1, rn2, rn3, rn4, rn5, rn6, rn7, rn8, if_true, if_false, Nat.le_refl, true_and, and_true, decide_true, decide_false, Bool.not_true, Bool.not_false, reduceIte, Nat.reduceEqDiff, Nat.reduceAdd, Nat.reduceMul, Nat.reduceSub, Nat.reduceLeDiff, Nat.reduceLT]; rfl) rfl rfl rfl fun g3 hx3 => ?_
    have n3 := hx3.next
    have f3 := hx3.floor
    simp only [rn0, rn1, rn2, rn3, rn4, rn5, rn6, rn7, rn8, if_true, if_false, Nat.le_refl, true_and, and_true, decide_true, decide_false, Bool.not_true, Bool.not_false, reduceIte, Nat.reduceEqDiff, Nat.reduceAdd, Nat.reduceMul, Nat.reduceSub, Nat.reduceLeDiff, Nat.reduceLT, hf, ret_tt]
    exact ⟨⟨hx1.sub.trans (hm.sub.trans hx3.sub), by omega, by omega, by omega⟩, .inl ⟨hf, rfl⟩⟩
  · simp only [rn0, rn1, rn2, rn3, rn4, rn5, rn6, rn7, rn8, if_true, if_false, Nat.le_refl, true_and, and_true, decide_true, decide_false, Bool.not_true, Bool.not_false, reduceIte, Nat.reduceEqDiff, Nat.reduceAdd, Nat.reduceMul, Nat.reduceSub, Nat.reduceLeDiff, Nat.reduceLT, w1, eo, ex0, ex1]
    refine step_new (vs := [nilS, nilS, nilS, nilS]) (by omega) (by omega) rfl (by simp only [rn0, rn1, rn2, rn3, rn4, rn5, rn6, rn7, rn8, if_true, if_false, Nat.le_refl, true_and, and_true, decide_true, decide_false, Bool.not_true, Bool.not_false, reduceIte, Nat.reduceEqDiff, Nat.reduceAdd, Nat.reduceMul, Nat.reduceSub, Nat.reduceLeDiff, Nat.reduceLT]; rfl) rfl rfl rfl fun g3 hx3 => ?_
    have n3 := hx3.next
    have f3 := hx3.floor
    simp only [rn0, rn1, rn2, rn3, rn4, rn5, rn6, rn7, rn8, if_true, if_false, Nat.le_refl, true_and, and_true, decide_true, decide_false, Bool.not_true, Bool.not_false, reduceIte, Nat.reduceEqDiff, Nat.reduceAdd, Nat.reduceMul, Nat.reduceSub, Nat.reduceLeDiff, Nat.reduceLT, ret_tt, Int.reduceEq]
    exact ⟨⟨hx1.sub.trans (hm.sub.trans hx3.sub), by omega, by omega, by omega⟩, .inr (.inl ⟨hf, he, rfl⟩)⟩
  · have hG := good_of hf
    obtain ⟨z1, z2, z3⟩ := hG.sz
    have ho4 : allB oneCell [F, V, S, tv] = true := by have h1 := hy.one; have h2 := Cells.one htr; simp [allB] at h1 ⊢; simp [h1, h2]
    simp only [rn0, rn1, rn2, rn3, rn4, rn5, rn6, rn7, rn8, if_true, if_false, Nat.le_refl, true_and, and_true, decide_true, decide_false, Bool.not_true, Bool.not_false, reduceIte, Nat.reduceEqDiff, Nat.reduceAdd, Nat.reduceMul, Nat.reduceSub, Nat.reduceLeDiff, Nat.reduceLT, w1, eo, ex0, ex1]
    refine step_new (vs := [F, V, S, tv]) (by omega) (by omega) rfl (by simp only [rn0, rn1, rn2, rn3, rn4, rn5, rn6, rn7, rn8, if_true, if_false, Nat.le_refl, true_and, and_true, decide_true, decide_false, Bool.not_true, Bool.not_false, reduceIte, Nat.reduceEqDiff, Nat.reduceAdd, Nat.reduceMul, Nat.reduceSub, Nat.reduceLeDiff, Nat.reduceLT]; rfl) ho4 rfl rfl fun g3 hx3 => ?_
    have n3 := hx3.next
    have f3 := hx3.floor
    have w3 := hx3.row.whole (n := 4) rfl
    have s3 : Sub All h g3 := hx1.sub.trans (hm.sub.trans hx3.sub)
    have hy3 := hy.mono s3
    obtain ⟨rr, hrw, hq⟩ := hy3.v
    obtain ⟨l, g4, e4, hl4, m4⟩ := bounds_c (n := n) (h := g3) (F := F) (V := V) (S := S) (tv := tv) (L := truths Y) (G := 77) (m := Y.nv) (val := fun k t => blueN t (Y.q k) Y.nf) (by omega) (by omega) (by omega) ho4 he (truths_len hf) (Cells.mono htr hx3.sub) hlong (by omega) fun g hs hg k hk t ht => by
      obtain ⟨v1, v2⟩ := hG.v k hk
      exact inVat_c (n := n - 1) (h := g) (by omega) (by omega) (hy3.mono hs).v ho4 hk v1 z1 (truths_range hf ht) fun i hi => v2 i (by omega)
    have n4 := m4.next
    have u4 := m4.up
    have f4 := m4.floor
    simp only [rn0, rn1, rn2, rn3, rn4, rn5, rn6, rn7, rn8, if_true, if_false, Nat.le_refl, true_and, and_true, decide_true, decide_false, Bool.not_true, Bool.not_false, reduceIte, Nat.reduceEqDiff, Nat.reduceAdd, Nat.reduceMul, Nat.reduceSub, Nat.reduceLeDiff, Nat.reduceLT, build_fn, w3, hx3.row.ld, Nat.zero_add, List.getElem?_cons_zero, List.getElem?_cons_succ, Cells.len hrw, e4, ret_tt]
    exact ⟨⟨s3.trans m4.sub, by omega, by omega, by omega⟩, .inr (.inr ⟨hf, he, _, rfl, hl4⟩)⟩
def s35 : SCode := (.seq (.ops [⟨(some 1), none, .box (T 0)⟩, ⟨(some 2), none, .mov (.const (.slice none 0 0))⟩, ⟨(some 3), none, .mov (.const (.int .i64 (0)))⟩]) (.seq (.ops [⟨(some 7), none, .loadN 3 (T 1)⟩, ⟨(some 8), none, .call (.func 89) [(T 7)]⟩, ⟨(some 6), none, .mov (T 8)⟩, ⟨(some 9), none, .extract 0 (T 6)⟩, ⟨(some 10), none, .extract 1 (T 6)⟩, ⟨(some 4), none, .alloc [(.slice none 0 0), (.slice none 0 0), (.slice none 0 0), (.slice none 0 0)]⟩, ⟨none, none, .store 4 (T 4) (T 9)⟩, ⟨(some 5), none, .mov (T 10)⟩]) (.seq (.seq (.ops [⟨(some 11), none, .mov (T 5)⟩, ⟨(some 12), none, .int2 .neq (T 11) (.const (.int .i64 (0)))⟩]) (.cond (T 12) (.seq (.ops [⟨(some 13), none, .mov (T 5)⟩, ⟨(some 2), none, .mov (.const (.slice none 0 0))⟩, ⟨(some 3), none, .mov (T 13)⟩]) .ret) .skip)) (.seq (.ops [⟨(some 14), none, .build #[(0, 1)] [.nilFunc] [0] [(.func 91)]⟩, ⟨(some 15), none, .loadN 4 (T 4)⟩, ⟨(some 16), none, .fieldAddr 0 (T 4)⟩, ⟨(some 17), none, .fieldAddr 0 (T 16)⟩, ⟨(some 18), none, .load1 (T 17)⟩, ⟨(some 19), none, .len (T 18)⟩, ⟨(some 20), none, .call (.func 90) [(T 14), (T 15), (T 19)]⟩, ⟨(some 2), none, .mov (T 20)⟩, ⟨(some 3), none, .mov (.const (.int .i64 (0)))⟩]) .ret))))
theorem fok35 : FnOk Try.prog 35 21 s35 [.tmp 2, .tmp 3] := ⟨Try.f35, _, Try.func35, rfl, Try.ntmps35, by kernel_rfl, by kernel_rfl⟩
theorem fieldsV_c (hn : 10060 ≤ n) (hr : h.next + 900000 < far) (hfl : h.floor ≤ h.next) {F V S : Value} {Y : MY} (hy : YardR h F V S Y) (hY : Thin Y) :
    ∃ v h', call n (.func (.func 35) #[] #[]) [.agg ⟨[F, V, S]⟩] h = some (v, h') ∧ RangesR h Y Y.nf (fun k t => t k) v h' := by
  obtain ⟨n, rfl⟩ : ∃ p, n = p + 1 := ⟨n - 1, by omega⟩
  refine call_any0 fok35 rfl rfl (by simp) ?_
  simp only [s35, W_seq, W_ops]
  refine ops_box (cs := [F, V, S]) (by omega) rfl hy.one fun g1 hx1 => ?_
  have n1 := hx1.next
  have f1 := hx1.floor
  have w1 := hx1.row.whole (n := 3) rfl
  obtain ⟨v, g2, eo, hm, ho⟩ := openTrue_c (n := n) (h := g1) (by omega) (by omega) (by omega) (hy.mono hx1.sub) hY
  have n2 := hm.next
  have u2 := hm.up
  have f2 := hm.floor
  rcases ho with ⟨hf, rfl⟩ | ⟨hf, he, rfl⟩ | ⟨hf, he, tv, rfl, htr, hlong⟩
  · simp only [rn0, rn1, rn2, rn3, rn4, rn5, rn6, rn7, rn8, if_true, if_false, Nat.le_refl, true_and, and_true, decide_true, decide_false, Bool.not_true, Bool.not_false, reduceIte, Nat.reduceEqDiff, Nat.reduceAdd, Nat.reduceMul, Nat.reduceSub, Nat.reduceLeDiff, Nat.reduceLT, w1, eo, ex0, ex1]
    refine step_new (vs := [nilS, nilS, nilS, nilS]) (by omega) (by omega) rfl (by simp only [rn0, rn1, rn2, rn3, rn4, rn5, rn6, rn7, rn8, if_true, if_false, Nat.le_refl, true_and, and_true, decide_true, decide_false, Bool.not_true, Bool.not_false, reduceIte, Nat.reduceEqDiff, Nat.reduceAdd, Nat.reduceMul, Nat.reduceSub, Nat.reduceLeDiff, Nat.reduceLT]; rfl) rfl rfl rfl fun g3 hx3 => ?_
    have n3 := hx3.next
    have f3 := hx3.floor
    simp only [rn0, rn1, rn2, rn3, rn4, rn5, rn6, rn7, rn8, if_true, if_false, Nat.le_refl, true_and, and_true, decide_true, decide_false, Bool.not_true, Bool.not_false, reduceIte, Nat.reduceEqDiff, Nat.reduceAdd, Nat.reduceMul, Nat.reduceSub, Nat.reduceLeDiff, Nat.reduceLT, hf, ret_tt]
    exact ⟨⟨hx1.sub.trans (hm.sub.trans hx3.sub), by omega, by omega, by omega⟩, .inl ⟨hf, rfl⟩⟩
  · simp only [rn0, rn1, rn2, rn3, rn4, rn5, rn6, rn7, rn8, if_true, if_false, Nat.le_refl, true_and, and_true, decide_true, decide_false, Bool.not_true, Bool.not_false, reduceIte, Nat.reduceEqDiff, Nat.reduceAdd, Nat.reduceMul, Nat.reduceSub, Nat.reduceLeDiff, Nat.reduceLT, w1, eo, ex0, ex1]
    refine step_new (vs := [nilS, nilS, nilS, nilS]) (by omega) (by omega) rfl (by simp only [rn0, rn1, rn2, rn3, rn4, rn5, rn6, rn7, rn8, if_true, if_false, Nat.le_refl, true_and, and_true, decide_true, decide_false, Bool.not_true, Bool.not_false, reduceIte, Nat.reduceEqDiff, Nat.reduceAdd, Nat.reduceMul, Nat.reduceSub, Nat.reduceLeDiff, Nat.reduceLT]; rfl) rfl rfl rfl fun g3 hx3 => ?_
    have n3 := hx3.next
    have f3 := hx3.floor
    simp only [rn0, rn1, rn2, rn3, rn4, rn5, rn6, rn7, rn8, if_true, if_false, Nat.le_refl, true_and, and_true, decide_true, decide_false, Bool.not_true, Bool.not_false, reduceIte, Nat.reduceEqDiff, Nat.reduceAdd, Nat.reduceMul, Nat.reduceSub, Nat.reduceLeDiff, Nat.reduceLT, ret_tt, Int.reduceEq]
    exact ⟨⟨hx1.sub.trans (hm.sub.trans hx3.sub), by omega, by omega, by omega⟩, .inr (.inl ⟨hf, he, rfl⟩)⟩
  · have hG := good_of hf
    obtain ⟨z1, z2, z3⟩ := hG.sz
    have ho4 : allB oneCell [F, V, S, tv] = true := by have h1 := hy.one; have h2 := Cells.one htr; simp [allB] at h1 ⊢; simp [h1, h2]
    simp only [rn0, rn1, rn2, rn3, rn4, rn5, rn6, rn7, rn8, if_true, if_false, Nat.le_refl, true_and, and_true, decide_true, decide_false, Bool.not_true, Bool.not_false, reduceIte, Nat.reduceEqDiff, Nat.reduceAdd, Nat.reduceMul, Nat.reduceSub, Nat.reduceLeDiff, Nat.reduceLT, w1, eo, ex0, ex1]
    refine step_new (vs := [F, V, S, tv]) (by omega) (by omega) rfl (by simp only [rn0, rn1, rn2, rn3, rn4, rn5, rn6, rn7, rn8, if_true, if_false, Nat.le_refl, true_and, and_true, decide_true, decide_false, Bool.not_true, Bool.not_false, reduceIte, Nat.reduceEqDiff, Nat.reduceAdd, Nat.reduceMul, Nat.reduceSub, Nat.reduceLeDiff, Nat.reduceLT]; rfl) ho4 rfl rfl fun g3 hx3 => ?_
    have n3 := hx3.next
    have f3 := hx3.floor
    have w3 := hx3.row.whole (n := 4) rfl
    have s3 : Sub All h g3 := hx1.sub.trans (hm.sub.trans hx3.sub)
    have hy3 := hy.mono s3
    obtain ⟨l, g4, e4, hl4, m4⟩ := bounds_c (n := n) (h := g3) (F := F) (V := V) (S := S) (tv := tv) (L := truths Y) (G := 91) (m := Y.nf) (val := fun k t => t k) (by omega) (by omega) (by omega) ho4 he (truths_len hf) (Cells.mono htr hx3.sub) hlong (by omega) fun g hs hg k hk t ht =>
      inBundle_c (n := n - 1) (h := g) (by omega) (by omega) ho4 (by omega)
    have n4 := m4.next
    have u4 := m4.up
    have f4 := m4.floor
    simp only [rn0, rn1, rn2, rn3, rn4, rn5, rn6, rn7, rn8, if_true, if_false, Nat.le_refl, true_and, and_true, decide_true, decide_false, Bool.not_true, Bool.not_false, reduceIte, Nat.reduceEqDiff, Nat.reduceAdd, Nat.reduceMul, Nat.reduceSub, Nat.reduceLeDiff, Nat.reduceLT, build_fn, w3, hx3.row.ld, Nat.zero_add, List.getElem?_cons_zero, List.getElem?_cons_succ, Cells.len hy3.f, e4, ret_tt]
    exact ⟨⟨s3.trans m4.sub, by omega, by omega, by omega⟩, .inr (.inr ⟨hf, he, _, rfl, hl4⟩)⟩

/-! ### The reference's bounds -/
theorem int_ext {a b : Int} (h : ∀ c, c ≤ a ↔ c ≤ b) : a = b := Int.le_antisymm ((h a).1 (Int.le_refl _)) ((h b).2 (Int.le_refl _))
theorem int_ext' {a b : Int} (h : ∀ c, a ≤ c ↔ b ≤ c) : a = b := Int.le_antisymm ((h b).2 (Int.le_refl _)) ((h a).1 (Int.le_refl _))
theorem all_getD' {L : List (Nat → Int)} {p : (Nat → Int) → Prop} : (∀ i, i < L.length → p (L.getD i fun _ => 0)) ↔ ∀ t, t ∈ L → p t := by
  have hget : ∀ i, (hi : i < L.length) → L.getD i (fun _ => 0) = L[i] := fun i hi => by rw [List.getD_eq_getElem?_getD, List.getElem?_eq_getElem hi]; rfl
  constructor
  · intro h t ht
    obtain ⟨i, hi, rfl⟩ := List.getElem_of_mem ht
    rw [← hget i hi]; exact h i hi
  · intro h i hi
    exact h _ (by rw [hget i hi]; exact List.getElem_mem hi)
theorem ref_lo {Y : MY} (hf : faultN Y = 0) (he : truths Y ≠ []) {val : (Nat → Int) → Int} (hv : ∀ t, t ∈ truths Y → val t ≤ 1099511627776) : minN 1099511627776 (fun i => val ((refTruths Y).getD i fun _ => 0)) (refTruths Y).length = loN val (truths Y) := by
  refine int_ext fun c => ?_
  rw [le_minN, le_loN he, all_getD' (p := fun t => c ≤ val t)]
  constructor
  · rintro ⟨_, h⟩ t ht; exact h t ((refTruths_mem hf).2 ht)
  · intro h
    refine ⟨?_, fun t ht => h t ((refTruths_mem hf).1 ht)⟩
    cases hq : truths Y with
    | nil => exact absurd hq he
    | cons x l =>
      have hx : x ∈ truths Y := by rw [hq]; simp
      have := h x hx
      have := hv x hx
      omega
theorem ref_hi {Y : MY} (hf : faultN Y = 0) (he : truths Y ≠ []) {val : (Nat → Int) → Int} (hv : ∀ t, t ∈ truths Y → -1 ≤ val t) : maxN (-1) (fun i => val ((refTruths Y).getD i fun _ => 0)) (refTruths Y).length = hiN val (truths Y) := by
  refine int_ext' fun c => ?_
  rw [maxN_le, hiN_le he, all_getD' (p := fun t => val t ≤ c)]
  constructor
  · rintro ⟨_, h⟩ t ht; exact h t ((refTruths_mem hf).2 ht)
  · intro h
    refine ⟨?_, fun t ht => h t ((refTruths_mem hf).1 ht)⟩
    cases hq : truths Y with
    | nil => exact absurd hq he
    | cons x l =>
      have hx : x ∈ truths Y := by rw [hq]; simp
      have := h x hx
      have := hv x hx
      omega
def s38 : SCode := (.seq (.ops [⟨(some 3), none, .box (T 0)⟩, ⟨(some 6), none, .alloc [(.int .i64 (0)), (.int .i64 (0))]⟩]) (.seq (.ops [⟨(some 10), none, .build #[(0, 1), (1, 1)] [(.int .i64 (0)), (.int .i64 (0))] [0, 1] [(.const (.int .i64 (1099511627776))), (.const (.int .i64 (-1)))]⟩, ⟨(some 7), none, .alloc [(.int .i64 (0)), (.int .i64 (0))]⟩, ⟨none, none, .store 2 (T 7) (T 10)⟩]) (.seq (.seq (.ops [⟨(some 8), none, .mov (.const (.int .i64 (0)))⟩]) (.block 0 (.loop (.seq (.seq (.ops [⟨(some 11), none, .mov (T 8)⟩, ⟨(some 12), none, .mov (T 1)⟩, ⟨(some 13), none, .len (T 12)⟩, ⟨(some 14), none, .int2 .lss (T 11) (T 13)⟩]) (.cond (T 14) .skip (.exit 0))) (.seq (.block 1 (.seq (.draw [⟨.rd1, ⟨(some 17), none, .loadN 3 (T 3)⟩⟩, ⟨.free, ⟨(some 18), none, .mov (T 1)⟩⟩, ⟨.free, ⟨(some 19), none, .mov (T 8)⟩⟩, ⟨.free, ⟨(some 20), none, .idxSl 1 (T 18) (T 19)⟩⟩, ⟨.rd1, ⟨(some 21), none, .load1 (T 20)⟩⟩, ⟨.free, ⟨(some 22), none, .mov (T 2)⟩⟩, ⟨.any, ⟨(some 23), none, .call (.func 33) [(T 17), (T 21), (T 22)]⟩⟩, ⟨.free, ⟨(some 9), none, .mov (T 23)⟩⟩]) (.ops [⟨(some 24), none, .fieldAddr 0 (T 7)⟩, ⟨(some 25), none, .load1 (T 24)⟩, ⟨(some 26), none, .mov (T 9)⟩, ⟨(some 27), none, .plain (.call { callee := .builtin .min, args := #[(T 25), (T 26)], argTypes := #[3, 3] }) 3⟩, ⟨(some 28), none, .fieldAddr 1 (T 7)⟩, ⟨(some 29), none, .load1 (T 28)⟩, ⟨(some 30), none, .mov (T 9)⟩, ⟨(some 31), none, .plain (.call { callee := .builtin .max, args := #[(T 29), (T 30)], argTypes := #[3, 3] }) 3⟩, ⟨(some 32), none, .build #[(0, 1), (1, 1)] [(.int .i64 (0)), (.int .i64 (0))] [0, 1] [(T 27), (T 31)]⟩, ⟨none, none, .store 2 (T 7) (T 32)⟩]))) (.ops [⟨(some 15), none, .mov (T 8)⟩, ⟨(some 16), none, .int2 .add (T 15) (.const (.int .i64 (1)))⟩, ⟨(some 8), none, .mov (T 16)⟩])))))) (.seq (.ops [⟨(some 33), none, .loadN 2 (T 7)⟩, ⟨none, none, .store 2 (T 6) (T 33)⟩]) .ret))))
theorem fok38 : FnOk Try.prog 38 34 s38 [.cellN 6 2] := ⟨Try.f38, _, Try.func38, rfl, Try.ntmps38, by kernel_rfl, by kernel_rfl⟩
theorem boundsRef_c (hn : 10010 ≤ n) (hr : h.next + 100 < far) {fv vv sv l : Value} {Y : MY} (hy : YardR h fv vv sv Y) (hf : faultN Y = 0) (he : truths Y ≠ []) (hl : TruthsL h l Y.nf (refTruths Y)) {v : Nat} (hv : v < Y.nv) :
    call n (.func (.func 38) #[] #[]) [.agg ⟨[fv, vv, sv]⟩, l, .int .i64 (v : Int)] h = some (.agg ⟨[.int .i64 (loN (fun t => blueN t (Y.q v) Y.nf) (truths Y)), .int .i64 (hiN (fun t => blueN t (Y.q v) Y.nf) (truths Y))]⟩, h) := by
  obtain ⟨n, rfl⟩ : ∃ p, n = p + 1 := ⟨n - 1, by omega⟩
  have hG := good_of hf
  obtain ⟨v1, v2⟩ := hG.v v hv
  have hsz := hG.sz.1
  have hb : ∀ t, t ∈ truths Y → 0 ≤ blueN t (Y.q v) Y.nf ∧ blueN t (Y.q v) Y.nf ≤ 900 := fun t ht => by
    obtain ⟨b1, b2⟩ := blueN_bound (b := t) (q := Y.q v) (n := Y.nf) (by omega) (truths_range hf ht) (fun j hj => v2 j (by omega)) Y.nf (Nat.le_refl _)
    omega
  rw [← ref_lo hf he (val := fun t => blueN t (Y.q v) Y.nf) fun t ht => by have := hb t ht; omega, ← ref_hi hf he (val := fun t => blueN t (Y.q v) Y.nf) fun t ht => by have := hb t ht; omega]
  refine call_plain0 fok38 rfl rfl (by simp) rfl ?_
  have hy := hy.shut
  have hl := hl.mono (g := h.shutAll) fun _ _ _ _ _ h => h
  have hr : h.shutAll.next + 100 < far := hr
  have hfl : h.shutAll.floor ≤ h.shutAll.next := Nat.le_refl _
  generalize h.shutAll = h at hy hl hr hfl
  have hlen := refTruths_len hf
  simp only [s38, W_seq, W_ops]
  refine ops_box (cs := [fv, vv, sv]) (by omega) rfl hy.one fun g1 hx1 => ?_
  have n1 := hx1.next
  have f1 := hx1.floor
  refine ops_alloc (by omega) rfl fun g2 hx2 => ?_
  have n2 := hx2.next
  have f2 := hx2.floor
  simp only [rn0, rn1, rn2, rn3, rn4, rn5, rn6, rn7, rn8, if_true, if_false, Nat.le_refl, true_and, and_true, decide_true, decide_false, Bool.not_true, Bool.not_false, reduceIte, Nat.reduceEqDiff, Nat.reduceAdd, Nat.reduceMul, Nat.reduceSub, Nat.reduceLeDiff, Nat.reduceLT, build_range]
  refine step_new (vs := [.int .i64 1099511627776, .int .i64 (-1)]) (by omega) (by omega) rfl (by simp only [rn0, rn1, rn2, rn3, rn4, rn5, rn6, rn7, rn8, if_true, if_false, Nat.le_refl, true_and, and_true, decide_true, decide_false, Bool.not_true, Bool.not_false, reduceIte, Nat.reduceEqDiff, Nat.reduceAdd, Nat.reduceMul, Nat.reduceSub, Nat.reduceLeDiff, Nat.reduceLT]; rfl) rfl rfl rfl fun g3 hx3 => ?_
  have n3 := hx3.next
  have f3 := hx3.floor
  have s3 : Sub All h g3 := hx1.sub.trans (hx2.sub.trans hx3.sub)
  have r1 := (hx1.row.mono hx2.sub).mono hx3.sub
  have hres : g3.get g1.next = some (.row [.int .i64 0, .int .i64 0] true 0) := hx3.sub _ _ _ _ trivial hx2.get
  simp only [rn0, rn1, rn2, rn3, rn4, rn5, rn6, rn7, rn8, if_true, if_false, Nat.le_refl, true_and, and_true, decide_true, decide_false, Bool.not_true, Bool.not_false, reduceIte, Nat.reduceEqDiff, Nat.reduceAdd, Nat.reduceMul, Nat.reduceSub, Nat.reduceLeDiff, Nat.reduceLT]
  refine W_loop (refTruths Y).length (fun k f g ms => (Keep g2.next g3 g ∧ g.get g2.next = some (.row [.int .i64 (minN 1099511627776 (fun i => blueN ((refTruths Y).getD i fun _ => 0) (Y.q v) Y.nf) k), .int .i64 (maxN (-1) (fun i => blueN ((refTruths Y).getD i fun _ => 0) (Y.q v) Y.nf) k)] true 0) ∧ g.next = g3.next) ∧ ms = [] ∧
    f 1 = l ∧ f 2 = .int .i64 (v : Int) ∧ f 3 = .pointer (some ⟨h.next, 0, none⟩) ∧ f 6 = .pointer (some ⟨g1.next, 0, none⟩) ∧ f 7 = .pointer (some ⟨g2.next, 0, none⟩) ∧ f 8 = .int .i64 (k : Int)) (by simp; omega) ?_ ?_ ?_
  · simp only [rn0, rn1, rn2, rn3, rn4, rn5, rn6, rn7, rn8, if_true, if_false, Nat.le_refl, true_and, and_true, decide_true, decide_false, Bool.not_true, Bool.not_false, reduceIte, Nat.reduceEqDiff, Nat.reduceAdd, Nat.reduceMul, Nat.reduceSub, Nat.reduceLeDiff, Nat.reduceLT]
    exact ⟨⟨Keep.refl, hx3.get⟩, rfl⟩
  · rintro k f g ms hk ⟨⟨st, go, gn⟩, rfl, p1, p2, p3, p6, p7, p8⟩
    have hk' : (k : Int) < ((refTruths Y).length : Int) := by omega
    have hw : wrapF .i64 ((k : Int) + 1) = ((k + 1 : Nat) : Int) := by rw [wrap_in (by omega) (by omega)]; rfl
    have hfg := st.floor
    have sg : Sub All h g := fun i cs w gr t hg => st.sub _ _ _ _ (by have := AHeap.lt_of_get hg; omega) (s3 _ _ _ _ t hg)
    obtain ⟨r, q1, q2⟩ := hl.mono sg
    have w1 := (r1.keep st (by omega)).whole (n := 3) rfl
    have eb := blue_c (n := n) (h := g) (at_ := v) (nb := Y.nf) (b := (refTruths Y).getD k fun _ => 0) (by omega) (by omega) (hy.mono sg) (q2 k hk) (by omega) hv (by omega) (refTruths_range hf (refTruths_at hk)) (fun j hj => v2 j (by omega))
    have rg : Row g g2.next _ := ⟨_, _, go⟩
    have hmin : min (minN 1099511627776 (fun i => blueN ((refTruths Y).getD i fun _ => 0) (Y.q v) Y.nf) k) (blueN ((refTruths Y).getD k fun _ => 0) (Y.q v) Y.nf) = minN 1099511627776 (fun i => blueN ((refTruths Y).getD i fun _ => 0) (Y.q v) Y.nf) (k + 1) := rfl
    have hmax : max (maxN (-1) (fun i => blueN ((refTruths Y).getD i fun _ => 0) (Y.q v) Y.nf) k) (blueN ((refTruths Y).getD k fun _ => 0) (Y.q v) Y.nf) = maxN (-1) (fun i => blueN ((refTruths Y).getD i fun _ => 0) (Y.q v) Y.nf) (k + 1) := rfl
    simp only [rn0, rn1, rn2, rn3, rn4, rn5, rn6, rn7, rn8, if_true, if_false, Nat.le_refl, true_and, and_true, decide_true, decide_false, Bool.not_true, Bool.not_false, reduceIte, Nat.reduceEqDiff, Nat.reduceAdd, Nat.reduceMul, Nat.reduceSub, Nat.reduceLeDiff, Nat.reduceLT, p1, p2, p3, p6, p7, p8, Cells.len q1, hk']
    refine W_draw All ?_
    simp only [rn0, rn1, rn2, rn3, rn4, rn5, rn6, rn7, rn8, if_true, if_false, Nat.le_refl, true_and, and_true, decide_true, decide_false, Bool.not_true, Bool.not_false, reduceIte, Nat.reduceEqDiff, Nat.reduceAdd, Nat.reduceMul, Nat.reduceSub, Nat.reduceLeDiff, Nat.reduceLT, p1, p2, p3, p6, p7, p8, w1, Cells.idx q1 hk, Cells.ld q1 hk Nat.zero_lt_one, eb, rg.ld, Nat.zero_add, List.getElem?_cons_zero, List.getElem?_cons_succ, valN_tmp, Nat.reduceLT, hmin, hmax, build_range]
    refine step_store (vs := [.int .i64 (minN 1099511627776 (fun i => blueN ((refTruths Y).getD i fun _ => 0) (Y.q v) Y.nf) (k + 1)), .int .i64 (maxN (-1) (fun i => blueN ((refTruths Y).getD i fun _ => 0) (Y.q v) Y.nf) (k + 1))]) rfl go (by omega) (by omega) rfl rfl rfl (by simp) fun g4 hs4 => ?_
    rw [splice2] at hs4
    have n4 := hs4.next
    simp only [rn0, rn1, rn2, rn3, rn4, rn5, rn6, rn7, rn8, if_true, if_false, Nat.le_refl, true_and, and_true, decide_true, decide_false, Bool.not_true, Bool.not_false, reduceIte, Nat.reduceEqDiff, Nat.reduceAdd, Nat.reduceMul, Nat.reduceSub, Nat.reduceLeDiff, Nat.reduceLT, p1, p2, p3, p6, p7, p8, hw]
    exact ⟨st.trans hs4.keep, hs4.get, by omega⟩
  · rintro f g ms ⟨⟨st, go, gn⟩, rfl, p1, p2, p3, p6, p7, p8⟩
    have hfg := st.floor
    have sg : Sub All h g := fun i cs w gr t hg => st.sub _ _ _ _ (by have := AHeap.lt_of_get hg; omega) (s3 _ _ _ _ t hg)
    obtain ⟨r, q1, q2⟩ := hl.mono sg
    have w2 := (show Row g g2.next _ from ⟨_, _, go⟩).whole (n := 2) rfl
    have hres' := st.sub _ _ _ _ (by omega) hres
    simp only [rn0, rn1, rn2, rn3, rn4, rn5, rn6, rn7, rn8, if_true, if_false, Nat.le_refl, true_and, and_true, decide_true, decide_false, Bool.not_true, Bool.not_false, reduceIte, Nat.reduceEqDiff, Nat.reduceAdd, Nat.reduceMul, Nat.reduceSub, Nat.reduceLeDiff, Nat.reduceLT, p1, p2, p3, p6, p7, p8, Cells.len q1, Int.lt_irrefl, w2]
    refine step_store (vs := [.int .i64 (minN 1099511627776 (fun i => blueN ((refTruths Y).getD i fun _ => 0) (Y.q v) Y.nf) (refTruths Y).length), .int .i64 (maxN (-1) (fun i => blueN ((refTruths Y).getD i fun _ => 0) (Y.q v) Y.nf) (refTruths Y).length)]) rfl hres' (by omega) (by omega) rfl rfl rfl (by simp) fun g4 hs4 => ?_
    rw [splice2] at hs4
    simp only [rn0, rn1, rn2, rn3, rn4, rn5, rn6, rn7, rn8, if_true, if_false, Nat.le_refl, true_and, and_true, decide_true, decide_false, Bool.not_true, Bool.not_false, reduceIte, Nat.reduceEqDiff, Nat.reduceAdd, Nat.reduceMul, Nat.reduceSub, Nat.reduceLeDiff, Nat.reduceLT, p6, hs4.row.whole (n := 2) rfl]
end Go.Vm.Vat

namespace Go.Vm.Vat
open Go.Proofs
set_option linter.unusedSimpArgs false
set_option linter.unusedVariables false
set_option maxRecDepth 10000
variable {n : Nat} {h : AHeap}

def s62 : SCode := (.seq (.ops [⟨(some 1), none, .box (T 0)⟩, ⟨(some 2), none, .mov (.const (.bool false))⟩]) (.seq (.ops [⟨(some 3), none, .loadN 3 (T 1)⟩, ⟨(some 4), none, .call (.func 23) [(T 3)]⟩, ⟨(some 5), none, .mov (T 4)⟩, ⟨(some 6), (some (5, true)), .loadN 3 (T 1)⟩, ⟨(some 7), (some (5, true)), .call (.func 29) [(T 6)]⟩, ⟨(some 8), (some (5, true)), .int2 .eql (T 7) (.const (.int .i64 (0)))⟩, ⟨(some 9), none, .pick (T 5) (T 8) (.const (.bool false))⟩, ⟨(some 2), none, .mov (T 9)⟩]) .ret))
theorem fok62 : FnOk Try.prog 62 10 s62 [.tmp 2] := ⟨Try.f62, _, Try.func62, rfl, Try.ntmps62, by kernel_rfl, by kernel_rfl⟩
theorem ready_c (hn : 10010 ≤ n) (hr : h.next + 100 < far) {fv vv sv : Value} {Y : MY} (hy : YardR h fv vv sv Y) :
    call n (.func (.func 62) #[] #[]) [.agg ⟨[fv, vv, sv]⟩] h = some (.bool (decide (Thin Y ∧ faultN Y = 0)), h) := by
  obtain ⟨n, rfl⟩ : ∃ p, n = p + 1 := ⟨n - 1, by omega⟩
  refine call_plain0 fok62 rfl rfl (by simp) rfl ?_
  have hy := hy.shut
  have hr : h.shutAll.next + 100 < far := hr
  generalize h.shutAll = h at hy hr
  simp only [s62, W_seq, W_ops]
  refine ops_box (cs := [fv, vv, sv]) (by omega) rfl hy.one fun g1 hx1 => ?_
  have n1 := hx1.next
  have hy1 := hy.mono hx1.sub
  have w1 := hx1.row.whole (n := 3) rfl
  have ht := thin_c (n := n) (h := g1) (by omega) (by omega) hy1
  have ef := faultL_c (n := n) (h := g1) (by omega) (by omega) hy1
  by_cases hT : Thin Y
  · by_cases hf : faultN Y = 0
    · simp only [rn0, rn1, rn2, rn3, rn4, rn5, rn6, rn7, rn8, if_true, if_false, Nat.le_refl, true_and, and_true, decide_true, decide_false, Bool.not_true, Bool.not_false, reduceIte, Nat.reduceEqDiff, Nat.reduceAdd, Nat.reduceMul, Nat.reduceSub, Nat.reduceLeDiff, Nat.reduceLT, w1, ht, hT, ef, hf, and_self]
    · simp only [rn0, rn1, rn2, rn3, rn4, rn5, rn6, rn7, rn8, if_true, if_false, Nat.le_refl, true_and, and_true, decide_true, decide_false, Bool.not_true, Bool.not_false, reduceIte, Nat.reduceEqDiff, Nat.reduceAdd, Nat.reduceMul, Nat.reduceSub, Nat.reduceLeDiff, Nat.reduceLT, w1, ht, hT, ef, hf, and_false]
  · simp only [rn0, rn1, rn2, rn3, rn4, rn5, rn6, rn7, rn8, if_true, if_false, Nat.le_refl, true_and, and_true, decide_true, decide_false, Bool.not_true, Bool.not_false, reduceIte, Nat.reduceEqDiff, Nat.reduceAdd, Nat.reduceMul, Nat.reduceSub, Nat.reduceLeDiff, Nat.reduceLT, w1, ht, hT, false_and]
/-- an unsigned byte, as an integer -/
def run8 (other : AHeap → Option (Value × AHeap)) (a : Value) (h : AHeap) : Option (Value × AHeap) :=
  match a with
  | .int .u8 a => some (.int .i64 (IntKind.wrap .i64 a), h)
  | _ => other h
theorem p_conv8 {N : Nat} {f : Fr} {x : Operand} {ty : TypeId} : plainF Try.prog N (.convert 5 3 x) ty f h = run8 (plainF Try.prog N (.convert 5 3 x) ty f) (valN N f x) h := by
  unfold run8
  split
  · rename_i a e1
    unfold plainF
    have : allB (fun x => plainV (valN N f x)) (Op.convert 5 3 x).operands.toList = true := by simp [Op.operands, allB, e1, plainV, plainE, plainCell]
    rw [this]
    have e : pureRun Try.prog (execOp (valN N f) (bare (.convert 5 3 x) ty)) = some (.value (.int .i64 (IntKind.wrap .i64 a))) := by
      show pureRun Try.prog (convert 5 3 (valN N f x) >>= fun a => pure (Next.value a)) = _
      rw [pureRun_bind, e1]
      have hc : pureRun Try.prog (convert 5 3 (.int .u8 a)) = some (.int .i64 (IntKind.wrap .i64 a)) := by
        unfold convert
        rw [pureRun_bind, pr_under Try.underlying5, Option.bind_some, pureRun_bind, pr_under Try.underlying3]
        rfl
      rw [hc]; rfl
    rw [e]
    rfl
  · rfl
theorem r_8 {other : AHeap → Option (Value × AHeap)} {k : Nat} (hk : k < 256) : run8 other (.int .u8 (k : Int)) h = some (.int .i64 (k : Int), h) := by
  simp only [run8]
  rw [IntWalk.i64_in _ (by omega)]
theorem wf8 {a : Int} (h : (Lit.int .u8 a).wf = true) : ∃ k : Nat, a = k ∧ k < 256 := by
  simp only [Lit.wf, Bool.and_eq_true, decide_eq_true_eq] at h
  have h1 : (IntKind.u8).min = 0 := rfl
  have h2 : (IntKind.u8).max = 255 := rfl
  rw [h1, h2] at h
  exact ⟨a.toNat, by omega, by omega⟩
/-- a branch whose ends are the same -/
theorem cond_merge {X : Cx} {p : Bool} {A : SCode} {K : Fr → AHeap → List Nat → Prop} {Q : WPost} {f : Fr} {m : List Nat} (R : Fr → AHeap → List Nat → Prop) (h1 : p = true → W X A (thenQ R Q) f h m) (h2 : p = false → R f h m) (h3 : ∀ f h m, R f h m → K f h m) :
    condW X (.bool p) A .skip (thenQ K Q) f h m := by
  cases p with
  | true =>
    rw [cond_true']
    refine W_mono A _ _ (fun e f h m hq => ?_) f h m (h1 rfl)
    cases e with
    | norm => exact h3 _ _ _ hq
    | exit i => exact hq
    | ret => exact hq
  | false => rw [cond_false', W_skip]; exact h3 _ _ _ (h2 rfl)
theorem cond_merge' {X : Cx} {p : Bool} {A : SCode} {Q : WPost} {f : Fr} {m : List Nat} (R : Fr → AHeap → List Nat → Prop) (h1 : p = true → W X A (thenQ R Q) f h m) (h2 : p = false → R f h m) (h3 : ∀ f h m, R f h m → Q .norm f h m) :
    condW X (.bool p) A .skip Q f h m := by
  cases p with
  | true =>
    rw [cond_true']
    refine W_mono A _ _ (fun e f h m hq => ?_) f h m (h1 rfl)
    cases e with
    | norm => exact h3 _ _ _ hq
    | exit i => exact hq
    | ret => exact hq
  | false => rw [cond_false', W_skip]; exact h3 _ _ _ (h2 rfl)
theorem lo_mem {val : (Nat → Int) → Int} {L : List (Nat → Int)} (hL : L ≠ []) : ∃ t, t ∈ L ∧ val t = loN val L := by
  apply Classical.byContradiction
  intro hn
  have h1 : loN val L + 1 ≤ loN val L := (le_loN hL).2 fun t ht => by
    have := (le_loN (val := val) hL).1 (Int.le_refl (loN val L)) t ht
    have hne : val t ≠ loN val L := fun e => hn ⟨t, ht, e⟩
    omega
  omega
theorem hi_mem {val : (Nat → Int) → Int} {L : List (Nat → Int)} (hL : L ≠ []) : ∃ t, t ∈ L ∧ val t = hiN val L := by
  apply Classical.byContradiction
  intro hn
  have h1 : hiN val L ≤ hiN val L - 1 := (hiN_le hL).2 fun t ht => by
    have := (hiN_le (val := val) hL).1 (Int.le_refl (hiN val L)) t ht
    have hne : val t ≠ hiN val L := fun e => hn ⟨t, ht, e⟩
    omega
  omega
end Go.Vm.Vat
