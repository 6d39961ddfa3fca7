/- Texts of the proofs of this seat, put together: StSets, StSetsI, StWrong, StSmall, StSmall2, StRef4, StLeaveP, StSome, StFirstL, StWiderP, StWiderM, StWiderL, StMoreP, StMoreL, StSmelled. -/
import Derived.Test.YtffgdpkogokdhaaPk15

namespace Go.Vm.St
open Go.Proofs Go.Vm.Vat
set_option linter.unusedSimpArgs false
set_option linter.unusedVariables false
set_option maxRecDepth 10000
variable {n : Nat} {h : AHeap}
theorem build_none1 {a : Value} : buildSl 1 0 [a] [] h [] = newSlice h [] 0 0 0 := id rfl
def s132 : SCode := (.seq (.ops [⟨(some 2), none, .mov (.const (.slice none 0 0))⟩]) (.seq (.seq (.ops [⟨(some 3), none, .mov (T 0)⟩, ⟨(some 4), none, .eqNil true (T 3) (.const (.slice none 0 0))⟩]) (.cond (T 4) (.seq (.ops [⟨(some 2), none, .mov (.const (.slice none 0 0))⟩]) .ret) .skip)) (.seq (.ops [⟨(some 5), none, .bslice 1 0 [(.int .i64 (0))] [] []⟩, ⟨(some 6), none, .mov (T 0)⟩, ⟨(some 7), none, .append 1 8 (T 5) (T 6)⟩, ⟨(some 2), none, .mov (T 7)⟩]) .ret)))
theorem fok132 : FnOk Try.prog 132 8 s132 [.tmp 2] := ⟨Try.f132, _, Try.func132, rfl, Try.ntmps132, by kernel_rfl, by kernel_rfl⟩
theorem clone_c (hn : 1 ≤ n) (hr : h.next + 3 < far) {v : Value} {m : Nat} {a : Nat → Int} (hv : Ints h v m a) (hm : m ≤ 1000) :
    ∃ v' h', call n (.func (.func 132) #[] #[]) [v] h = some (v', h') ∧ Ints h' v' m a ∧ oneCell v' = true ∧ (∀ i, i < h.next → h'.get i = h.get i) ∧ h.next ≤ h'.next ∧ h'.next ≤ h.next + 2 ∧ h'.floor = h.floor ∧ ∀ x k c, v' = .slice (some x) k c → h.next ≤ x.block ∧ x.block < h'.next := by
  obtain ⟨n, rfl⟩ : ∃ p, n = p + 1 := ⟨n - 1, by omega⟩
  refine call_any0 fok132 rfl rfl (by simp) ?_
  obtain ⟨xv, kv, ev, lv⟩ := Cells.list (by omega) hv
  subst ev
  cases xv with
  | none =>
    obtain ⟨a', cap, e, hsp, h0 | ⟨b, o, cs, w, gr, e2, _⟩⟩ := hv
    · subst h0
      simp only [rn0, rn1, rn2, reduceIte, Nat.reduceEqDiff, Nat.reduceAdd, Nat.reduceMul, Nat.reduceSub, Nat.reduceLeDiff, Nat.reduceLT, s132, x_eqNil, eqNil_yes]
      exact ⟨⟨none, 0, rfl, fun x e => (by cases e), .inl rfl⟩, rfl, (fun _ _ => by first | trivial | rfl), by omega, fun x k c e => by cases e⟩
    · subst e2; cases e
  | some xa =>
    simp only [rn0, rn1, rn2, reduceIte, Nat.reduceEqDiff, Nat.reduceAdd, Nat.reduceMul, Nat.reduceSub, Nat.reduceLeDiff, Nat.reduceLT, s132, x_eqNil, eqNil_no, build_none1]
    refine step_slice (by omega) rfl fun g1 hx1 => ?_
    have n1 := hx1.next
    have f1 := hx1.floor
    have hap := append_none (h := g1) (s := 1) (bytes := 8) (b := h.next) ⟨_, _, rfl⟩ (cells_sub hx1.sub hv (by omega) lv) flatL_len (by simp [maxBytes]; omega) (by simp [maxBytes]; omega)
    by_cases hm0 : m = 0
    · rw [if_pos hm0] at hap
      subst hm0
      simp only [rn0, rn1, rn2, reduceIte, Nat.reduceEqDiff, Nat.reduceAdd, Nat.reduceMul, Nat.reduceSub, Nat.reduceLeDiff, Nat.reduceLT, hap]
      exact ⟨⟨some ⟨h.next, 0, none⟩, 0, rfl, fun x e => (by cases e; rfl), .inl rfl⟩, rfl, fun i hi => hx1.old i hi, by omega, by omega, by omega, fun x k c e => by cases e; exact ⟨Nat.le_refl _, by show h.next < g1.next; omega⟩⟩
    · rw [if_neg hm0] at hap
      simp only [rn0, rn1, rn2, reduceIte, Nat.reduceEqDiff, Nat.reduceAdd, Nat.reduceMul, Nat.reduceSub, Nat.reduceLeDiff, Nat.reduceLT, hap]
      refine step_slice (by omega) flatL_one fun g2 hx2 => ?_
      have n2 := hx2.next
      have f2 := hx2.floor
      simp only [rn0, rn1, rn2, reduceIte, Nat.reduceEqDiff, Nat.reduceAdd, Nat.reduceMul, Nat.reduceSub, Nat.reduceLeDiff, Nat.reduceLT]
      refine ⟨cells_row hx2.row fun k j hk hj => flatL_get (c := fun k _ => .int .i64 (a k)) hk hj, rfl, fun i hi => by rw [hx2.old i (by omega), hx1.old i hi], by omega, by omega, by omega, fun x k c e => by cases e; exact ⟨by show h.next ≤ g1.next; omega, by show g1.next < g2.next; omega⟩⟩
def chooseSV (ps pm py pn pc : Nat) : Value := .func (.func 131) ⟨[]⟩ ⟨[.pointer (some ⟨ps, 0, none⟩), .pointer (some ⟨pm, 0, none⟩), .pointer (some ⟨py, 0, none⟩), .pointer (some ⟨pn, 0, none⟩), .pointer (some ⟨pc, 0, none⟩)]⟩
structure SetS (ps pm py pn pc N M : Nat) (yv : Value) (g : AHeap) : Prop where
  y : Row g py [yv]
  m : Row g pm [.int .i64 (M : Int)]
  n : Row g pn [.int .i64 (N : Int)]
  c : Row g pc [chooseSV ps pm py pn pc]
theorem rowAt {g g' : AHeap} {q : Nat} {cs : List Value} (hr : Row g q cs) (he : g'.get q = g.get q) : Row g' q cs := by
  obtain ⟨w, gr, e⟩ := hr
  exact ⟨w, gr, by rw [he]; exact e⟩
theorem row_lt {g : AHeap} {q : Nat} {cs : List Value} (hr : Row g q cs) : q < g.next := by
  obtain ⟨w, gr, e⟩ := hr
  exact AHeap.lt_of_get e
theorem SetS.same {ps pm py pn pc N M : Nat} {yv : Value} {g g' : AHeap} (hs : SetS ps pm py pn pc N M yv g) (hy : g'.get py = g.get py) (hm : g'.get pm = g.get pm) (hn : g'.get pn = g.get pn) (hc : g'.get pc = g.get pc) : SetS ps pm py pn pc N M yv g' :=
  ⟨rowAt hs.y hy, rowAt hs.m hm, rowAt hs.n hn, rowAt hs.c hc⟩
def bndS (K : Nat) : Nat → Nat
  | 0 => K + 4
  | d + 1 => 5 * (bndS K d + 3)
open Classical in
theorem find_map {N d : Nat} {P : List Int → Prop} {cur : List Int} {x : Int} {l : List (List Int)} : (l.map fun q => x :: q).find? (fun q => decide (P (cur ++ q))) = (l.find? fun q => decide (P ((cur ++ [x]) ++ q))).map fun q => x :: q := by
  rw [List.find?_map]
  congr 2
  funext q
  simp
def s131 : SCode := (.seq (.ops [⟨(some 7), none, .mov (.const (.bool false))⟩]) (.seq (.seq (.ops [⟨(some 9), none, .load1 (T 1)⟩, ⟨(some 10), none, .len (T 9)⟩, ⟨(some 11), none, .load1 (T 2)⟩, ⟨(some 12), none, .int2 .eql (T 10) (T 11)⟩]) (.cond (T 12) (.seq (.draw [⟨.rd, ⟨(some 13), none, .load1 (T 3)⟩⟩, ⟨.rd1, ⟨(some 14), none, .load1 (T 1)⟩⟩, ⟨.up, ⟨(some 15), none, .call (.func 132) [(T 14)]⟩⟩, ⟨.any, ⟨(some 16), none, .call (T 13) [(T 15)]⟩⟩, ⟨.free, ⟨(some 7), none, .mov (T 16)⟩⟩]) .ret) .skip)) (.seq (.seq (.ops [⟨(some 17), none, .mov (T 0)⟩, ⟨(some 8), none, .mov (T 17)⟩]) (.block 0 (.loop (.seq (.seq (.ops [⟨(some 18), none, .mov (T 8)⟩, ⟨(some 19), none, .load1 (T 4)⟩, ⟨(some 20), none, .int2 .lss (T 18) (T 19)⟩]) (.cond (T 20) .skip (.exit 0))) (.seq (.block 1 (.seq (.ops [⟨(some 23), none, .load1 (T 1)⟩, ⟨(some 24), none, .mov (T 8)⟩, ⟨(some 25), none, .bslice 1 1 [(.int .i64 (0))] [0] [(T 24)]⟩, ⟨(some 26), none, .append 1 8 (T 23) (T 25)⟩, ⟨none, none, .store 1 (T 1) (T 26)⟩]) (.seq (.seq (.ops [⟨(some 27), none, .load1 (T 5)⟩, ⟨(some 28), none, .mov (T 8)⟩, ⟨(some 29), none, .int2 .add (T 28) (.const (.int .i64 (1)))⟩, ⟨(some 30), none, .call (T 27) [(T 29)]⟩, ⟨(some 31), none, .not (T 30)⟩]) (.cond (T 31) (.seq (.ops [⟨(some 7), none, .mov (.const (.bool false))⟩]) .ret) .skip)) (.ops [⟨(some 32), none, .load1 (T 1)⟩, ⟨(some 33), none, .load1 (T 1)⟩, ⟨(some 34), none, .len (T 33)⟩, ⟨(some 35), none, .int2 .sub (T 34) (.const (.int .i64 (1)))⟩, ⟨(some 36), none, .slice 1 (T 32) none (some (T 35)) none⟩, ⟨none, none, .store 1 (T 1) (T 36)⟩])))) (.ops [⟨(some 21), none, .mov (T 8)⟩, ⟨(some 22), none, .int2 .add (T 21) (.const (.int .i64 (1)))⟩, ⟨(some 8), none, .mov (T 22)⟩])))))) (.seq (.ops [⟨(some 7), none, .mov (.const (.bool true))⟩]) .ret))))
theorem fok131 : FnOk Try.prog 131 37 s131 [.tmp 7] := ⟨Try.f131, _, Try.func131, rfl, Try.ntmps131, by kernel_rfl, by kernel_rfl⟩
open Classical in
set_option maxHeartbeats 2000000 in
theorem chooseS_c {P : List Int → Prop} {N M K N0 fl B B3 ps pm py pn pc : Nat} {yv : Value} {g0 : AHeap} (Kf : List Int → AHeap → Prop)
    (hN : N ≤ 5) (hM : M ≤ 5) (hfl : fl ≤ B) (hps : B ≤ ps ∧ ps < B3) (hpy : B ≤ py ∧ py < B3 ∧ py ≠ ps) (hpc : B ≤ pc ∧ pc < B3 ∧ pc ≠ ps) (hpm : pm < B) (hpn : pn < B) (hyv : eqV yv yv = true) (hN0 : 10 ≤ N0)
    (hY : ∀ n g l v, N0 ≤ n → Ints g v l.length (atL l) → oneCell v = true → (∀ x k c, v = .slice (some x) k c → B3 ≤ x.block ∧ x.block < g.next) → l.length = M → (∀ i, i < B → g.get i = g0.get i) → B3 ≤ g.next → g.floor = fl → g.next + K < far →
      (P l → ∃ g', call n yv [v] g = some (.bool false, g') ∧ Kf l g' ∧ g'.floor = fl ∧ g.next ≤ g'.next ∧ g'.next ≤ g.next + K) ∧
      (¬ P l → ∃ g', call n yv [v] g = some (.bool true, g') ∧ (∀ i, i < g.next → g'.get i = g.get i) ∧ g'.floor = fl ∧ g.next ≤ g'.next ∧ g'.next ≤ g.next + K)) :
    ∀ (d a n : Nat) (g : AHeap) (v : Value) (cur : List Int) (r : Option (List Int)), r = (combs N d a).find? (fun l => decide (P (cur ++ l))) → cur.length + d = M → N0 + d + 1 ≤ n → SetS ps pm py pn pc N M yv g → g.get ps = some (.row [v] true 0) → SetR B3 g v cur → (∀ i, i < B → g.get i = g0.get i) → B3 ≤ g.next → g.floor = fl → g.next + bndS K d < far →
      ∃ g', call n (chooseSV ps pm py pn pc) [.int .i64 (a : Int)] g = some (.bool r.isNone, g') ∧ g'.floor = fl ∧ g.next ≤ g'.next ∧ g'.next ≤ g.next + bndS K d ∧
        (∀ l, r = some l → Kf (cur ++ l) g') ∧ (r = none → (∀ i, i < B → g'.get i = g0.get i) ∧ SetS ps pm py pn pc N M yv g' ∧ ∃ v', g'.get ps = some (.row [v'] true 0) ∧ SetR B3 g' v' cur) := by
  intro d
  induction d with
  | zero =>
    intro a n g v cur r hr0 hlen hn hit hsg hset hbase hB3 hfg hr
    obtain ⟨n, rfl⟩ : ∃ p, n = p + 1 := ⟨n - 1, by omega⟩
    have hbn : bndS K 0 = K + 4 := rfl
    rw [hbn] at hr ⊢
    have hcM : (cur.length : Int) = (M : Int) := by omega
    have hi := hset.ints
    have rps : Row g ps [v] := ⟨_, _, hsg⟩
    obtain ⟨v1, g1, e1, i1, o1, old1, u1, m1, f1, b1⟩ := clone_c (n := n) (h := g) (by omega) (by omega) hi (by omega)
    have sub1 : Sub All g g1 := AHeap.subOf old1
    have hr1 : r = if P cur then some [] else none := by
      rw [hr0]
      simp only [combs, List.find?_cons, List.find?_nil, List.append_nil]
      by_cases c : P cur
      · rw [decide_eq_true c, if_pos c]
      · rw [decide_eq_false c, if_neg c]
    obtain ⟨y1, y2⟩ := hY n g1 cur v1 (by omega) i1 o1 (fun x k c e => ⟨by have := (b1 x k c e).1; omega, (b1 x k c e).2⟩) (by omega) (fun i hi => by rw [old1 i (by omega)]; exact hbase i hi) (by omega) (by omega) (by omega)
    by_cases c : P cur
    · obtain ⟨g2, e2, k2, f2, u2, m2⟩ := y1 c
      rw [if_pos c] at hr1
      suffices hs : ∃ v' g', call (n + 1) (chooseSV ps pm py pn pc) [.int .i64 (a : Int)] g = some (v', g') ∧ v' = .bool false ∧ g' = g2 by
        obtain ⟨_, _, e, rfl, rfl⟩ := hs
        rw [hr1]
        exact ⟨_, e, f2, by omega, by omega, fun l hl => by cases hl; rw [List.append_nil]; exact k2, fun hl => by cases hl⟩
      refine call_any (xs := []) (ys := [.pointer (some ⟨ps, 0, none⟩), .pointer (some ⟨pm, 0, none⟩), .pointer (some ⟨py, 0, none⟩), .pointer (some ⟨pn, 0, none⟩), .pointer (some ⟨pc, 0, none⟩)]) fok131 rfl rfl (by simp) ?_
      simp only [rn0, rn1, rn2, reduceIte, Nat.reduceEqDiff, Nat.reduceAdd, Nat.reduceMul, Nat.reduceSub, Nat.reduceLeDiff, Nat.reduceLT, s131, List.cons_append, List.nil_append, rps.ld, hit.m.ld, Nat.zero_add, List.getElem?_cons_zero, Cells.len hi, hcM]
      refine W_draw All ?_
      simp only [rn0, rn1, rn2, reduceIte, Nat.reduceEqDiff, Nat.reduceAdd, Nat.reduceMul, Nat.reduceSub, Nat.reduceLeDiff, Nat.reduceLT, rps.ld, hit.y.ld, Nat.zero_add, List.getElem?_cons_zero, hyv, e1, e2]
      exact ⟨⟨u1, sub1⟩, u2⟩
    · obtain ⟨g2, e2, k2, f2, u2, m2⟩ := y2 c
      rw [if_neg c] at hr1
      suffices hs : ∃ v' g', call (n + 1) (chooseSV ps pm py pn pc) [.int .i64 (a : Int)] g = some (v', g') ∧ v' = .bool true ∧ g' = g2 by
        obtain ⟨_, _, e, rfl, rfl⟩ := hs
        rw [hr1]
        have hold : ∀ i, i < g.next → _ := fun i hi => (k2 i (by omega)).trans (old1 i hi)
        refine ⟨_, e, f2, by omega, by omega, fun l hl => (by cases hl), fun _ => ⟨fun i hi => by rw [hold i (by omega)]; exact hbase i hi, hit.same (hold _ (by omega)) (hold _ (by omega)) (hold _ (by omega)) (hold _ (by omega)), v, by rw [hold _ (by omega)]; exact hsg, hset.old fun x k c e hlt => hold _ hlt⟩⟩
      refine call_any (xs := []) (ys := [.pointer (some ⟨ps, 0, none⟩), .pointer (some ⟨pm, 0, none⟩), .pointer (some ⟨py, 0, none⟩), .pointer (some ⟨pn, 0, none⟩), .pointer (some ⟨pc, 0, none⟩)]) fok131 rfl rfl (by simp) ?_
      simp only [rn0, rn1, rn2, reduceIte, Nat.reduceEqDiff, Nat.reduceAdd, Nat.reduceMul, Nat.reduceSub, Nat.reduceLeDiff, Nat.reduceLT, s131, List.cons_append, List.nil_append, rps.ld, hit.m.ld, Nat.zero_add, List.getElem?_cons_zero, Cells.len hi, hcM]
      refine W_draw All ?_
      simp only [rn0, rn1, rn2, reduceIte, Nat.reduceEqDiff, Nat.reduceAdd, Nat.reduceMul, Nat.reduceSub, Nat.reduceLeDiff, Nat.reduceLT, rps.ld, hit.y.ld, Nat.zero_add, List.getElem?_cons_zero, hyv, e1, e2]
      exact ⟨⟨u1, sub1⟩, u2⟩
  | succ d ih =>
    intro a n g v cur r hr0 hlen hn hit hsg hset hbase hB3 hfg hr
    obtain ⟨n, rfl⟩ : ∃ p, n = p + 1 := ⟨n - 1, by omega⟩
    have hbn : bndS K (d + 1) = 5 * (bndS K d + 3) := rfl
    rw [hbn] at hr ⊢
    obtain ⟨X, hX⟩ : ∃ X, X = bndS K d := ⟨_, rfl⟩
    rw [← hX] at hr ih ⊢
    have hcM : ¬ (cur.length : Int) = (M : Int) := by omega
    let part : Nat → List (List Int) := fun k => (combs N d (a + k + 1)).map fun l => ((a + k : Nat) : Int) :: l
    have hpart : combs N (d + 1) a = (List.range (N - a)).flatMap part := rfl
    obtain ⟨m, hm⟩ : ∃ m, m = N - a := ⟨_, rfl⟩
    rw [hpart, ← hm] at hr0
    suffices hs : ∃ v' g', call (n + 1) (chooseSV ps pm py pn pc) [.int .i64 (a : Int)] g = some (v', g') ∧ v' = .bool r.isNone ∧ g'.floor = fl ∧ g.next ≤ g'.next ∧ g'.next ≤ g.next + 5 * (X + 3) ∧
        (∀ l, r = some l → Kf (cur ++ l) g') ∧ (r = none → (∀ i, i < B → g'.get i = g0.get i) ∧ SetS ps pm py pn pc N M yv g' ∧ ∃ v', g'.get ps = some (.row [v'] true 0) ∧ SetR B3 g' v' cur) by
      obtain ⟨_, g', e, rfl, q⟩ := hs
      exact ⟨g', e, q⟩
    have hi := hset.ints
    have rps : Row g ps [v] := ⟨_, _, hsg⟩
    refine call_any (xs := []) (ys := [.pointer (some ⟨ps, 0, none⟩), .pointer (some ⟨pm, 0, none⟩), .pointer (some ⟨py, 0, none⟩), .pointer (some ⟨pn, 0, none⟩), .pointer (some ⟨pc, 0, none⟩)]) fok131 rfl rfl (by simp) ?_
    simp only [rn0, rn1, rn2, reduceIte, Nat.reduceEqDiff, Nat.reduceAdd, Nat.reduceMul, Nat.reduceSub, Nat.reduceLeDiff, Nat.reduceLT, s131, List.cons_append, List.nil_append, rps.ld, hit.m.ld, Nat.zero_add, List.getElem?_cons_zero, Cells.len hi, hcM]
    refine W_loop m (fun k f g1 ms => ((∃ v1, g1.get ps = some (.row [v1] true 0) ∧ SetR B3 g1 v1 cur) ∧ SetS ps pm py pn pc N M yv g1 ∧ (∀ i, i < B → g1.get i = g0.get i) ∧ g1.floor = fl ∧ g.next ≤ g1.next ∧ g1.next ≤ g.next + k * (X + 3) ∧ ((List.range k).flatMap part).find? (fun l => decide (P (cur ++ l))) = none) ∧ ms = [] ∧ f 1 = .pointer (some ⟨ps, 0, none⟩) ∧ f 4 = .pointer (some ⟨pn, 0, none⟩) ∧ f 5 = .pointer (some ⟨pc, 0, none⟩) ∧ f 8 = .int .i64 ((a + k : Nat) : Int)) (by simp; omega) ?_ ?_ ?_
    · simp only [rn0, rn1, rn2, reduceIte, Nat.reduceEqDiff, Nat.reduceAdd, Nat.reduceMul, Nat.reduceSub, Nat.reduceLeDiff, Nat.reduceLT, Nat.add_zero]
      exact ⟨⟨v, hsg, hset⟩, hit, hbase, hfg, by rw [Nat.zero_mul]; exact Nat.le_refl _, by simp⟩
    · rintro k f g1 ms hk ⟨⟨⟨v1, hs1, hset1⟩, it1, hb1, fl1, up1, nx1, hno⟩, rfl, p1, p4, p5, p8⟩
      have hlt : ((a + k : Nat) : Int) < (N : Int) := by omega
      have hw : wrapF .i64 (((a + k : Nat) : Int) + 1) = ((a + k + 1 : Nat) : Int) := by rw [wrap_in (by omega) (by omega)]; rfl
      have hk5 : k * (X + 3) + (X + 3) ≤ 5 * (X + 3) := by
        rw [← Nat.succ_mul]
        exact Nat.mul_le_mul_right _ (by omega)
      generalize hkx : k * (X + 3) = kx at nx1 hk5
      have rp1 : Row g1 ps [v1] := ⟨_, _, hs1⟩
      simp only [rn0, rn1, rn2, reduceIte, Nat.reduceEqDiff, Nat.reduceAdd, Nat.reduceMul, Nat.reduceSub, Nat.reduceLeDiff, Nat.reduceLT, p1, p4, p5, p8, rp1.ld, it1.n.ld, Nat.zero_add, List.getElem?_cons_zero, hlt, sl_int]
      refine step_slice (by omega) rfl fun g2 hx2 => ?_
      have n2 := hx2.next
      have f2 := hx2.floor
      obtain ⟨v3, g3, e3, hset3, o3, u3, m3, f3, old3, nb3⟩ := hset1.push (g1 := g2) (x := ((a + k : Nat) : Int)) (by omega) (by omega) (by omega) hx2 (by omega)
      have nob : ∀ i, i < B3 → NoB v1 i := fun i hi b k c e => by have := (hset1.block e).1; omega
      have nob3 : ∀ i, i < B3 → NoB v3 i := fun i hi b k c e => by have := (hset3.block e).1; omega
      have s3 : g3.get ps = some (.row [v1] true 0) := by rw [old3 _ (by omega) (nob _ hps.2)]; exact hs1
      simp only [rn0, rn1, rn2, reduceIte, Nat.reduceEqDiff, Nat.reduceAdd, Nat.reduceMul, Nat.reduceSub, Nat.reduceLeDiff, Nat.reduceLT, p1, p4, p5, p8, e3]
      refine step_store (b := ps) (off := 0) (vs := [v3]) rfl s3 (by omega) (by omega) (by cases v3 <;> first | rfl | cases o3) (by simp [allB, o3]) rfl (by simp) fun g4 hs4 => ?_
      rw [splice1] at hs4
      have n4 := hs4.next
      have f4 := hs4.floor
      have low4 : ∀ i, i < B3 → i ≠ ps → g4.get i = g1.get i := fun i hi hne => by rw [hs4.old i hne, old3 i (by omega) (nob i hi)]
      have it4 : SetS ps pm py pn pc N M yv g4 := it1.same (low4 _ hpy.2.1 hpy.2.2) (low4 _ (by omega) (by omega)) (low4 _ (by omega) (by omega)) (low4 _ hpc.2.1 hpc.2.2)
      have hset4 : SetR B3 g4 v3 (cur ++ [((a + k : Nat) : Int)]) := hset3.old fun x k c e hl => hs4.old _ (by have := (hset3.block e).1; omega)
      have hb4 : ∀ i, i < B → g4.get i = g0.get i := fun i hi => by rw [low4 i (by omega) (by omega)]; exact hb1 i hi
      obtain ⟨r', hr'⟩ : ∃ r', r' = (combs N d (a + k + 1)).find? (fun l => decide (P ((cur ++ [((a + k : Nat) : Int)]) ++ l))) := ⟨_, rfl⟩
      obtain ⟨g5, e5, f5, u5, m5, kf5, hn5⟩ := ih (a + k + 1) n g4 v3 _ r' hr' (by simp; omega) (by omega) it4 hs4.get hset4 hb4 (by omega) (by omega) (by omega)
      have hfp : (part k).find? (fun l => decide (P (cur ++ l))) = r'.map fun q => ((a + k : Nat) : Int) :: q := by rw [hr']; exact find_map (N := N) (d := d)
      have hrow4 : Row g4 pc [chooseSV ps pm py pn pc] := it4.c
      cases hrr : r' with
      | some l =>
        rw [hrr] at e5 hfp
        obtain ⟨rest, hrest⟩ := part_flat part hk
        have hfind : r = some (((a + k : Nat) : Int) :: l) := by
          rw [hr0, hrest, List.find?_append, hno, List.find?_append, hfp]
          rfl
        have hz : Option.isNone (some l) = false := rfl
        rw [hz] at e5
        have hz' : r.isNone = false := by rw [hfind]; rfl
        simp only [rn0, rn1, rn2, reduceIte, Nat.reduceEqDiff, Nat.reduceAdd, Nat.reduceMul, Nat.reduceSub, Nat.reduceLeDiff, Nat.reduceLT, p1, p4, p5, p8, hrow4.ld, Nat.zero_add, List.getElem?_cons_zero, hw, e5]
        rw [hz']
        refine ⟨rfl, by omega, by omega, by omega, fun q hq => ?_, fun q => by rw [hfind] at q; cases q⟩
        rw [hfind] at hq
        cases hq
        have := kf5 l hrr
        rw [List.append_assoc] at this
        exact this
      | none =>
        rw [hrr] at e5 hfp
        obtain ⟨b5, it5, v5, s5, set5⟩ := hn5 hrr
        have hz : Option.isNone (none : Option (List Int)) = true := rfl
        rw [hz] at e5
        obtain ⟨v6, e6, set6, o6⟩ := set5.cut
        have rp5 : Row g5 ps [v5] := ⟨_, _, s5⟩
        have hl5 : (cur ++ [((a + k : Nat) : Int)]).length = cur.length + 1 := by simp
        have i5 := set5.ints
        rw [hl5] at i5
        have hw5 : wrapF .i64 (((cur.length + 1 : Nat) : Int) - 1) = (cur.length : Int) := by rw [wrap_in (by omega) (by omega)]; omega
        have e6' : sliceA 1 (Option.isSome (some (T 35))) g5 v5 none (some (.int .i64 (cur.length : Int))) none = some (v6, g5) := e6
        simp only [rn0, rn1, rn2, reduceIte, Nat.reduceEqDiff, Nat.reduceAdd, Nat.reduceMul, Nat.reduceSub, Nat.reduceLeDiff, Nat.reduceLT, p1, p4, p5, p8, hrow4.ld, Nat.zero_add, List.getElem?_cons_zero, hw, e5, rp5.ld, Cells.len i5, hw5, Option.map_none, Option.map_some, e6']
        refine step_store (b := ps) (off := 0) (vs := [v6]) rfl s5 (by omega) (by omega) (by cases v6 <;> first | rfl | cases o6) (by simp [allB, o6]) rfl (by simp) fun g7 hs7 => ?_
        rw [splice1] at hs7
        have n7 := hs7.next
        have f7 := hs7.floor
        simp only [rn0, rn1, rn2, reduceIte, Nat.reduceEqDiff, Nat.reduceAdd, Nat.reduceMul, Nat.reduceSub, Nat.reduceLeDiff, Nat.reduceLT, p1, p4, p5, p8, hw]
        have hk1 : (k + 1) * (X + 3) = kx + (X + 3) := by rw [Nat.succ_mul, hkx]
        rw [hk1]
        refine ⟨⟨⟨v6, hs7.get, set6.old fun x k c e hl => hs7.old _ (by have := (set6.block e).1; omega)⟩, it5.same (hs7.old _ hpy.2.2) (hs7.old _ (by omega)) (hs7.old _ (by omega)) (hs7.old _ hpc.2.2), fun i hi => by rw [hs7.old i (by omega)]; exact b5 i hi, by omega, by omega, by omega, ?_⟩, rfl⟩
        rw [List.range_succ, List.flatMap_append, List.find?_append, hno]
        show Option.or none ((([k] : List Nat).flatMap part).find? _) = none
        rw [show ([k] : List Nat).flatMap part = part k by simp, hfp]
        rfl
    · rintro f g1 ms ⟨⟨⟨v1, hs1, hset1⟩, it1, hb1, fl1, up1, nx1, hno⟩, rfl, p1, p4, p5, p8⟩
      have hlt : ¬ ((a + m : Nat) : Int) < (N : Int) := by omega
      have hk5 : m * (X + 3) ≤ 5 * (X + 3) := Nat.mul_le_mul_right _ (by omega)
      have hrn : r = none := by rw [hr0]; exact hno
      have hz : r.isNone = true := by rw [hrn]; rfl
      simp only [rn0, rn1, rn2, reduceIte, Nat.reduceEqDiff, Nat.reduceAdd, Nat.reduceMul, Nat.reduceSub, Nat.reduceLeDiff, Nat.reduceLT, p1, p4, p5, p8, it1.n.ld, Nat.zero_add, List.getElem?_cons_zero, hlt]
      rw [hz]
      have hA := And.intro fl1 (And.intro up1 (And.intro (show g1.next ≤ g.next + 5 * (X + 3) by omega) (And.intro (show ∀ l, r = some l → Kf (cur ++ l) g1 from fun l hl => by rw [hrn] at hl; cases hl) (show r = none → _ from fun _ => And.intro hb1 (And.intro it1 (show ∃ v', g1.get ps = some (.row [v'] true 0) ∧ SetR B3 g1 v' cur from ⟨v1, hs1, hset1⟩))))))
      first | exact hA | exact ⟨rfl, hA⟩

def s130 : SCode := (.seq (.ops [⟨(some 3), none, .box (T 0)⟩]) (.seq (.ops [⟨(some 4), none, .alloc [(.slice none 0 0)]⟩]) (.seq (.ops [⟨(some 5), none, .alloc [.nilFunc]⟩]) (.seq (.ops [⟨(some 6), none, .mkfunc 131 [] [(T 4), (T 1), (T 3), (T 2), (T 5)]⟩, ⟨none, none, .store 1 (T 5) (T 6)⟩]) (.ops [⟨(some 7), none, .load1 (T 5)⟩, ⟨(some 8), none, .call (T 7) [(.const (.int .i64 (0)))]⟩])))))
theorem fok130 : FnOk Try.prog 130 9 s130 [] := ⟨Try.f130, _, Try.func130, rfl, Try.ntmps130, by kernel_rfl, by kernel_rfl⟩
open Classical in
set_option maxHeartbeats 1000000 in
theorem setsIter_c {P : List Int → Prop} {N M K N0 pm pn : Nat} {yv : Value} {g : AHeap} {r : Option (List Int)} (Kf : List Int → AHeap → Prop) (hr0 : r = (combs N M 0).find? (fun l => decide (P l)))
    (hN : N ≤ 5) (hM : M ≤ 5) (hm : Row g pm [.int .i64 (M : Int)]) (hnr : Row g pn [.int .i64 (N : Int)]) (hyo : oneCell yv = true) (hyv : eqV yv yv = true) (hfl : g.floor ≤ g.next) (hN0 : 10 ≤ N0) (hn : N0 + 10 ≤ n)
    (hY : ∀ n g1 l v, N0 ≤ n → Ints g1 v l.length (atL l) → oneCell v = true → (∀ x k c, v = .slice (some x) k c → g.next + 3 ≤ x.block ∧ x.block < g1.next) → l.length = M → (∀ i, i < g.next → g1.get i = g.get i) → g.next + 3 ≤ g1.next → g1.floor = g.floor → g1.next + K < far →
      (P l → ∃ g', call n yv [v] g1 = some (.bool false, g') ∧ Kf l g' ∧ g'.floor = g.floor ∧ g1.next ≤ g'.next ∧ g'.next ≤ g1.next + K) ∧
      (¬ P l → ∃ g', call n yv [v] g1 = some (.bool true, g') ∧ (∀ i, i < g1.next → g'.get i = g1.get i) ∧ g'.floor = g.floor ∧ g1.next ≤ g'.next ∧ g'.next ≤ g1.next + K))
    (hr : g.next + 10 + bndS K M < far) :
    ∃ v g', call n (.func (.func 130) ⟨[]⟩ ⟨[.pointer (some ⟨pm, 0, none⟩), .pointer (some ⟨pn, 0, none⟩)]⟩) [yv] g = some (v, g') ∧ g'.floor = g.floor ∧ g.next ≤ g'.next ∧ g'.next ≤ g.next + 3 + bndS K M ∧
      (∀ l, r = some l → Kf l g') ∧ (r = none → ∀ i, i < g.next → g'.get i = g.get i) := by
  obtain ⟨n, rfl⟩ : ∃ p, n = p + 1 := ⟨n - 1, by omega⟩
  have lpm := row_lt hm
  have lpn := row_lt hnr
  refine call_any (xs := []) (ys := [.pointer (some ⟨pm, 0, none⟩), .pointer (some ⟨pn, 0, none⟩)]) fok130 rfl rfl (by simp) ?_
  simp only [s130, List.cons_append, List.nil_append, W_seq, W_ops]
  refine ops_box (cs := [yv]) (by omega) (by simp only [rn0, rn1, rn2, reduceIte, Nat.reduceEqDiff, Nat.reduceAdd, Nat.reduceMul, Nat.reduceSub, Nat.reduceLeDiff, Nat.reduceLT]; cases yv <;> first | rfl | cases hyo) (by simp [allB, hyo]) fun g1 hx1 => ?_
  have n1 := hx1.next
  have f1 := hx1.floor
  simp only [rn0, rn1, rn2, reduceIte, Nat.reduceEqDiff, Nat.reduceAdd, Nat.reduceMul, Nat.reduceSub, Nat.reduceLeDiff, Nat.reduceLT]
  refine step_row (cs := [nilS]) (by omega) rfl rfl fun g2 hx2 => ?_
  have n2 := hx2.next
  have f2 := hx2.floor
  simp only [rn0, rn1, rn2, reduceIte, Nat.reduceEqDiff, Nat.reduceAdd, Nat.reduceMul, Nat.reduceSub, Nat.reduceLeDiff, Nat.reduceLT]
  refine step_row (cs := [.nilFunc]) (by omega) rfl rfl fun g3 hx3 => ?_
  have n3 := hx3.next
  have f3 := hx3.floor
  have e1 : g1.next = g.next + 1 := n1
  have e2 : g2.next = g.next + 2 := by omega
  simp only [rn0, rn1, rn2, reduceIte, Nat.reduceEqDiff, Nat.reduceAdd, Nat.reduceMul, Nat.reduceSub, Nat.reduceLeDiff, Nat.reduceLT]
  refine step_store (b := g2.next) (gr := 0) (vs := [chooseSV g1.next pm g.next pn g2.next]) rfl hx3.get (by omega) (by omega) rfl rfl rfl (by simp) fun g4 hs => ?_
  have n4 := hs.next
  have f4 := hs.floor
  have es : splice [Value.nilFunc] 0 [chooseSV g1.next pm g.next pn g2.next] = [chooseSV g1.next pm g.next pn g2.next] := rfl
  rw [es] at hs
  have old4 : ∀ i, i < g.next → g4.get i = g.get i := fun i hi => by rw [hs.old i (by omega), hx3.old i (by omega), hx2.old i (by omega), hx1.old i hi]
  have hit : SetS g1.next pm g.next pn g2.next N M yv g4 := ⟨⟨true, 0, by rw [hs.old _ (by omega), hx3.old _ (by omega), hx2.old _ (by omega)]; exact hx1.get⟩, rowAt hm (old4 _ lpm), rowAt hnr (old4 _ lpn), ⟨true, 0, hs.get⟩⟩
  have hsg : g4.get g1.next = some (.row [nilS] true 0) := by rw [hs.old _ (by omega), hx3.old _ (by omega)]; exact hx2.get
  have hr0' : r = (combs N M 0).find? (fun l => decide (P ([] ++ l))) := hr0
  obtain ⟨g5, e5, f5, u5, m5, k5, q5⟩ := chooseS_c (P := P) (N := N) (M := M) (K := K) (N0 := N0) (fl := g.floor) (B := g.next) (B3 := g.next + 3) (ps := g1.next) (pm := pm) (py := g.next) (pn := pn) (pc := g2.next) (yv := yv) (g0 := g) Kf hN hM hfl (by omega) (by omega) (by omega) lpm lpn hyv hN0
    hY M 0 n g4 nilS [] r hr0' (by simp) (by omega) hit hsg (.inl ⟨rfl, rfl⟩) old4 (by omega) (by omega) (by omega)
  have hl : loadCell g4 (.pointer (some ⟨g2.next, 0, none⟩)) = some (chooseSV g1.next pm g.next pn g2.next) := by rw [hs.row.ld]; rfl
  have e5' : call n (chooseSV g1.next pm g.next pn g2.next) [.int .i64 0] g4 = some (.bool r.isNone, g5) := e5
  simp only [rn0, rn1, rn2, reduceIte, Nat.reduceEqDiff, Nat.reduceAdd, Nat.reduceMul, Nat.reduceSub, Nat.reduceLeDiff, Nat.reduceLT, hl, e5']
  exact ⟨_, rfl, f5, by omega, by omega, fun l h => k5 l h, fun h => (q5 h).1⟩
def s124 : SCode := (.seq (.ops [⟨(some 2), none, .box (T 0)⟩, ⟨(some 3), none, .box (T 1)⟩, ⟨(some 4), none, .mov (.const .nilFunc)⟩]) (.seq (.ops [⟨(some 5), none, .mkfunc 130 [] [(T 3), (T 2)]⟩, ⟨(some 4), none, .mov (T 5)⟩]) .ret))
theorem fok124 : FnOk Try.prog 124 6 s124 [.tmp 4] := ⟨Try.f124, _, Try.func124, rfl, Try.ntmps124, by kernel_rfl, by kernel_rfl⟩
theorem allSets_c (hn : 1 ≤ n) (hr : h.next + 3 < far) (a b : Int) :
    ∃ h', call n (.func (.func 124) #[] #[]) [.int .i64 a, .int .i64 b] h = some (.func (.func 130) ⟨[]⟩ ⟨[.pointer (some ⟨h.next + 1, 0, none⟩), .pointer (some ⟨h.next, 0, none⟩)]⟩, h') ∧ Row h' h.next [.int .i64 a] ∧ Row h' (h.next + 1) [.int .i64 b] ∧ (∀ i, i < h.next → h'.get i = h.get i) ∧ h'.next = h.next + 2 ∧ h'.floor = h.floor := by
  obtain ⟨n, rfl⟩ : ∃ p, n = p + 1 := ⟨n - 1, by omega⟩
  suffices hs : ∃ v h', call (n + 1) (.func (.func 124) #[] #[]) [.int .i64 a, .int .i64 b] h = some (v, h') ∧ v = .func (.func 130) ⟨[]⟩ ⟨[.pointer (some ⟨h.next + 1, 0, none⟩), .pointer (some ⟨h.next, 0, none⟩)]⟩ ∧ Row h' h.next [.int .i64 a] ∧ Row h' (h.next + 1) [.int .i64 b] ∧ (∀ i, i < h.next → h'.get i = h.get i) ∧ h'.next = h.next + 2 ∧ h'.floor = h.floor by
    obtain ⟨v, h', e, rfl, hx⟩ := hs
    exact ⟨h', e, hx⟩
  refine call_any0 fok124 rfl rfl (by simp) ?_
  simp only [s124, W_seq, W_ops]
  refine ops_box (cs := [.int .i64 a]) (by omega) rfl rfl fun g1 hx1 => ?_
  have n1 := hx1.next
  have f1 := hx1.floor
  refine ops_box (cs := [.int .i64 b]) (by omega) rfl rfl fun g2 hx2 => ?_
  have n2 := hx2.next
  have f2 := hx2.floor
  have r2 := hx2.row
  rw [n1] at r2
  simp only [rn0, rn1, rn2, reduceIte, Nat.reduceEqDiff, Nat.reduceAdd, Nat.reduceMul, Nat.reduceSub, Nat.reduceLeDiff, Nat.reduceLT, n1]
  exact ⟨hx1.row.mono hx2.sub, r2, fun i hi => by rw [hx2.old i (by omega), hx1.old i hi], by omega, by omega⟩

def wrS (S : MS) (t : Nat → Int) (i : Nat) : Prop := ¬ RightS S t i
noncomputable def wrongL (S : MS) (t : Nat → Int) : List Int := pickL (wrS S t) S.ns
def allE (S : MS) : List (Nat → Int) := enumB (uLo S) (uHi S) (numU S) 0 fun _ => 0
noncomputable def allW (S : MS) : List (List Int) := (allE S).map (wrongL S)
noncomputable def wrongStep (S : MS) (s : List (List Int)) (c : Nat → Int) : List (List Int) × Bool := (s ++ [wrongL S c], true)
theorem runL_wrong {S : MS} : ∀ (l : List (Nat → Int)) (s : List (List Int)), runL (wrongStep S) s l = (s ++ l.map (wrongL S), true)
  | [], s => by simp [runL]
  | x :: l, s => by
    have e : runL (wrongStep S) s (x :: l) = runL (wrongStep S) (s ++ [wrongL S x]) l := rfl
    rw [e, runL_wrong l]; simp
theorem wrong_len {S : MS} {t : Nat → Int} : (wrongL S t).length ≤ S.ns := pick_len _
structure WrG (B : Nat) (g : AHeap) (v : Value) (s : List (List Int)) (R : Nat → Value) : Prop where
  c : GrowC B g v 1 s.length (fun k _ => R k)
  r : ∀ k, k < s.length → Ints g (R k) (s.getD k []).length (atL (s.getD k [])) ∧ ∀ x m c, R k = .slice (some x) m c → B ≤ x.block ∧ x.block < g.next ∧ NeB v x.block
theorem WrG.old {B : Nat} {g g' : AHeap} {v : Value} {s : List (List Int)} {R : Nat → Value} (hw : WrG B g v s R) (ho : ∀ i, B ≤ i → i < g.next → g'.get i = g.get i) (hn : g.next ≤ g'.next) : WrG B g' v s R :=
  ⟨GrowC.at' hw.c fun a k c e => ho _ (hw.c.block e).1 (hw.c.block e).2, fun k hk => ⟨cells_at (hw.r k hk).1 fun a m c e hl => ho _ ((hw.r k hk).2 a m c e).1 hl, fun x m c e => by
    obtain ⟨q1, q2, q3⟩ := (hw.r k hk).2 x m c e
    exact ⟨q1, by omega, q3⟩⟩⟩
theorem WrG.push {B : Nat} {g g1 : AHeap} {v wv : Value} {s : List (List Int)} {R : Nat → Value} {w : List Int} (hw : WrG B g v s R) (hB : g.floor ≤ B) (hf : g.next + 2 < far) (hBn : B ≤ g.next) (hx : New g g1 [wv] 0) (hi : Ints g wv w.length (atL w)) (ho : oneCell wv = true)
    (hb : ∀ x m c, wv = .slice (some x) m c → B ≤ x.block ∧ x.block < g.next ∧ NeB v x.block) (hl : s.length ≤ g.next) :
    ∃ v' g2, appendA 1 24 g1 v (.slice (some ⟨g.next, 0, none⟩) 1 1) = some (v', g2) ∧ WrG B g2 v' (s ++ [w]) (fun k => if k = s.length then wv else R k) ∧ oneCell v' = true ∧ v' = .slice (some ⟨g.next + 1, 0, none⟩) (s.length + 1) unk ∧ g2.next = g.next + 2 ∧ g2.floor = g.floor ∧ (∀ i, i < g.next → NeB v i → g2.get i = g.get i) := by
  have hlen : (s ++ [w]).length = s.length + 1 := by simp
  have hg : GrowC B g v 1 s.length (fun k _ => if k = s.length then wv else R k) := growC_congr hw.c fun k j hk hj => by
    have : ¬ k = s.length := by omega
    simp only [this, if_false]
  obtain ⟨g2, e, gv, n2, f2, o2', u2⟩ := grow_push3 (bytes := 24) hg hB hf hBn hx rfl (by simp [allB, ho]) (fun j hj => by
    obtain rfl : j = 0 := by omega
    simp) (by simp [maxBytes, far] at *; omega) (by simp [maxBytes, far] at *; omega)
  refine ⟨_, g2, e, ⟨by rw [hlen]; exact gv, fun k hk => ?_⟩, rfl, rfl, n2, f2, o2'⟩
  have fresh : ∀ i, i < g.next → NeB (.slice (some ⟨g.next + 1, 0, none⟩) (s.length + 1) unk) i := fun i hi b m c e => by cases e; show i ≠ g.next + 1; omega
  by_cases c : k = s.length
  · subst c
    have hlast : (s ++ [w]).getD s.length [] = w := by rw [List.getD_eq_getElem?_getD, List.getElem?_append_right (Nat.le_refl _)]; simp
    simp only [if_true, hlast]
    exact ⟨cells_at hi fun a m c e hl => o2' _ hl (hb a m c e).2.2, fun x m c e => ⟨(hb x m c e).1, by have := (hb x m c e).2.1; omega, fresh _ (hb x m c e).2.1⟩⟩
  · have hk' : k < s.length := by omega
    simp only [c, if_false]
    rw [List.getD_eq_getElem?_getD, List.getElem?_append_left hk', ← List.getD_eq_getElem?_getD]
    obtain ⟨q1, q2⟩ := hw.r k hk'
    exact ⟨cells_at q1 fun a m c e hl => o2' _ hl (q2 a m c e).2.2, fun x m c e => ⟨(q2 x m c e).1, by have := (q2 x m c e).2.1; omega, fresh _ (q2 x m c e).2.1⟩⟩
theorem WrG.nil {B : Nat} {g : AHeap} : WrG B g nilS [] (fun _ => nilS) := ⟨.nil, fun k hk => absurd hk (Nat.not_lt_zero _)⟩
def AllR (g : AHeap) (v : Value) (s : List (List Int)) : Prop := ∃ R : Nat → Value, Cells g v 1 s.length (fun k _ => R k) ∧ ∀ k, k < s.length → Ints g (R k) (s.getD k []).length (atL (s.getD k []))
theorem AllR.mono {g g' : AHeap} {v : Value} {s : List (List Int)} (ha : AllR g v s) (hs : Sub All g g') : AllR g' v s := by
  obtain ⟨R, h1, h2⟩ := ha
  exact ⟨R, h1.mono hs, fun k hk => Cells.mono (h2 k hk) hs⟩
structure JW (h2 : AHeap) (p : Nat) (s : List (List Int)) (g : AHeap) : Prop where
  old : ∀ i, i < h2.next → i ≠ p → g.get i = h2.get i
  tv : ∃ v R, g.get p = some (.row [v] true 0) ∧ WrG (h2.next + 2) g v s R
  up : h2.next + 2 ≤ g.next
  len : s.length ≤ g.next
def OwnW (h2 : AHeap) (p : Nat) (g : AHeap) (q : Nat) : Prop := h2.next ≤ q ∧ q ≠ p ∧ q ≠ h2.next + 1 ∧ ∀ v, g.get p = some (.row [v] true 0) → NeB v q
noncomputable def s96 : SCode := (.seq (.ops [⟨(some 1), none, .box (T 0)⟩, ⟨(some 2), none, .mov (.const (.slice none 0 0))⟩]) (.seq (.ops [⟨(some 3), none, .alloc [(.slice none 0 0)]⟩]) (.seq (.seq (.ops [⟨(some 8), none, .loadN 8 (T 1)⟩, ⟨(some 9), none, .call (.func 108) [(T 8)]⟩]) (.block 0 (.range (T 9) #[10] (rangeOf Try.f96 0).1 (rangeOf Try.f96 0).2))) (.seq (.ops [⟨(some 34), none, .load1 (T 3)⟩, ⟨(some 2), none, .mov (T 34)⟩]) .ret))))
theorem fok96 : FnOk Try.prog 96 35 s96 [.tmp 2] := ⟨Try.f96, _, Try.func96, rfl, Try.ntmps96, by kernel_rfl, by kernel_rfl⟩
def ra96_0 : SCode := (.ops [⟨(some 4), none, .alloc [(.int .i64 (0)), (.int .i64 (0)), (.int .i64 (0)), (.int .i64 (0)), (.int .i64 (0)), (.int .i64 (0)), (.int .i64 (0)), (.int .i64 (0)), (.int .i64 (0)), (.int .i64 (0)), (.int .i64 (0))]⟩, ⟨none, none, .store 11 (T 4) (T 10)⟩])
theorem raok96_0 : compCode Try.prog 35 (rangeOf Try.f96 0).1 = some ra96_0 := by kernel_rfl
def rb96_0 : SCode := (.block 1 (.seq (.ops [⟨(some 5), none, .mov (.const (.slice none 0 0))⟩]) (.seq (.seq (.ops [⟨(some 11), none, .fieldAddr 0 (T 1)⟩, ⟨(some 12), none, .fieldAddr 6 (T 11)⟩, ⟨(some 13), none, .load1 (T 12)⟩, ⟨(some 14), none, .len (T 13)⟩, ⟨(some 15), none, .mov (.const (.int .i64 (0)))⟩]) (.block 2 (.loop (.seq (.ops [⟨(some 16), none, .int2 .lss (T 15) (T 14)⟩]) (.seq (.cond (T 16) .skip (.exit 2)) (.seq (.block 3 (.seq (.ops [⟨(some 17), none, .mov (T 15)⟩, ⟨(some 18), none, .idxSl 3 (T 13) (T 15)⟩, ⟨(some 19), none, .loadN 3 (T 18)⟩, ⟨(some 7), none, .alloc [(.int .i64 (0)), (.int .i64 (0)), (.int .i64 (0))]⟩, ⟨(some 6), none, .mov (T 17)⟩, ⟨none, none, .store 3 (T 7) (T 19)⟩]) (.seq (.ops [⟨(some 20), none, .loadN 8 (T 1)⟩, ⟨(some 21), none, .loadN 11 (T 4)⟩, ⟨(some 22), none, .loadN 3 (T 7)⟩, ⟨(some 23), none, .call (.func 123) [(T 20), (T 21), (T 22)]⟩, ⟨(some 24), none, .not (T 23)⟩]) (.cond (T 24) (.ops [⟨(some 25), none, .mov (T 5)⟩, ⟨(some 26), none, .mov (T 6)⟩, ⟨(some 27), none, .bslice 1 1 [(.int .i64 (0))] [0] [(T 26)]⟩, ⟨(some 28), none, .append 1 8 (T 25) (T 27)⟩, ⟨(some 5), none, .mov (T 28)⟩]) .skip)))) (.ops [⟨(some 29), none, .int2 .add (T 15) (.const (.int .i64 (1)))⟩, ⟨(some 15), none, .mov (T 29)⟩]))))))) (.ops [⟨(some 30), none, .load1 (T 3)⟩, ⟨(some 31), none, .mov (T 5)⟩, ⟨(some 32), none, .bslice 1 1 [(.slice none 0 0)] [0] [(T 31)]⟩, ⟨(some 33), none, .append 1 24 (T 30) (T 32)⟩, ⟨none, none, .store 1 (T 3) (T 33)⟩]))))
theorem rbok96_0 : compCode Try.prog 35 (rangeOf Try.f96 0).2 = some rb96_0 := by kernel_rfl
set_option maxHeartbeats 4000000 in
theorem wrongAll_c (hn : 500 ≤ n) (hr : h.next + 600000 < far) (hfl : h.floor ≤ h.next) {wv vv sv : Value} {S : MS} (hy : SteepR h wv vv sv S) (hG : Good S) :
    ∃ v h', call n (.func (.func 96) #[] #[]) [.agg ⟨wkL S wv vv sv nilS⟩] h = some (v, h') ∧ AllR h' v (allW S) ∧ oneCell v = true ∧ (∀ i, i < h.next → h'.get i = h.get i) ∧ h.next ≤ h'.next ∧ h'.next ≤ h.next + 500000 ∧ h'.floor = h.floor := by
  obtain ⟨n, rfl⟩ : ∃ p, n = p + 1 := ⟨n - 1, by omega⟩
  refine call_any0 fok96 rfl rfl (by simp) ?_
  have hlenE := enum_len hG
  obtain ⟨_, _, _, _, _, z5, _⟩ := hG.sizes
  simp only [s96, W_seq, W_ops]
  refine ops_box (cs := wkL S wv vv sv nilS) (by omega) rfl (wk_one hy rfl) fun g1 hx1 => ?_
  have n1 := hx1.next
  have f1 := hx1.floor
  have e1 : g1.next = h.next + 1 := n1
  simp only [rn0, rn1, rn2, reduceIte, Nat.reduceEqDiff, Nat.reduceAdd, Nat.reduceMul, Nat.reduceSub, Nat.reduceLeDiff, Nat.reduceLT]
  refine step_row (cs := [nilS]) (by omega) rfl rfl fun g2 hx2 => ?_
  have n2 := hx2.next
  have f2 := hx2.floor
  have e2 : g2.next = h.next + 2 := by omega
  have w2 := (hx1.row.mono hx2.sub).whole (n := 8) rfl
  have old2 : ∀ i, i < h.next → g2.get i = h.get i := fun i hi => by rw [hx2.old i (by omega), hx1.old i hi]
  obtain ⟨g4, e4, hx4⟩ := allTruths_c (n := n) (h := g2) (cs := wkL S wv vv sv nilS) (by omega) (by omega) (wk_one hy rfl) rfl
  have n4 := hx4.next
  have f4 := hx4.floor
  rw [e1]
  simp only [rn0, rn1, rn2, reduceIte, Nat.reduceEqDiff, Nat.reduceAdd, Nat.reduceMul, Nat.reduceSub, Nat.reduceLeDiff, Nat.reduceLT, w2, e4]
  refine W_range' rfl (by omega) (by simp only [rn0, rn1, rn2, reduceIte, Nat.reduceEqDiff, Nat.reduceAdd, Nat.reduceMul, Nat.reduceSub, Nat.reduceLeDiff, Nat.reduceLT]; rfl) fun f0 hf0 ts hv h2 hl => ?_
  have c1 : f0 1 = .pointer (some ⟨h.next, 0, none⟩) := by rw [hf0]; simp only [rn0, rn1, rn2, reduceIte, Nat.reduceEqDiff, Nat.reduceAdd, Nat.reduceMul, Nat.reduceSub, Nat.reduceLeDiff, Nat.reduceLT]
  have c3 : f0 3 = .pointer (some ⟨h.next + 1, 0, none⟩) := by rw [hf0]; simp only [rn0, rn1, rn2, reduceIte, Nat.reduceEqDiff, Nat.reduceAdd, Nat.reduceMul, Nat.reduceSub, Nat.reduceLeDiff, Nat.reduceLT]
  clear hf0
  have nl := hl.next
  have fl := hl.floor
  have en : g4.next = h.next + 3 := by omega
  have hbase : ∀ i, i < h.next → h2.get i = h.get i := fun i hi => by rw [hl.old i (by omega), hx4.old i (by omega), old2 i hi]
  have hp2 : h2.get (h.next + 1) = some (.row [nilS] true 0) := by
    rw [hl.old _ (by omega), hx4.old _ (by omega)]; have := hx2.get; rw [e1] at this; exact this
  have hw2 : h2.get h.next = some (.row (wkL S wv vv sv nilS) true 0) := by
    rw [hl.old _ (by omega), hx4.old _ (by omega), hx2.old _ (by omega)]; exact hx1.get
  have hpw : Row h2 (h.next + 2) (wkL S wv vv sv nilS) := by
    have := hx4.row.mono hl.sub
    rw [e2] at this
    exact this
  have hloop := hl.loop
  have hmark := hl.mark
  rw [en] at hloop hmark
  rw [en]
  rw [en] at hl
  generalize hr0 : loopO _ ts _ _ _ _ = r at hloop ⊢
  have r1 : r.state = .ready := by rw [← hr0]; rfl
  have r2 : View 35 r.tmps f0 := by rw [← hr0]; exact hv
  have r3 : r.params = #[10] := by rw [← hr0]; rfl
  have r4 : compCode Try.prog 35 r.assign = some ra96_0 := by rw [← hr0]; exact raok96_0
  have r5 : compCode Try.prog 35 r.body = some rb96_0 := by rw [← hr0]; exact rbok96_0
  have r6 : leftBy r .norm = r := by rw [← hr0]; rfl
  clear hr0 hl hv
  have en2 : h2.next = h.next + 5 := by omega
  have hit := iter_c (Own := OwnW h2 (h.next + 1)) (wrongStep S) (JW h2 (h.next + 1)) (g := h2) (pw := h.next + 2) (K := 210) (N0 := 300) (n := n) (tv := nilS) (yv := .func (.yield (h.next + 4)) #[] #[]) [] hG hpw (hy.mono (AHeap.subOf hbase)) rfl rfl (by omega) (by omega) (by omega)
    (fun g' q hq => hq.2.2.1)
    (fun s g1 g' cs hj hs => by
      obtain ⟨v, R, t1, t2⟩ := hj.tv
      have hnx := hs.next
      exact ⟨fun i hi hne => by rw [hs.old i (by omega)]; exact hj.old i hi hne, ⟨v, R, by rw [hs.old _ (by omega)]; exact t1, t2.old (fun i hi _ => hs.old i (by omega)) (by omega)⟩, by have := hj.up; omega, by have := hj.len; omega⟩)
    (fun s g1 g' cs hj hx => by
      obtain ⟨v, R, t1, t2⟩ := hj.tv
      have := hj.up
      have hnx := hx.next
      exact ⟨fun i hi hne => by rw [hx.old i (by omega)]; exact hj.old i hi hne, ⟨v, R, by rw [hx.old _ (by omega)]; exact t1, t2.old (fun i hi h => hx.old i h) (by omega)⟩, by omega, by have := hj.len; omega⟩)
    (fun s g1 g' cs q hj hs ho => ⟨ho.1, ho.2.1, ho.2.2.1, fun v e => ho.2.2.2 v (by rw [← hs.old _ (by omega)]; exact e)⟩)
    (fun s g1 g' cs q hj hx ho => ⟨ho.1, ho.2.1, ho.2.2.1, fun v e => ho.2.2.2 v (by rw [← hx.old _ (by have := hj.up; omega)]; exact e)⟩)
    (fun s g1 g' cs hj hx hlt => ⟨by omega, by omega, by omega, fun v e => by
      obtain ⟨v', R, t1, t2⟩ := hj.tv
      rw [hx.old _ (by omega), t1] at e
      simp only [Option.some.injEq, AObj.row.injEq, and_true, List.cons.injEq] at e
      subst e
      exact neB_of t2.c (by right; omega)⟩)
    (fun g' ho hfg hup => ⟨⟨fun i hi _ => ho i hi, ⟨nilS, _, by rw [ho _ (by omega)]; exact hp2, .nil⟩, hup, Nat.zero_le _⟩, fun q hq _ hne => ⟨hq, by omega, hne, fun v e => by
      rw [ho _ (by omega), hp2] at e
      simp only [Option.some.injEq, AObj.row.injEq, and_true, List.cons.injEq] at e
      subst e
      intro b m c e'
      cases e'⟩⟩)
    (fun m g1 s c pu py pc U hm it hb hok hj hfg hr1 => by
      obtain ⟨m, rfl⟩ : ∃ p, m = p + 1 := ⟨m - 1, by omega⟩
      rw [call_yield]
      obtain ⟨v, R, hp, gr⟩ := hj.tv
      have hup := hj.up
      have hlen := hj.len
      have hloop1 : g1.get (h.next + 4) = some (.loop r) := by rw [hj.old _ (by omega) (by omega)]; exact hloop
      have hpb := AHeap.lt_of_get hb
      suffices key : ∃ e g', roundA Try.prog (call m) m (h.next + 4) [.agg ⟨tarr S c⟩] g1 = some (.bool (goesOn e), g') ∧ (e = .norm ∧ JW h2 (h.next + 1) (wrongStep S s c).1 g' ∧ (∀ q, h2.next ≤ q → q < g1.next → NeB v q → g'.get q = g1.get q) ∧ (∃ v', g'.get (h.next + 1) = some (.row [v'] true 0) ∧ ∀ q, q < g1.next → NeB v q → NeB v' q) ∧ g'.floor = h2.floor ∧ g1.next ≤ g'.next ∧ g'.next ≤ g1.next + 200) by
        obtain ⟨e, g', k1, rfl, k2, k3, ⟨v', k4, k5⟩, k6, k7, k8⟩ := key
        refine ⟨g', k1, k2, fun q cs hq ho => ?_, by rw [k3 _ (by omega) hpb (neB_of gr.c (by left; omega))]; exact hb, k6, k7, by omega⟩
        obtain ⟨o1, o2, o3, o4⟩ := ho
        have hlt : q < g1.next := by obtain ⟨w, gr, e⟩ := hq; exact AHeap.lt_of_get e
        have hne := o4 v hp
        refine ⟨by obtain ⟨w, gr, e⟩ := hq; exact ⟨w, gr, by rw [k3 q o1 hlt hne]; exact e⟩, o1, o2, o3, fun v2 e => ?_⟩
        rw [k4] at e
        simp only [Option.some.injEq, AObj.row.injEq, and_true, List.cons.injEq] at e
        subst e
        exact k5 q hlt hne
      refine round_run (f := f0) hloop1 r1 r2 (by rw [r3]; rfl) (by omega) r4 r5 ?_
      have hset : setFr f0 r.params.toList [.agg ⟨tarr S c⟩] = upd f0 10 (.agg ⟨tarr S c⟩) := by rw [r3]; rfl
      rw [hset]
      simp only [rn0, rn1, rn2, reduceIte, Nat.reduceEqDiff, Nat.reduceAdd, Nat.reduceMul, Nat.reduceSub, Nat.reduceLeDiff, Nat.reduceLT, ra96_0]
      refine step_new (vs := tarr S c) (by omega) (by omega) rfl (by simp only [rn0, rn1, rn2, reduceIte, Nat.reduceEqDiff, Nat.reduceAdd, Nat.reduceMul, Nat.reduceSub, Nat.reduceLeDiff, Nat.reduceLT]; rfl) tarr_one tarr_len rfl fun g2 hx2 => ?_
      have n2 := hx2.next
      have f2 := hx2.floor
      simp only [rn0, rn1, rn2, reduceIte, Nat.reduceEqDiff, Nat.reduceAdd, Nat.reduceMul, Nat.reduceSub, Nat.reduceLeDiff, Nat.reduceLT]
      refine ⟨by rw [hx2.old _ (by omega)]; exact hloop1, by omega, fun g3 hp3 => ?_⟩
      have n3 := hp3.next
      have f3 := hp3.floor
      have g3old : ∀ i, i < g1.next → i ≠ h.next + 4 → g3.get i = g1.get i := fun i hi hne => by rw [hp3.old i hne, hx2.old i hi]
      have g3b : ∀ i, i < h.next → g3.get i = h.get i := fun i hi => by rw [g3old i (by omega) (by omega), hj.old i (by omega) (by omega), hbase i hi]
      have hy3 := hy.mono (AHeap.subOf g3b)
      have hp3' : g3.get (h.next + 1) = some (.row [v] true 0) := by rw [g3old _ (by omega) (by omega)]; exact hp
      have rw3 : Row g3 h.next (wkL S wv vv sv nilS) := ⟨true, 0, by rw [g3old _ (by omega) (by omega), hj.old _ (by omega) (by omega)]; exact hw2⟩
      have rc3 : Row g3 g1.next (tarr S c) := by
        obtain ⟨w, gr, e⟩ := hx2.row
        exact ⟨w, gr, by rw [hp3.old _ (by omega)]; exact e⟩
      have hcu : InU S c := fun i hi => hok.1 i hi
      have l3 : g3.get (h.next + 4) = some (.loop { r with state := .busy }) := hp3.get
      simp only [rn0, rn1, rn2, reduceIte, Nat.reduceEqDiff, Nat.reduceAdd, Nat.reduceMul, Nat.reduceSub, Nat.reduceLeDiff, Nat.reduceLT, rb96_0, c1, c3, rw3.ld, wkg, Nat.zero_add, Nat.add_zero, Cells.len hy3.s]
      refine W_loop S.ns (fun k f g ms => (∃ x, (∀ i, i < g3.next → g.get i = g3.get i) ∧ g.floor = g3.floor ∧ g3.next ≤ g.next ∧ g.next ≤ g3.next + 3 * k ∧ GrowC g3.next g x 1 (pickL (wrS S c) k).length (fun i _ => .int .i64 (atL (pickL (wrS S c) k) i)) ∧ f 5 = x) ∧ ms = [] ∧ f 1 = .pointer (some ⟨h.next, 0, none⟩) ∧ f 3 = .pointer (some ⟨h.next + 1, 0, none⟩) ∧ f 4 = .pointer (some ⟨g1.next, 0, none⟩) ∧ f 13 = sv ∧ f 14 = .int .i64 (S.ns : Int) ∧ f 15 = .int .i64 (k : Int)) (by simp; omega) ?_ ?_ ?_
      · simp only [rn0, rn1, rn2, reduceIte, Nat.reduceEqDiff, Nat.reduceAdd, Nat.reduceMul, Nat.reduceSub, Nat.reduceLeDiff, Nat.reduceLT, c1, c3]
        first | exact ⟨⟨nilS, fun _ _ => trivial, by omega, .nil, rfl⟩, rfl⟩ | exact ⟨⟨nilS, fun _ _ => rfl, rfl, by omega, by omega, .nil, rfl⟩, rfl⟩ | exact ⟨nilS, fun _ _ => trivial, by omega, .nil, rfl⟩ | exact ⟨nilS, fun _ _ => trivial, .nil, rfl⟩ | trace_state
      · rintro k f g ms hk ⟨⟨x, ho, hfg', hup', hnx, gv, p5⟩, rfl, p1, p3, p4, p13, p14, p15⟩
        have hk' : (k : Int) < (S.ns : Int) := by omega
        have hw : wrapF .i64 ((k : Int) + 1) = ((k + 1 : Nat) : Int) := by rw [wrap_in (by omega) (by omega)]; rfl
        have sg : Sub All g3 g := AHeap.subOf ho
        have hyg := hy3.mono sg
        have hlk := pick_len (p := wrS S c) k
        simp only [rn0, rn1, rn2, reduceIte, Nat.reduceEqDiff, Nat.reduceAdd, Nat.reduceMul, Nat.reduceSub, Nat.reduceLeDiff, Nat.reduceLT, p1, p3, p4, p5, p13, p14, p15, hk', Cells.idx hyg.s hk, samps_ld hyg.s hk]
        refine step_row (cs := [.int .i64 0, .int .i64 0, .int .i64 0]) (by omega) rfl rfl fun ga hxa => ?_
        have na := hxa.next
        have fa := hxa.floor
        simp only [rn0, rn1, rn2, reduceIte, Nat.reduceEqDiff, Nat.reduceAdd, Nat.reduceMul, Nat.reduceSub, Nat.reduceLeDiff, Nat.reduceLT, p1, p3, p4, p5, p13, p14, p15]
        refine step_store (b := g.next) (off := 0) (vs := [.int .i64 (S.sv k), .int .i64 (S.sh k), .int .i64 (S.sk k)]) rfl hxa.get (by omega) (by omega) rfl rfl rfl (by simp) fun gb hsb => ?_
        rw [splice_all (by rfl)] at hsb
        have nb := hsb.next
        have fb := hsb.floor
        have oldb : ∀ i, i < g.next → gb.get i = g.get i := fun i hi => by rw [hsb.old i (by omega), hxa.old i hi]
        have subb : Sub All g gb := AHeap.subOf oldb
        have rwb := (rw3.mono sg).mono subb
        have rcb := (rc3.mono sg).mono subb
        have ei := isRightW_c (n := m) (h := gb) (u := c) (k := k) (by omega) (by omega) (hyg.mono subb) (tv := nilS) rfl hG hcu hk
        have gvb : GrowC g3.next gb x 1 (pickL (wrS S c) k).length (fun i _ => .int .i64 (atL (pickL (wrS S c) k) i)) := GrowC.at' gv fun a k c e => oldb _ (gv.block e).2
        by_cases hR : RightS S c k
        · have hp0 : pickL (wrS S c) (k + 1) = pickL (wrS S c) k := pick_no fun q => q hR
          simp only [rn0, rn1, rn2, reduceIte, Nat.reduceEqDiff, Nat.reduceAdd, Nat.reduceMul, Nat.reduceSub, Nat.reduceLeDiff, Nat.reduceLT, p1, p3, p4, p5, p13, p14, p15, rwb.whole (n := 8) rfl, rcb.whole tarr_len, hsb.row.whole (n := 3) rfl, ei, eq_true hR, hw]
          rw [hp0]
          have hfin := And.intro (fun i (hi : i < g3.next) => (by rw [oldb i (by omega), ho i hi] : gb.get i = g3.get i)) (And.intro (by omega : gb.floor = g3.floor) (And.intro (by omega : g3.next ≤ gb.next) (And.intro (by omega : gb.next ≤ g3.next + 3 * (k + 1)) (And.intro gvb (rfl : x = x)))))
          first | exact ⟨x, hfin⟩ | exact ⟨⟨x, hfin⟩, rfl⟩
        · have hp1 : pickL (wrS S c) (k + 1) = pickL (wrS S c) k ++ [(k : Int)] := pick_yes hR
          simp only [rn0, rn1, rn2, reduceIte, Nat.reduceEqDiff, Nat.reduceAdd, Nat.reduceMul, Nat.reduceSub, Nat.reduceLeDiff, Nat.reduceLT, p1, p3, p4, p5, p13, p14, p15, rwb.whole (n := 8) rfl, rcb.whole tarr_len, hsb.row.whole (n := 3) rfl, ei, eq_false hR, sl_int]
          refine step_slice (by omega) rfl fun gc hxc => ?_
          have nc := hxc.next
          have fc := hxc.floor
          have gvc : GrowC g3.next gc x 1 (pickL (wrS S c) k).length (fun i _ => .int .i64 (atL (pickL (wrS S c) (k + 1)) i)) := (gvb.sub hxc.sub).congr fun i j hi hj => by rw [hp1, at_append hi]
          obtain ⟨x', gd, ed, evd, gvd, hkd⟩ := gvc.append (bytes := 8) (cap := 1) (by omega) (by omega) (by omega) hxc.get rfl rfl (fun j hj => by
            obtain rfl : j = 0 := by omega
            rw [hp1, at_last]; rfl) (by simp [maxBytes]; omega) (by simp [maxBytes]; omega)
          have nd := hkd.next
          have fd := hkd.floor
          have hlen1 : (pickL (wrS S c) (k + 1)).length = (pickL (wrS S c) k).length + 1 := by rw [hp1, List.length_append, List.length_singleton]
          simp only [rn0, rn1, rn2, reduceIte, Nat.reduceEqDiff, Nat.reduceAdd, Nat.reduceMul, Nat.reduceSub, Nat.reduceLeDiff, Nat.reduceLT, p1, p3, p4, p5, p13, p14, p15, ed, hw]
          rw [hlen1]
          have hfin := And.intro (fun i (hi : i < g3.next) => (by rw [hkd.old i (by omega) fun bb kk qq e => by have := (gvc.block e).1; omega, hxc.old i (by omega), oldb i (by omega), ho i hi] : gd.get i = g3.get i)) (And.intro (by omega : gd.floor = g3.floor) (And.intro (by omega : g3.next ≤ gd.next) (And.intro (by omega : gd.next ≤ g3.next + 3 * (k + 1)) (And.intro gvd (rfl : x' = x')))))
          first | exact ⟨x', hfin⟩ | exact ⟨⟨x', hfin⟩, rfl⟩
      · rintro f g ms ⟨⟨x, ho, hfg', hup', hnx, gv, p5⟩, rfl, p1, p3, p4, p13, p14, p15⟩
        have hq3 : g.get (h.next + 1) = some (.row [v] true 0) := by rw [ho _ (by omega)]; exact hp3'
        have rq3 : Row g (h.next + 1) [v] := ⟨_, _, hq3⟩
        have lg : g.get (h.next + 4) = some (.loop { r with state := .busy }) := by rw [ho _ (by omega)]; exact l3
        have xone := gv.one
        have wrg : WrG (h2.next + 2) g v s R := gr.old (fun i h1 h2 => by rw [ho i (by omega), g3old i h2 (by omega)]) (by omega)
        simp only [rn0, rn1, rn2, reduceIte, Nat.reduceEqDiff, Nat.reduceAdd, Nat.reduceMul, Nat.reduceSub, Nat.reduceLeDiff, Nat.reduceLT, p1, p3, p4, p5, p13, p14, p15, Int.lt_irrefl, rq3.ld, Nat.zero_add, List.getElem?_cons_zero, sl_list xone]
        refine step_slice (by omega) (by simp [allB, xone]) fun ga hxa => ?_
        have na := hxa.next
        have fa := hxa.floor
        obtain ⟨v', gb, eb, wrb, ob, evb, nb, fb, oldb⟩ := wrg.push (w := wrongL S c) (by omega) (by omega) (by omega) hxa gv.cells xone (fun y k q e => by
          have := gv.block e
          exact ⟨by omega, by omega, neB_of gr.c (by right; omega)⟩) (by have := hj.len; omega)
        have neP : NeB v (h.next + 1) := neB_of gr.c (by left; omega)
        have neL : NeB v (h.next + 4) := neB_of gr.c (by left; omega)
        simp only [rn0, rn1, rn2, reduceIte, Nat.reduceEqDiff, Nat.reduceAdd, Nat.reduceMul, Nat.reduceSub, Nat.reduceLeDiff, Nat.reduceLT, p1, p3, p4, p5, p13, p14, p15, eb]
        refine step_store (b := h.next + 1) (off := 0) (vs := [v']) (by rfl) (by rw [oldb _ (by omega) neP]; exact hq3) (by omega) (by omega) (by rw [evb]; rfl) (by rw [evb]; rfl) rfl (by simp) fun g6 hs6 => ?_
        rw [splice1] at hs6
        have n6 := hs6.next
        have f6 := hs6.floor
        simp only [rn0, rn1, rn2, reduceIte, Nat.reduceEqDiff, Nat.reduceAdd, Nat.reduceMul, Nat.reduceSub, Nat.reduceLeDiff, Nat.reduceLT]
        refine ⟨by rw [hs6.old _ (by omega), oldb _ (by omega) neL]; exact lg, by omega, by omega, fun g7 hp7 => ⟨?_, ?_, ?_, by rw [hp7.floor]; omega, by rw [hp7.next]; omega, by rw [hp7.next]; omega⟩⟩
        · have n7 := hp7.next
          have hst : (wrongStep S s c).1 = s ++ [wrongL S c] := rfl
          rw [hst]
          have old6 : ∀ i, i < g1.next → i ≠ h.next + 1 → i ≠ h.next + 4 → NeB v i → g6.get i = g1.get i := fun i hi a1 a2 hne => by rw [hs6.old i a1, oldb i (by omega) hne, ho i (by omega), g3old i hi a2]
          refine ⟨fun i hi hne => ?_, ⟨v', _, ?_, wrb.old (fun i h1 h2 => by rw [hp7.old i (by omega), hs6.old i (by omega)]) (by omega)⟩, by omega, by rw [List.length_append, List.length_singleton]; omega⟩
          · by_cases e : i = h.next + 4
            · subst e; rw [hp7.get, r6, ← hj.old _ hi hne]; exact hloop1.symm
            · rw [hp7.old i e, old6 i (by omega) hne e (neB_of gr.c (by left; omega))]; exact hj.old i hi hne
          · rw [hp7.old _ (by omega)]; exact hs6.get
        · intro i hi hlt hne
          rw [hp7.old i (by omega), hs6.old i (by omega), oldb i (by omega) hne, ho i (by omega), g3old i hlt (by omega)]
        · refine ⟨v', by rw [hp7.old _ (by omega)]; exact hs6.get, fun q hq _ b m c' e => ?_⟩
          rw [evb] at e
          cases e
          show q ≠ g.next + 1
          omega)
    (by omega)
  obtain ⟨v5, g5, e5, j5, fl5, u5, n5⟩ := hit
  rw [runL_wrong] at j5
  simp only [List.nil_append] at j5
  change JW h2 (h.next + 1) (allW S) g5 at j5
  obtain ⟨v, R, t1, t2⟩ := j5.tv
  have hup := j5.up
  refine ⟨v5, g5, .norm, by rw [e2]; exact e5, by omega, by omega, by rw [r6, j5.old _ (by omega) (by omega)]; exact hloop, fun g6 hp6 => ?_⟩
  have n6 := hp6.next
  have f6 := hp6.floor
  have t6 : Row g6 (h.next + 1) [v] := ⟨true, 0, by rw [hp6.old _ (by omega)]; exact t1⟩
  have m6 : g6.get (h.next + 3) = some .deferred := by rw [hp6.old _ (by omega), j5.old _ (by omega) (by omega)]; exact hmark
  simp only [rn0, rn1, rn2, reduceIte, Nat.reduceEqDiff, Nat.reduceAdd, Nat.reduceMul, Nat.reduceSub, Nat.reduceLeDiff, Nat.reduceLT, c3, t6.ld, Nat.zero_add, List.getElem?_cons_zero]
  refine ret_mark (.inr rfl) m6 (by omega) (by omega) fun g8 hp8 => ?_
  have n8 := hp8.next
  have f8 := hp8.floor
  have t8 : WrG (h2.next + 2) g8 v (allW S) R := t2.old (fun i h1 h2 => by rw [hp8.old i (by omega), hp6.old i (by omega)]) (by omega)
  simp only [rn0, rn1, rn2, reduceIte, Nat.reduceEqDiff, Nat.reduceAdd, Nat.reduceMul, Nat.reduceSub, Nat.reduceLeDiff, Nat.reduceLT]
  refine ⟨⟨R, t8.c.cells, fun k hk => (t8.r k hk).1⟩, t8.c.one, fun i hi => ?_, by omega, by omega, by omega⟩
  rw [hp8.old i (by omega), hp6.old i (by omega), j5.old i (by omega) (by omega), hbase i hi]
end Go.Vm.St

namespace Go.Vm
open Go.Vm.Vat
theorem leaveN_up {N : Nat} {P : List Int → Prop} {m : Nat} {l : List Int} (h : leaveN N P m = some l) : ∀ d, leaveN N P (m + d) = some l
  | 0 => h
  | d + 1 => by
    have := leaveN_up h d
    show leaveN N P (m + d + 1) = some l
    simp only [leaveN, this]
def MarksR (B : Nat) (ms : List Nat) (g : AHeap) : Prop := ms.Nodup ∧ ∀ d, d ∈ ms → B ≤ d ∧ d < g.next ∧ g.get d = some .deferred
theorem unmark_all : ∀ (ms : List Nat) (h : AHeap), ms.Nodup → (∀ d, d ∈ ms → h.floor ≤ d ∧ h.get d = some .deferred) → h.next ≤ far → ∃ h1, unmark ms h = some h1 ∧ (∀ i, i ∉ ms → h1.get i = h.get i) ∧ h1.next = h.next ∧ h1.floor = h.floor
  | [], h, _, _, _ => ⟨h, rfl, fun _ _ => rfl, rfl, rfl⟩
  | d :: ms, h, hn, hd, hf => by
    rw [List.nodup_cons] at hn
    obtain ⟨d1, d2⟩ := hd d (by simp)
    have hp := put_with (AHeap.lt_of_get d2) hf none
    obtain ⟨h1, e1, o1, n1, f1⟩ := unmark_all ms (h.with d none) hn.2 (fun x hx => by
      have hne : x ≠ d := fun e => hn.1 (e ▸ hx)
      obtain ⟨q1, q2⟩ := hd x (by simp [hx])
      exact ⟨q1, by rw [hp.old x hne]; exact q2⟩) hf
    refine ⟨h1, ?_, fun i hi => ?_, n1, f1⟩
    · simp only [unmark, d2, d1, if_true]
      exact e1
    · rw [List.mem_cons, not_or] at hi
      rw [o1 i hi.2, hp.old i hi.1]
theorem ret_marks {rs : List RS} {R : Value → AHeap → Prop} {f : Fr} {h : AHeap} {ms : List Nat} (hn : ms.Nodup) (hd : ∀ d, d ∈ ms → h.floor ≤ d ∧ h.get d = some .deferred) (hf : h.next ≤ far)
    (hr : ∀ h1, (∀ i, i ∉ ms → h1.get i = h.get i) → h1.next = h.next → h1.floor = h.floor → ∃ v, resV f h1 rs = some v ∧ R v h1) : retQ rs R .ret f h ms := by
  obtain ⟨h1, e1, o1, n1, f1⟩ := unmark_all ms h hn hd hf
  obtain ⟨v, q1, q2⟩ := hr h1 o1 n1 f1
  exact ⟨trivial, h1, v, e1, q1, q2⟩
end Go.Vm
namespace Go.Vm.St
open Go.Proofs Go.Vm.Vat
set_option linter.unusedSimpArgs false
set_option linter.unusedVariables false
set_option maxRecDepth 10000
variable {n : Nat} {h : AHeap}
def idxF (a : Nat → Int) (x : Int) : Nat → Option Nat
  | 0 => none
  | k + 1 => match idxF a x k with
    | some v => some v
    | none => if x = a k then some k else none
theorem idxF_none {a : Nat → Int} {x : Int} : ∀ {k : Nat}, idxF a x k = none ↔ ∀ i, i < k → ¬ x = a i
  | 0 => ⟨fun _ i hi => absurd hi (Nat.not_lt_zero _), fun _ => rfl⟩
  | k + 1 => by
    have ih := idxF_none (a := a) (x := x) (k := k)
    constructor
    · intro h i hi
      rw [idxF] at h
      cases e : idxF a x k with
      | some v => rw [e] at h; cases h
      | none =>
        rw [e] at h
        by_cases c : i = k
        · subst c
          intro q
          simp only [if_pos q] at h
          cases h
        · exact ih.1 e i (by omega)
    · intro h
      rw [idxF, ih.2 fun i hi => h i (by omega)]
      exact if_neg (h k (by omega))
theorem idxF_at {a : Nat → Int} {x : Int} {k m : Nat} (hk : k < m) (h0 : idxF a x k = none) (h1 : x = a k) : idxF a x m = some k := by
  have up : ∀ d, idxF a x (k + 1 + d) = some k := by
    intro d
    induction d with
    | zero => show idxF a x (k + 1) = some k; rw [idxF, h0]; exact if_pos h1
    | succ d ih => show idxF a x (k + 1 + d + 1) = some k; rw [idxF, ih]
  have := up (m - (k + 1))
  rw [show k + 1 + (m - (k + 1)) = m by omega] at this
  exact this
def s133 : SCode := (.seq (.ops [⟨(some 4), none, .mov (.const (.int .i64 (0)))⟩]) (.seq (.seq (.ops [⟨(some 6), none, .mov (T 0)⟩, ⟨(some 7), none, .len (T 6)⟩, ⟨(some 8), none, .mov (.const (.int .i64 (0)))⟩]) (.block 0 (.loop (.seq (.ops [⟨(some 9), none, .int2 .lss (T 8) (T 7)⟩]) (.seq (.cond (T 9) .skip (.exit 0)) (.seq (.block 1 (.seq (.ops [⟨(some 10), none, .mov (T 8)⟩, ⟨(some 5), none, .mov (T 10)⟩]) (.seq (.ops [⟨(some 11), none, .mov (T 1)⟩, ⟨(some 12), none, .mov (T 0)⟩, ⟨(some 13), none, .mov (T 5)⟩, ⟨(some 14), none, .idxSl 1 (T 12) (T 13)⟩, ⟨(some 15), none, .load1 (T 14)⟩, ⟨(some 16), none, .int2 .eql (T 11) (T 15)⟩]) (.cond (T 16) (.seq (.ops [⟨(some 17), none, .mov (T 5)⟩, ⟨(some 4), none, .mov (T 17)⟩]) .ret) .skip)))) (.ops [⟨(some 18), none, .int2 .add (T 8) (.const (.int .i64 (1)))⟩, ⟨(some 8), none, .mov (T 18)⟩]))))))) (.seq (.ops [⟨(some 4), none, .mov (.const (.int .i64 (-1)))⟩]) .ret)))
theorem fok133 : FnOk Try.prog 133 19 s133 [.tmp 4] := ⟨Try.f133, _, Try.func133, rfl, Try.ntmps133, by kernel_rfl, by kernel_rfl⟩
theorem index_c (hn : 50 ≤ n) (hr : h.next < far) {v : Value} {m : Nat} {a : Nat → Int} (hv : Ints h v m a) (hm : m ≤ 40) (x : Int) :
    call n (.func (.func 133) #[] #[]) [v, .int .i64 x] h = some (.int .i64 (optI (idxF a x m) (-1)), h) := by
  obtain ⟨n, rfl⟩ : ∃ p, n = p + 1 := ⟨n - 1, by omega⟩
  refine call_plain0 fok133 rfl rfl (by simp) rfl ?_
  have hv : Ints h.shutAll v m a := Cells.shut hv
  have hr : h.shutAll.next < far := hr
  generalize h.shutAll = h at hv hr
  simp only [rn0, rn1, rn2, reduceIte, Nat.reduceEqDiff, Nat.reduceAdd, Nat.reduceMul, Nat.reduceSub, Nat.reduceLeDiff, Nat.reduceLT, s133, Cells.len hv]
  refine W_loop m (fun k f g ms => (g = h ∧ idxF a x k = none) ∧ ms = [] ∧ f 0 = v ∧ f 1 = .int .i64 x ∧ f 7 = .int .i64 (m : Int) ∧ f 8 = .int .i64 (k : Int)) (by simp; omega) ?_ ?_ ?_
  · simp only [rn0, rn1, rn2, reduceIte, Nat.reduceEqDiff, Nat.reduceAdd, Nat.reduceMul, Nat.reduceSub, Nat.reduceLeDiff, Nat.reduceLT]
    first | done | trivial | exact ⟨rfl, rfl⟩
  · rintro k f g ms hk ⟨⟨rfl, h0⟩, rfl, p0, p1, p7, p8⟩
    have hk' : (k : Int) < (m : Int) := by omega
    have hw : wrapF .i64 ((k : Int) + 1) = ((k + 1 : Nat) : Int) := by rw [wrap_in (by omega) (by omega)]; rfl
    by_cases c : x = a k
    · have hI := idxF_at hk h0 c
      have q : optI (idxF a x m) (-1) = (k : Int) := by rw [hI]; rfl
      rw [q]
      simp only [rn0, rn1, rn2, reduceIte, Nat.reduceEqDiff, Nat.reduceAdd, Nat.reduceMul, Nat.reduceSub, Nat.reduceLeDiff, Nat.reduceLT, p0, p1, p7, p8, hk', Cells.idx hv hk, Cells.ld hv hk Nat.zero_lt_one, eq_true c]
    · have h1 : idxF a x (k + 1) = none := by rw [idxF, h0]; exact if_neg c
      simp only [rn0, rn1, rn2, reduceIte, Nat.reduceEqDiff, Nat.reduceAdd, Nat.reduceMul, Nat.reduceSub, Nat.reduceLeDiff, Nat.reduceLT, p0, p1, p7, p8, hk', Cells.idx hv hk, Cells.ld hv hk Nat.zero_lt_one, eq_false c, hw]
      first | exact ⟨⟨rfl, h1⟩, rfl⟩ | exact ⟨rfl, h1⟩ | exact h1
  · rintro f g ms ⟨⟨rfl, h0⟩, rfl, p0, p1, p7, p8⟩
    have q : optI (idxF a x m) (-1) = -1 := by rw [h0]; rfl
    rw [q]
    simp only [rn0, rn1, rn2, reduceIte, Nat.reduceEqDiff, Nat.reduceAdd, Nat.reduceMul, Nat.reduceSub, Nat.reduceLeDiff, Nat.reduceLT, p0, p1, p7, p8, Int.lt_irrefl]
def s126 : SCode := (.seq (.ops [⟨(some 4), none, .mov (.const (.bool false))⟩]) (.seq (.ops [⟨(some 5), none, .mov (T 0)⟩, ⟨(some 6), none, .mov (T 1)⟩, ⟨(some 7), none, .call (.func 133) [(T 5), (T 6)]⟩, ⟨(some 8), none, .int2 .geq (T 7) (.const (.int .i64 (0)))⟩, ⟨(some 4), none, .mov (T 8)⟩]) .ret))
theorem fok126 : FnOk Try.prog 126 9 s126 [.tmp 4] := ⟨Try.f126, _, Try.func126, rfl, Try.ntmps126, by kernel_rfl, by kernel_rfl⟩
open Classical in
theorem contains_c (hn : 60 ≤ n) (hr : h.next < far) {v : Value} {m : Nat} {a : Nat → Int} (hv : Ints h v m a) (hm : m ≤ 40) (x : Int) :
    call n (.func (.func 126) #[] #[]) [v, .int .i64 x] h = some (.bool (decide (∃ i, i < m ∧ x = a i)), h) := by
  obtain ⟨n, rfl⟩ : ∃ p, n = p + 1 := ⟨n - 1, by omega⟩
  refine call_plain0 fok126 rfl rfl (by simp) rfl ?_
  have hv : Ints h.shutAll v m a := Cells.shut hv
  have hr : h.shutAll.next < far := hr
  generalize h.shutAll = h at hv hr
  have ei := index_c (n := n) (h := h) (by omega) hr hv hm x
  cases hI : idxF a x m with
  | none =>
    have hq : ¬ ∃ i, i < m ∧ x = a i := fun ⟨i, i1, i2⟩ => idxF_none.1 hI i i1 i2
    have hz : ¬ (0 : Int) ≤ optI none (-1) := by decide
    rw [hI] at ei
    rw [decide_eq_false hq]
    simp only [rn0, rn1, rn2, reduceIte, Nat.reduceEqDiff, Nat.reduceAdd, Nat.reduceMul, Nat.reduceSub, Nat.reduceLeDiff, Nat.reduceLT, s126, ei, hz]
  | some k =>
    have hq : ∃ i, i < m ∧ x = a i := by
      apply Classical.byContradiction
      intro hn
      have := idxF_none.2 (fun i hi q => hn ⟨i, hi, q⟩ : ∀ i, i < m → ¬ x = a i)
      rw [hI] at this
      cases this
    have hz : (0 : Int) ≤ optI (some k) (-1) := by show (0 : Int) ≤ (k : Int); omega
    rw [hI] at ei
    rw [decide_eq_true hq]
    simp only [rn0, rn1, rn2, reduceIte, Nat.reduceEqDiff, Nat.reduceAdd, Nat.reduceMul, Nat.reduceSub, Nat.reduceLeDiff, Nat.reduceLT, s126, ei, hz]
def s125 : SCode := (.seq (.ops [⟨(some 3), none, .mov (.const (.bool false))⟩]) (.seq (.ops [⟨(some 4), none, .load1 (T 1)⟩, ⟨(some 5), none, .mov (T 0)⟩, ⟨(some 6), none, .call (.func 126) [(T 4), (T 5)]⟩, ⟨(some 3), none, .mov (T 6)⟩]) .ret))
theorem fok125 : FnOk Try.prog 125 7 s125 [.tmp 3] := ⟨Try.f125, _, Try.func125, rfl, Try.ntmps125, by kernel_rfl, by kernel_rfl⟩
open Classical in
theorem isLeft_c (hn : 70 ≤ n) (hr : h.next + 2 < far) {v : Value} {m pc : Nat} {a : Nat → Int} (hp : Row h pc [v]) (hv : Ints h v m a) (hm : m ≤ 40) (x : Int) :
    call n (.func (.func 125) ⟨[]⟩ ⟨[.pointer (some ⟨pc, 0, none⟩)]⟩) [.int .i64 x] h = some (.bool (decide (∃ i, i < m ∧ x = a i)), h) := by
  obtain ⟨n, rfl⟩ : ∃ p, n = p + 1 := ⟨n - 1, by omega⟩
  refine call_plain (xs := []) (ys := [.pointer (some ⟨pc, 0, none⟩)]) fok125 rfl rfl (by simp) rfl ?_
  have hp := hp.mono (g := h.shutAll) fun _ _ _ _ _ h => h
  have hv : Ints h.shutAll v m a := Cells.shut hv
  have hr : h.shutAll.next + 2 < far := hr
  generalize h.shutAll = h at hp hv hr
  have ec := contains_c (n := n) (h := h) (by omega) (by omega) hv hm x
  simp only [rn0, rn1, rn2, reduceIte, Nat.reduceEqDiff, Nat.reduceAdd, Nat.reduceMul, Nat.reduceSub, Nat.reduceLeDiff, Nat.reduceLT, s125, List.cons_append, List.nil_append, hp.ld, Nat.zero_add, List.getElem?_cons_zero, ec]
open Classical in
theorem everyI_c (hn : 50 ≤ n) (hr : h.next + 5 < far) {ok v : Value} {m : Nat} {a : Nat → Int} {p : Nat → Prop} (hm : m ≤ 40) (hv : Ints h v m a) (hok : ∀ g, Sub All h g → g.next ≤ h.next + 5 → ∀ i, i < m → call (n - 1) ok [.int .i64 (a i)] g = some (.bool (decide (p i)), g)) :
    call n (.func (.func 120) #[] #[]) [v, ok] h = some (.bool (decide (∀ i, i < m → p i)), h) := by
  obtain ⟨n, rfl⟩ : ∃ p, n = p + 1 := ⟨n - 1, by omega⟩
  rw [Nat.add_sub_cancel] at hok
  refine call_plain0 fok120 rfl rfl (by simp) rfl ?_
  have e0 := hok h.shutAll (fun _ _ _ _ _ h => h) (Nat.le_add_right _ _)
  have hv : Ints h.shutAll v m a := Cells.shut hv
  have hr : h.shutAll.next + 5 < far := hr
  generalize h.shutAll = h at hr e0 hv
  simp only [rn0, rn1, rn2, reduceIte, Nat.reduceEqDiff, Nat.reduceAdd, Nat.reduceMul, Nat.reduceSub, Nat.reduceLeDiff, Nat.reduceLT, s120, Cells.len hv]
  refine W_loop m (fun k f g ms => (g = h ∧ ∀ i, i < k → p i) ∧ ms = [] ∧ f 1 = ok ∧ f 7 = v ∧ f 8 = .int .i64 (m : Int) ∧ f 9 = .int .i64 (k : Int)) (by simp; omega) ?_ ?_ ?_
  · simp only [rn0, rn1, rn2, reduceIte, Nat.reduceEqDiff, Nat.reduceAdd, Nat.reduceMul, Nat.reduceSub, Nat.reduceLeDiff, Nat.reduceLT]
    first | exact ⟨⟨rfl, fun i hi => absurd hi (Nat.not_lt_zero _)⟩, rfl⟩ | exact ⟨fun i hi => absurd hi (Nat.not_lt_zero _), rfl⟩ | exact fun i hi => absurd hi (Nat.not_lt_zero _)
  · rintro k f g ms hk ⟨⟨rfl, h0⟩, rfl, p1, p7, p8, p9⟩
    have hk' : (k : Int) < (m : Int) := by omega
    have hw : wrapF .i64 ((k : Int) + 1) = ((k + 1 : Nat) : Int) := by rw [wrap_in (by omega) (by omega)]; rfl
    have ek := e0 k hk
    by_cases c : p k
    · have h1 : ∀ i, i < k + 1 → p i := fun i hi => by
        by_cases e : i = k
        · subst e; exact c
        · exact h0 i (by omega)
      rw [decide_eq_true c] at ek
      simp only [rn0, rn1, rn2, reduceIte, Nat.reduceEqDiff, Nat.reduceAdd, Nat.reduceMul, Nat.reduceSub, Nat.reduceLeDiff, Nat.reduceLT, p1, p7, p8, p9, hk', Cells.idx hv hk, Cells.ld hv hk Nat.zero_lt_one, ek, hw]
      first | exact ⟨⟨rfl, h1⟩, rfl⟩ | exact ⟨rfl, h1⟩ | exact h1 | exact ⟨h1, rfl⟩
    · have hq : ¬ ∀ i, i < m → p i := fun q => c (q k hk)
      rw [decide_eq_false c] at ek
      rw [decide_eq_false hq]
      simp only [rn0, rn1, rn2, reduceIte, Nat.reduceEqDiff, Nat.reduceAdd, Nat.reduceMul, Nat.reduceSub, Nat.reduceLeDiff, Nat.reduceLT, p1, p7, p8, p9, hk', Cells.idx hv hk, Cells.ld hv hk Nat.zero_lt_one, ek]
  · rintro f g ms ⟨⟨rfl, h0⟩, rfl, p1, p7, p8, p9⟩
    rw [decide_eq_true h0]
    simp only [rn0, rn1, rn2, reduceIte, Nat.reduceEqDiff, Nat.reduceAdd, Nat.reduceMul, Nat.reduceSub, Nat.reduceLeDiff, Nat.reduceLT, p1, p7, p8, p9, Int.lt_irrefl]

theorem dec_ex {p : Prop} {i : Decidable p} {F : Bool → Prop} (h : F (@decide p i)) : ∃ b : Bool, (b = true ↔ p) ∧ F b := ⟨_, @decide_eq_true_iff p i, h⟩
def CovS (S : MS) (l : List Int) : Prop := CovP (allE S) (wrS S) S.ns l
noncomputable def leaveS (S : MS) : List Int := (leaveN S.ns (CovS S) (S.ns + 1)).getD []
theorem allE_ne {S : MS} (hG : Good S) : allE S ≠ [] := by
  have h1 := enumB_pos (lo := uLo S) (hi := uHi S) (numU S) 0 (fun _ => 0) fun k _ hk => (hG.u k (by omega)).2.1
  intro e
  have : (allE S).length = 0 := by rw [e]; rfl
  unfold allE at this
  omega
theorem leaveS_is {S : MS} (hG : Good S) : leaveN S.ns (CovS S) (S.ns + 1) = some (leaveS S) := by
  obtain ⟨l, hl⟩ := leave_ex (E := allE S) (wr := wrS S) (N := S.ns) (allE_ne hG)
  have hl : leaveN S.ns (CovS S) (S.ns + 1) = some l := hl
  unfold leaveS
  rw [hl]
  rfl
theorem leaveS_min {S : MS} (hG : Good S) : (∃ t, t ∈ allE S ∧ leaveS S = wrongL S t) ∧ ∀ t, t ∈ allE S → ¬ SL (wrongL S t) (leaveS S) := leave_min (leaveS_is hG)
def CovJ (S : MS) (l : List Int) (j : Nat) : Prop := ∀ i, i < ((allW S).getD j []).length → ∃ i', i' < l.length ∧ atL ((allW S).getD j []) i = atL l i'
theorem mem_at {l : List Int} {x : Int} : x ∈ l ↔ ∃ i, i < l.length ∧ x = atL l i := by
  constructor
  · intro hx
    obtain ⟨i, hi, e⟩ := List.getElem_of_mem hx
    exact ⟨i, hi, by rw [← e]; unfold atL; rw [List.getD_eq_getElem?_getD, List.getElem?_eq_getElem hi]; rfl⟩
  · rintro ⟨i, hi, rfl⟩
    unfold atL
    rw [List.getD_eq_getElem?_getD, List.getElem?_eq_getElem hi]
    exact List.getElem_mem hi
theorem cov_iff {S : MS} {l : List Int} : CovS S l ↔ ∃ j, j < (allW S).length ∧ CovJ S l j := by
  have hget : ∀ j, j < (allW S).length → ∃ t, t ∈ allE S ∧ (allW S).getD j [] = wrongL S t := fun j hj => by
    have hm : (allW S).getD j [] ∈ allW S := by
      rw [List.getD_eq_getElem?_getD, List.getElem?_eq_getElem hj]
      exact List.getElem_mem hj
    obtain ⟨t, ht, e⟩ := List.mem_map.1 hm
    exact ⟨t, ht, e.symm⟩
  constructor
  · rintro ⟨t, ht, hc⟩
    have hm : wrongL S t ∈ allW S := List.mem_map.2 ⟨t, ht, rfl⟩
    obtain ⟨j, hj, e⟩ := List.getElem_of_mem hm
    have e' : (allW S).getD j [] = wrongL S t := by rw [List.getD_eq_getElem?_getD, List.getElem?_eq_getElem hj]; exact e
    refine ⟨j, hj, fun i hi => ?_⟩
    rw [e'] at hi ⊢
    obtain ⟨x, x1, x2, x3⟩ := pick_at (p := wrS S t) (k := S.ns) hi
    have hx : (x : Int) ∈ l := hc x x1 x3
    obtain ⟨i', i1, i2⟩ := mem_at.1 hx
    exact ⟨i', i1, x2.trans i2⟩
  · rintro ⟨j, hj, hc⟩
    obtain ⟨t, ht, e⟩ := hget j hj
    refine ⟨t, ht, fun x hx hw => ?_⟩
    obtain ⟨i, i1, i2⟩ := pick_has (p := wrS S t) hx hw
    obtain ⟨i', k1, k2⟩ := hc i (by rw [e]; exact i1)
    rw [e] at k2
    rw [← i2]
    exact mem_at.2 ⟨i', k1, k2⟩
theorem bnd_le : ∀ M, M ≤ 5 → bndS 10 M ≤ 60000 := by
  intro M hM
  have : M = 0 ∨ M = 1 ∨ M = 2 ∨ M = 3 ∨ M = 4 ∨ M = 5 := by omega
  rcases this with rfl | rfl | rfl | rfl | rfl | rfl <;> simp [bndS]
noncomputable def s97 : SCode := (.seq (.ops [⟨(some 1), none, .box (T 0)⟩, ⟨(some 2), none, .mov (.const (.slice none 0 0))⟩]) (.seq (.ops [⟨(some 10), none, .loadN 8 (T 1)⟩, ⟨(some 11), none, .call (.func 96) [(T 10)]⟩, ⟨(some 3), none, .alloc [(.slice none 0 0)]⟩, ⟨none, none, .store 1 (T 3) (T 11)⟩]) (.seq (.ops [⟨(some 4), none, .alloc [(.slice none 0 0)]⟩]) (.seq .skip (.seq (.seq (.ops [⟨(some 12), none, .fieldAddr 0 (T 1)⟩, ⟨(some 13), none, .fieldAddr 6 (T 12)⟩, ⟨(some 14), none, .load1 (T 13)⟩, ⟨(some 15), none, .len (T 14)⟩, ⟨(some 16), none, .int2 .add (T 15) (.const (.int .i64 (1)))⟩, ⟨(some 17), none, .mov (.const (.int .i64 (0)))⟩]) (.block 0 (.loop (.seq (.ops [⟨(some 18), none, .int2 .lss (T 17) (T 16)⟩]) (.seq (.cond (T 18) .skip (.exit 0)) (.seq (.block 1 (.seq (.ops [⟨(some 19), none, .mov (T 17)⟩, ⟨(some 5), none, .mov (T 19)⟩]) (.seq (.ops [⟨(some 20), none, .fieldAddr 0 (T 1)⟩, ⟨(some 21), none, .fieldAddr 6 (T 20)⟩, ⟨(some 22), none, .load1 (T 21)⟩, ⟨(some 23), none, .len (T 22)⟩, ⟨(some 24), none, .mov (T 5)⟩, ⟨(some 25), none, .call (.func 124) [(T 23), (T 24)]⟩]) (.block 2 (.range (T 25) #[26] (rangeOf Try.f97 0).1 (rangeOf Try.f97 0).2))))) (.ops [⟨(some 39), none, .int2 .add (T 17) (.const (.int .i64 (1)))⟩, ⟨(some 17), none, .mov (T 39)⟩]))))))) (.seq (.ops [⟨(some 40), none, .load1 (T 4)⟩, ⟨(some 2), none, .mov (T 40)⟩]) .ret))))))
theorem fok97 : FnOk Try.prog 97 41 s97 [.tmp 2] := ⟨Try.f97, _, Try.func97, rfl, Try.ntmps97, by kernel_rfl, by kernel_rfl⟩
def ra97_0 : SCode := (.ops [⟨(some 6), none, .alloc [(.slice none 0 0)]⟩, ⟨none, none, .store 1 (T 6) (T 26)⟩])
theorem raok97_0 : compCode Try.prog 41 (rangeOf Try.f97 0).1 = some ra97_0 := by kernel_rfl
def rb97_0 : SCode := (.block 3 (.seq (.ops [⟨(some 27), none, .mkfunc 125 [] [(T 6)]⟩, ⟨(some 7), none, .mov (T 27)⟩]) (.seq (.ops [⟨(some 28), none, .load1 (T 3)⟩, ⟨(some 29), none, .len (T 28)⟩, ⟨(some 30), none, .mov (.const (.int .i64 (0)))⟩]) (.block 4 (.loop (.seq (.ops [⟨(some 31), none, .int2 .lss (T 30) (T 29)⟩]) (.seq (.cond (T 31) .skip (.exit 4)) (.seq (.block 5 (.seq (.ops [⟨(some 32), none, .idxSl 1 (T 28) (T 30)⟩, ⟨(some 33), none, .load1 (T 32)⟩, ⟨(some 9), none, .mov (T 33)⟩]) (.seq (.ops [⟨(some 34), none, .mov (T 9)⟩, ⟨(some 35), none, .mov (T 7)⟩, ⟨(some 36), none, .call (.func 120) [(T 34), (T 35)]⟩]) (.cond (T 36) (.seq (.ops [⟨(some 37), none, .load1 (T 6)⟩, ⟨none, none, .store 1 (T 4) (T 37)⟩]) (.exit 0)) .skip)))) (.ops [⟨(some 38), none, .int2 .add (T 30) (.const (.int .i64 (1)))⟩, ⟨(some 30), none, .mov (T 38)⟩])))))))))
theorem rbok97_0 : compCode Try.prog 41 (rangeOf Try.f97 0).2 = some rb97_0 := by kernel_rfl
open Classical in
set_option maxHeartbeats 4000000 in
theorem smallest_c (hn : 2600 ≤ n) (hr : h.next + 1200000 < far) (hfl : h.floor ≤ h.next) {wv vv sv : Value} {S : MS} (hy : SteepR h wv vv sv S) (hG : Good S) :
    ∃ v h', call n (.func (.func 97) #[] #[]) [.agg ⟨wkL S wv vv sv nilS⟩] h = some (v, h') ∧ Ints h' v (leaveS S).length (atL (leaveS S)) ∧ oneCell v = true ∧ (∀ i, i < h.next → h'.get i = h.get i) ∧ h.next ≤ h'.next ∧ h'.next ≤ h.next + 1000000 ∧ h'.floor = h.floor := by
  obtain ⟨n, rfl⟩ : ∃ p, n = p + 1 := ⟨n - 1, by omega⟩
  refine call_any0 fok97 rfl rfl (by simp) ?_
  obtain ⟨_, _, _, _, _, z5, _⟩ := hG.sizes
  have hlenW : (allW S).length ≤ 2000 := by unfold allW; rw [List.length_map]; exact enum_len hG
  have hns1 : wrapF .i64 ((S.ns : Int) + 1) = ((S.ns + 1 : Nat) : Int) := by rw [wrap_in (by omega) (by omega)]; rfl
  simp only [s97, W_seq, W_ops]
  refine ops_box (cs := wkL S wv vv sv nilS) (by omega) rfl (wk_one hy rfl) fun g1 hx1 => ?_
  have n1 := hx1.next
  have f1 := hx1.floor
  have hy1 := hy.mono hx1.sub
  obtain ⟨av, g2, e2, hall, oav, o2, u2, m2, f2⟩ := wrongAll_c (n := n) (h := g1) (by omega) (by omega) (by omega) hy1 hG
  simp only [rn0, rn1, rn2, reduceIte, Nat.reduceEqDiff, Nat.reduceAdd, Nat.reduceMul, Nat.reduceSub, Nat.reduceLeDiff, Nat.reduceLT, hx1.row.whole (n := 8) rfl, e2]
  refine step_new (vs := [av]) (by omega) (by omega) rfl (by simp only [rn0, rn1, rn2, reduceIte, Nat.reduceEqDiff, Nat.reduceAdd, Nat.reduceMul, Nat.reduceSub, Nat.reduceLeDiff, Nat.reduceLT]; exact cells1 oav) (by simp [allB, oav]) rfl rfl fun g3 hx3 => ?_
  have n3 := hx3.next
  have f3 := hx3.floor
  simp only [rn0, rn1, rn2, reduceIte, Nat.reduceEqDiff, Nat.reduceAdd, Nat.reduceMul, Nat.reduceSub, Nat.reduceLeDiff, Nat.reduceLT]
  refine step_row (cs := [nilS]) (by omega) rfl rfl fun g4 hx4 => ?_
  have n4 := hx4.next
  have f4 := hx4.floor
  have old4 : ∀ i, i < g1.next → g4.get i = g1.get i := fun i hi => by rw [hx4.old i (by omega), hx3.old i (by omega), o2 i hi]
  have sub4 : Sub All g1 g4 := AHeap.subOf old4
  have hy4 := hy1.mono sub4
  have r4 := hx1.row.mono sub4
  have ra4 := hx3.row.mono hx4.sub
  have hall4 : AllR g4 av (allW S) := hall.mono (hx3.sub.trans hx4.sub)
  have rp4 : g4.get g3.next = some (.row [nilS] true 0) := hx4.get
  obtain ⟨C, hC⟩ : ∃ C, C = 60020 := ⟨_, rfl⟩
  have hC6 : 6 * C ≤ 400000 := by omega
  simp only [rn0, rn1, rn2, reduceIte, Nat.reduceEqDiff, Nat.reduceAdd, Nat.reduceMul, Nat.reduceSub, Nat.reduceLeDiff, Nat.reduceLT, r4.ld, wkg, Nat.zero_add, Nat.add_zero, Cells.len hy4.s, hns1]
  refine W_loop (S.ns + 1) (fun k f g ms => ((∀ i, i < g4.next → g.get i = g4.get i) ∧ g4.next ≤ g.next ∧ g.next ≤ g4.next + k * C ∧ g.floor = g4.floor ∧ MarksR g4.next ms g ∧ leaveN S.ns (CovS S) k = none) ∧ f 1 = .pointer (some ⟨h.next, 0, none⟩) ∧ f 3 = .pointer (some ⟨g2.next, 0, none⟩) ∧ f 4 = .pointer (some ⟨g3.next, 0, none⟩) ∧ f 16 = .int .i64 ((S.ns + 1 : Nat) : Int) ∧ f 17 = .int .i64 (k : Int)) (by simp; omega) ?_ ?_ ?_
  · simp only [rn0, rn1, rn2, reduceIte, Nat.reduceEqDiff, Nat.reduceAdd, Nat.reduceMul, Nat.reduceSub, Nat.reduceLeDiff, Nat.reduceLT, Nat.zero_mul, Nat.add_zero]
    have hm0 : MarksR g4.next [] g4 := ⟨List.nodup_nil, fun d hd => by cases hd⟩
    first | exact ⟨⟨fun _ _ => trivial, hm0, rfl⟩, rfl⟩ | exact ⟨fun _ _ => trivial, hm0, rfl⟩ | exact ⟨⟨fun _ _ => trivial, hm0, rfl⟩, rfl, rfl⟩ | trace_state
  · rintro k f g ms hk ⟨⟨hold, hup, hnx, hfg, hmk, hno⟩, p1, p3, p4, p16, p17⟩
    have hk' : (k : Int) < ((S.ns + 1 : Nat) : Int) := by omega
    have hw : wrapF .i64 ((k : Int) + 1) = ((k + 1 : Nat) : Int) := by rw [wrap_in (by omega) (by omega)]; rfl
    have hkC : k * C + C ≤ 400000 := by
      rw [← Nat.succ_mul]
      exact Nat.le_trans (Nat.mul_le_mul_right _ (by omega)) hC6
    have hk1 : (k + 1) * C = k * C + C := Nat.succ_mul _ _
    generalize k * C = kC at hnx hkC hk1
    have sg : Sub All g4 g := AHeap.subOf hold
    have hyg := hy4.mono sg
    have rg := r4.mono sg
    obtain ⟨g5, e5, ra5, rb5, o5, n5, f5⟩ := allSets_c (n := n) (h := g) (by omega) (by omega) (S.ns : Int) (k : Int)
    simp only [rn0, rn1, rn2, reduceIte, Nat.reduceEqDiff, Nat.reduceAdd, Nat.reduceMul, Nat.reduceSub, Nat.reduceLeDiff, Nat.reduceLT, p1, p3, p4, p16, p17, hk', rg.ld, wkg, Nat.zero_add, Nat.add_zero, Cells.len hyg.s, e5]
    refine W_range' rfl (by omega) (by simp only [rn0, rn1, rn2, reduceIte, Nat.reduceEqDiff, Nat.reduceAdd, Nat.reduceMul, Nat.reduceSub, Nat.reduceLeDiff, Nat.reduceLT, p1, p3, p4, p16, p17]; rfl) fun f0 hf0 ts hv h2 hl => ?_
    have c1 : f0 1 = .pointer (some ⟨h.next, 0, none⟩) := by rw [hf0]; simp only [rn0, rn1, rn2, reduceIte, Nat.reduceEqDiff, Nat.reduceAdd, Nat.reduceMul, Nat.reduceSub, Nat.reduceLeDiff, Nat.reduceLT, p1, p3, p4, p16, p17]
    have c3 : f0 3 = .pointer (some ⟨g2.next, 0, none⟩) := by rw [hf0]; simp only [rn0, rn1, rn2, reduceIte, Nat.reduceEqDiff, Nat.reduceAdd, Nat.reduceMul, Nat.reduceSub, Nat.reduceLeDiff, Nat.reduceLT, p1, p3, p4, p16, p17]
    have c4 : f0 4 = .pointer (some ⟨g3.next, 0, none⟩) := by rw [hf0]; simp only [rn0, rn1, rn2, reduceIte, Nat.reduceEqDiff, Nat.reduceAdd, Nat.reduceMul, Nat.reduceSub, Nat.reduceLeDiff, Nat.reduceLT, p1, p3, p4, p16, p17]
    have c16 : f0 16 = .int .i64 ((S.ns + 1 : Nat) : Int) := by rw [hf0]; simp only [rn0, rn1, rn2, reduceIte, Nat.reduceEqDiff, Nat.reduceAdd, Nat.reduceMul, Nat.reduceSub, Nat.reduceLeDiff, Nat.reduceLT, p1, p3, p4, p16, p17]
    have c17 : f0 17 = .int .i64 (k : Int) := by rw [hf0]; simp only [rn0, rn1, rn2, reduceIte, Nat.reduceEqDiff, Nat.reduceAdd, Nat.reduceMul, Nat.reduceSub, Nat.reduceLeDiff, Nat.reduceLT, p1, p3, p4, p16, p17]
    clear hf0
    have nl := hl.next
    have fl := hl.floor
    have oldh : ∀ i, i < g.next → h2.get i = g.get i := fun i hi => by rw [hl.old i (by omega), o5 i hi]
    have oldh4 : ∀ i, i < g4.next → h2.get i = g4.get i := fun i hi => by rw [oldh i (by omega), hold i hi]
    have hrm : Row h2 (g.next + 1) [.int .i64 (k : Int)] := rb5.mono hl.sub
    have hrn : Row h2 g.next [.int .i64 (S.ns : Int)] := ra5.mono hl.sub
    have hloop := hl.loop
    have hmark := hl.mark
    generalize hr0 : loopO _ ts _ _ _ _ = r at hloop ⊢
    have r1 : r.state = .ready := by rw [← hr0]; rfl
    have r2 : View 41 r.tmps f0 := by rw [← hr0]; exact hv
    have r3 : r.params = #[26] := by rw [← hr0]; rfl
    have r4' : compCode Try.prog 41 r.assign = some ra97_0 := by rw [← hr0]; exact raok97_0
    have r5 : compCode Try.prog 41 r.body = some rb97_0 := by rw [← hr0]; exact rbok97_0
    have r6 : leftBy r .norm = r := by rw [← hr0]; rfl
    clear hr0 hl hv
    have hb10 := bnd_le k (by omega)
    obtain ⟨rs, hrs⟩ : ∃ rs, rs = (combs S.ns k 0).find? (fun l => decide (CovS S l)) := ⟨_, rfl⟩
    have hlv : leaveN S.ns (CovS S) (k + 1) = rs := by
      rw [leaveN, hno, hrs]
    have hit := setsIter_c (P := CovS S) (N := S.ns) (M := k) (K := 10) (N0 := 2100) (pm := g.next + 1) (pn := g.next) (yv := .func (.yield (g5.next + 1)) #[] #[]) (g := h2) (n := n) (r := rs)
      (fun l g' => (∃ v', g'.get g3.next = some (.row [v'] true 0) ∧ Ints g' v' l.length (atL l) ∧ oneCell v' = true ∧ ∀ x q c, v' = .slice (some x) q c → h2.next ≤ x.block) ∧ (∀ i, i < h2.next → i ≠ g3.next → i ≠ g5.next + 1 → g'.get i = h2.get i) ∧ g'.get (g5.next + 1) = some (.loop (leftBy r (.exit 0)))) hrs
      z5 (by omega) hrm hrn rfl (by simp [eqV, eqCell]) (by omega) (by omega) (by omega)
      (fun m g1' l v hm hi ho hb hlen hbase hup1 hfg1 hr1 => by
        obtain ⟨m, rfl⟩ : ∃ p, m = p + 1 := ⟨m - 1, by omega⟩
        rw [call_yield]
        have hloop1 : g1'.get (g5.next + 1) = some (.loop r) := by rw [hbase _ (by omega)]; exact hloop
        have hll : l.length ≤ 40 := by omega
        suffices key : ∃ e g', roundA Try.prog (call m) m (g5.next + 1) [v] g1' = some (.bool (goesOn e), g') ∧ ((CovS S l → e = .exit 0 ∧ (∃ v', g'.get g3.next = some (.row [v'] true 0) ∧ Ints g' v' l.length (atL l) ∧ oneCell v' = true ∧ ∀ x q c, v' = .slice (some x) q c → h2.next ≤ x.block) ∧ (∀ i, i < h2.next → i ≠ g3.next → i ≠ g5.next + 1 → g'.get i = h2.get i) ∧ g'.get (g5.next + 1) = some (.loop (leftBy r (.exit 0)))) ∧ (¬ CovS S l → e = .norm ∧ ∀ i, i < g1'.next → g'.get i = g1'.get i) ∧ g'.floor = h2.floor ∧ g1'.next ≤ g'.next ∧ g'.next ≤ g1'.next + 10) by
          obtain ⟨e, g', k1, k2, k3, k4, k5, k6⟩ := key
          constructor
          · intro hc
            obtain ⟨rfl, q⟩ := k2 hc
            exact ⟨g', k1, q, k4, k5, k6⟩
          · intro hc
            obtain ⟨rfl, q⟩ := k3 hc
            exact ⟨g', k1, q, k4, k5, k6⟩
        refine round_run (f := f0) hloop1 r1 r2 (by rw [r3]; rfl) (by omega) r4' r5 ?_
        have hset : setFr f0 r.params.toList [v] = upd f0 26 v := by rw [r3]; rfl
        rw [hset]
        simp only [rn0, rn1, rn2, reduceIte, Nat.reduceEqDiff, Nat.reduceAdd, Nat.reduceMul, Nat.reduceSub, Nat.reduceLeDiff, Nat.reduceLT, ra97_0]
        refine step_new (vs := [v]) (by omega) (by omega) rfl (by simp only [rn0, rn1, rn2, reduceIte, Nat.reduceEqDiff, Nat.reduceAdd, Nat.reduceMul, Nat.reduceSub, Nat.reduceLeDiff, Nat.reduceLT]; exact cells1 ho) (by simp [allB, ho]) rfl rfl fun ga hxa => ?_
        have na := hxa.next
        have fa := hxa.floor
        simp only [rn0, rn1, rn2, reduceIte, Nat.reduceEqDiff, Nat.reduceAdd, Nat.reduceMul, Nat.reduceSub, Nat.reduceLeDiff, Nat.reduceLT]
        refine ⟨by rw [hxa.old _ (by omega)]; exact hloop1, by omega, fun gb hpb => ?_⟩
        have nb := hpb.next
        have fb := hpb.floor
        have gbold : ∀ i, i < g1'.next → i ≠ g5.next + 1 → gb.get i = g1'.get i := fun i hi hne => by rw [hpb.old i hne, hxa.old i hi]
        have gb4 : ∀ i, i < g4.next → gb.get i = g4.get i := fun i hi => by rw [gbold i (by omega) (by omega), hbase i (by omega), oldh4 i hi]
        have sub4b : Sub All g4 gb := AHeap.subOf gb4
        have rab := ra4.mono sub4b
        have hallb := hall4.mono sub4b
        obtain ⟨R, hcR, hiR⟩ := hallb
        have rc : Row gb g1'.next [v] := by
          obtain ⟨w, gr, e⟩ := hxa.row
          exact ⟨w, gr, by rw [hpb.old _ (by omega)]; exact e⟩
        have hib : Ints gb v l.length (atL l) := cells_at hi fun a q c e hlt => gbold _ hlt (by have := (hb a q c e).1; omega)
        have lb : gb.get (g5.next + 1) = some (.loop { r with state := .busy }) := hpb.get
        have epb : gb.get g3.next = some (.row [nilS] true 0) := by rw [gb4 _ (by omega)]; exact rp4
        simp only [rn0, rn1, rn2, reduceIte, Nat.reduceEqDiff, Nat.reduceAdd, Nat.reduceMul, Nat.reduceSub, Nat.reduceLeDiff, Nat.reduceLT, rb97_0, c1, c3, c4, rab.ld, Nat.zero_add, List.getElem?_cons_zero, Cells.len hcR]
        refine W_loop (allW S).length (fun j f g' ms => (g' = gb ∧ ∀ j', j' < j → ¬ CovJ S l j') ∧ ms = [] ∧ f 3 = .pointer (some ⟨g2.next, 0, none⟩) ∧ f 4 = .pointer (some ⟨g3.next, 0, none⟩) ∧ f 6 = .pointer (some ⟨g1'.next, 0, none⟩) ∧ f 7 = .func (.func 125) ⟨[]⟩ ⟨[.pointer (some ⟨g1'.next, 0, none⟩)]⟩ ∧ f 28 = av ∧ f 29 = .int .i64 ((allW S).length : Int) ∧ f 30 = .int .i64 (j : Int)) (by simp; omega) ?_ ?_ ?_
        · simp only [rn0, rn1, rn2, reduceIte, Nat.reduceEqDiff, Nat.reduceAdd, Nat.reduceMul, Nat.reduceSub, Nat.reduceLeDiff, Nat.reduceLT, c1, c3, c4]
          first | exact ⟨⟨rfl, fun i hi => absurd hi (Nat.not_lt_zero _)⟩, rfl⟩ | exact ⟨fun i hi => absurd hi (Nat.not_lt_zero _), rfl⟩ | exact fun i hi => absurd hi (Nat.not_lt_zero _) | trace_state
        · rintro j f g' ms hj ⟨⟨rfl, hno'⟩, rfl, p3, p4, p6, p7, p28, p29, p30⟩
          have hj' : (j : Int) < ((allW S).length : Int) := by omega
          have hwj : wrapF .i64 ((j : Int) + 1) = ((j + 1 : Nat) : Int) := by rw [wrap_in (by omega) (by omega)]; rfl
          have hwl : ((allW S).getD j []).length ≤ 40 := by
            have hm : (allW S).getD j [] ∈ allW S := by
              rw [List.getD_eq_getElem?_getD, List.getElem?_eq_getElem hj]
              exact List.getElem_mem hj
            obtain ⟨t, _, e⟩ := List.mem_map.1 hm
            rw [← e]
            exact Nat.le_trans wrong_len (by omega)
          have eev := everyI_c (n := m) (h := g') (v := R j) (ok := .func (.func 125) ⟨[]⟩ ⟨[.pointer (some ⟨g1'.next, 0, none⟩)]⟩) (p := fun i => ∃ i', i' < l.length ∧ atL ((allW S).getD j []) i = atL l i') (by omega) (by omega) hwl (hiR j hj) fun g hs hg i hi => by
            have q := isLeft_c (n := m - 1) (h := g) (by omega) (by omega) (rc.mono hs) (Cells.mono hib hs) hll (atL ((allW S).getD j []) i)
            rw [q]
            have e : ∀ (i1 i2 : Decidable (∃ i', i' < l.length ∧ atL ((allW S).getD j []) i = atL l i')), @decide _ i1 = @decide _ i2 := fun i1 i2 => by rw [Subsingleton.elim i1 i2]
            exact congrArg (fun b => some (Value.bool b, g)) (e _ _)
          obtain ⟨bb, hbb, eev⟩ := dec_ex (F := fun b => call m (.func (.func 120) #[] #[]) [R j, .func (.func 125) ⟨[]⟩ ⟨[.pointer (some ⟨g1'.next, 0, none⟩)]⟩] g' = some (.bool b, g')) eev
          have hbb : bb = true ↔ CovJ S l j := hbb
          by_cases c : CovJ S l j
          · have hcov : CovS S l := cov_iff.2 ⟨j, hj, c⟩
            rw [hbb.2 c] at eev
            simp only [rn0, rn1, rn2, reduceIte, Nat.reduceEqDiff, Nat.reduceAdd, Nat.reduceMul, Nat.reduceSub, Nat.reduceLeDiff, Nat.reduceLT, p3, p4, p6, p7, p28, p29, p30, hj', Cells.idx hcR hj, Cells.ld hcR hj Nat.zero_lt_one, eev, rc.ld, Nat.zero_add, List.getElem?_cons_zero]
            refine step_store (b := g3.next) (off := 0) (vs := [v]) rfl epb (by omega) (by omega) (by cases v <;> first | rfl | cases ho) (by simp [allB, ho]) rfl (by simp) fun gc hsc => ?_
            rw [splice1] at hsc
            have nc := hsc.next
            have fc := hsc.floor
            simp only [rn0, rn1, rn2, reduceIte, Nat.reduceEqDiff, Nat.reduceAdd, Nat.reduceMul, Nat.reduceSub, Nat.reduceLeDiff, Nat.reduceLT]
            refine ⟨by rw [hsc.old _ (by omega)]; exact lb, by omega, by omega, fun gd hpd => ⟨fun _ => ⟨⟨v, ?_, ?_, ho, fun x q c e => by have := (hb x q c e).1; omega⟩, fun i hi a1 a2 => ?_, hpd.get⟩, fun hn => absurd hcov hn, by rw [hpd.floor]; omega, by rw [hpd.next]; omega, by rw [hpd.next]; omega⟩⟩
            · rw [hpd.old _ (by omega)]; exact hsc.get
            · exact cells_at hib fun a q c e hlt => by
                have := (hb a q c e).1
                rw [hpd.old _ (by omega), hsc.old _ (by omega)]
            · rw [hpd.old i a2, hsc.old i a1, gbold i (by omega) a2, hbase i hi]
          · have hbf : bb = false := by
              cases bb with
              | false => rfl
              | true => exact absurd (hbb.1 rfl) c
            rw [hbf] at eev
            have hno2 : ∀ j', j' < j + 1 → ¬ CovJ S l j' := fun j' hj1 => by
              by_cases e : j' = j
              · rw [e]; exact c
              · exact hno' j' (by omega)
            simp only [rn0, rn1, rn2, reduceIte, Nat.reduceEqDiff, Nat.reduceAdd, Nat.reduceMul, Nat.reduceSub, Nat.reduceLeDiff, Nat.reduceLT, p3, p4, p6, p7, p28, p29, p30, hj', Cells.idx hcR hj, Cells.ld hcR hj Nat.zero_lt_one, eev, hwj]
            first | exact ⟨⟨rfl, hno2⟩, rfl⟩ | exact ⟨hno2, rfl⟩ | exact hno2
        · rintro f g' ms ⟨⟨rfl, hno'⟩, rfl, p3, p4, p6, p7, p28, p29, p30⟩
          have hncov : ¬ CovS S l := fun q => by
            obtain ⟨j, j1, j2⟩ := cov_iff.1 q
            exact hno' j j1 j2
          simp only [rn0, rn1, rn2, reduceIte, Nat.reduceEqDiff, Nat.reduceAdd, Nat.reduceMul, Nat.reduceSub, Nat.reduceLeDiff, Nat.reduceLT, p3, p4, p6, p7, p28, p29, p30, Int.lt_irrefl]
          refine ⟨lb, by omega, by omega, fun gd hpd => ⟨fun hc => absurd hc hncov, fun _ => fun i hi => ?_, by rw [hpd.floor]; omega, by rw [hpd.next]; omega, by rw [hpd.next]; omega⟩⟩
          by_cases e : i = g5.next + 1
          · subst e; rw [hpd.get, r6]; exact hloop1.symm
          · rw [hpd.old i e, gbold i hi e])
      (by omega)
    obtain ⟨v6, g6, e6, f6, u6, m6, k6, q6⟩ := hit
    cases hrr : rs with
    | some l =>
      obtain ⟨⟨v', t1, t2, t3, t4⟩, t5, t6⟩ := k6 l hrr
      have hls : leaveS S = l := by
        have h1 := leaveS_is hG
        have h2 := leaveN_up (hlv.trans hrr) (S.ns - k)
        rw [show k + 1 + (S.ns - k) = S.ns + 1 by omega, h1] at h2
        exact Option.some.inj h2
      refine ⟨v6, g6, .exit 0, e6, by omega, by omega, t6, fun g7 hp7 => ?_⟩
      have n7 := hp7.next
      have f7 := hp7.floor
      have t7 : Row g7 g3.next [v'] := ⟨true, 0, by rw [hp7.old _ (by omega)]; exact t1⟩
      simp only [rn0, rn1, rn2, reduceIte, Nat.reduceEqDiff, Nat.reduceAdd, Nat.reduceMul, Nat.reduceSub, Nat.reduceLeDiff, Nat.reduceLT, c4, t7.ld, Nat.zero_add, List.getElem?_cons_zero]
      refine ret_marks (ms := g5.next :: ms) (List.nodup_cons.2 ⟨fun q => by have := (hmk.2 _ q).2.1; omega, hmk.1⟩) (fun d hd => ?_) (by omega) fun g8 ho8 n8 f8 => ?_
      · rcases List.mem_cons.1 hd with rfl | hd
        · exact ⟨by omega, by rw [hp7.old _ (by omega), t5 _ (by omega) (by omega) (by omega)]; exact hmark⟩
        · obtain ⟨d1, d2, d3⟩ := hmk.2 d hd
          exact ⟨by omega, by rw [hp7.old _ (by omega), t5 _ (by omega) (by omega) (by omega), oldh _ d2]; exact d3⟩
      · have nin : ∀ i, i < g4.next ∨ h2.next ≤ i → i ∉ g5.next :: ms := fun i hi q => by
          rcases List.mem_cons.1 q with rfl | q
          · omega
          · have := hmk.2 i q; omega
        simp only [rn0, rn1, rn2, reduceIte, Nat.reduceEqDiff, Nat.reduceAdd, Nat.reduceMul, Nat.reduceSub, Nat.reduceLeDiff, Nat.reduceLT]
        rw [hls]
        refine ⟨cells_at t2 fun a q c e hlt => ?_, t3, fun i hi => ?_, by omega, by omega, by omega⟩
        · have := t4 a q c e
          rw [ho8 _ (nin _ (by omega)), hp7.old _ (by omega)]
        · rw [ho8 _ (nin _ (by omega)), hp7.old _ (by omega), t5 _ (by omega) (by omega) (by omega), oldh4 _ (by omega), old4 _ (by omega), hx1.old i hi]
    | none =>
      have hq := q6 hrr
      refine ⟨v6, g6, .norm, e6, by omega, by omega, by rw [r6, hq _ (by omega)]; exact hloop, fun g7 hp7 => ?_⟩
      have n7 := hp7.next
      have f7 := hp7.floor
      have low7 : ∀ i, i < h2.next → i ≠ g5.next + 1 → g7.get i = h2.get i := fun i hi hne => by rw [hp7.old i hne, hq i hi]
      simp only [rn0, rn1, rn2, reduceIte, Nat.reduceEqDiff, Nat.reduceAdd, Nat.reduceMul, Nat.reduceSub, Nat.reduceLeDiff, Nat.reduceLT, c1, c3, c4, c16, c17, hw]
      have hmk7 : MarksR g4.next (g5.next :: ms) g7 := by
        refine ⟨List.nodup_cons.2 ⟨fun q => by have := (hmk.2 _ q).2.1; omega, hmk.1⟩, fun d hd => ?_⟩
        rcases List.mem_cons.1 hd with rfl | hd
        · exact ⟨by omega, by omega, by rw [low7 _ (by omega) (by omega)]; exact hmark⟩
        · obtain ⟨d1, d2, d3⟩ := hmk.2 d hd
          exact ⟨by omega, by omega, by rw [low7 _ (by omega) (by omega), oldh _ d2]; exact d3⟩
      rw [hk1]
      have hfin := And.intro (show ∀ i, i < g4.next → g7.get i = g4.get i from fun i hi => by rw [low7 i (by omega) (by omega), oldh4 i hi]) (And.intro (show g4.next ≤ g7.next by omega) (And.intro (show g7.next ≤ g4.next + (kC + C) by omega) (And.intro (show g7.floor = g4.floor by omega) (And.intro hmk7 (hlv.trans hrr)))))
      first | exact hfin | exact ⟨hfin, rfl⟩ | exact ⟨hfin, rfl, rfl⟩ | trace_state
  · rintro f g ms ⟨⟨hold, hup, hnx, hfg, hmk, hno⟩, p1, p3, p4, p16, p17⟩
    rw [leaveS_is hG] at hno
    cases hno

def CanB (S : MS) (s : Nat) : Prop := ∃ c, c ∈ allE S ∧ ∀ x, x < S.ns → Bit s x → RightS S c x
noncomputable instance (S : MS) (s : Nat) : Decidable (CanB S s) := Classical.propDecidable _
theorem all_mem {S : MS} (hG : Good S) {c : Nat → Int} : c ∈ allE S ↔ ∃ i, i < (manyS S).toNat ∧ nthU S i = c := by
  unfold allE
  rw [← (all_perm hG).mem_iff, List.mem_map]
  simp only [List.mem_range]
end Go.Vm.St

namespace Go.Vm
open Go.Vm.Vat
open Classical in
noncomputable def fstP (p : Nat → Prop) : Nat → Option Nat
  | 0 => none
  | k + 1 => match fstP p k with
    | some v => some v
    | none => if p k then some k else none
section
variable {p : Nat → Prop}
open Classical in
theorem fstP_none : ∀ {k : Nat}, fstP p k = none ↔ ∀ i, i < k → ¬ p i
  | 0 => ⟨fun _ i hi => absurd hi (Nat.not_lt_zero _), fun _ => rfl⟩
  | k + 1 => by
    have ih := fstP_none (k := k)
    constructor
    · intro h i hi
      rw [fstP] at h
      cases e : fstP p k with
      | some v => rw [e] at h; cases h
      | none =>
        rw [e] at h
        by_cases c : i = k
        · subst c
          intro q
          simp only [if_pos q] at h
          cases h
        · exact ih.1 e i (by omega)
    · intro h
      rw [fstP, ih.2 fun i hi => h i (by omega)]
      exact if_neg (h k (by omega))
open Classical in
theorem fstP_at {k m : Nat} (hk : k < m) (h0 : ∀ i, i < k → ¬ p i) (h1 : p k) : fstP p m = some k := by
  have e0 := fstP_none.2 h0
  have up : ∀ d, fstP p (k + 1 + d) = some k := by
    intro d
    induction d with
    | zero => show fstP p (k + 1) = some k; rw [fstP, e0]; exact if_pos h1
    | succ d ih => show fstP p (k + 1 + d + 1) = some k; rw [fstP, ih]
  have := up (m - (k + 1))
  rw [show k + 1 + (m - (k + 1)) = m by omega] at this
  exact this
theorem pick_head : ∀ {N : Nat}, pickL p N ≠ [] → ∃ x : Nat, x < N ∧ atL (pickL p N) 0 = (x : Int) ∧ p x ∧ ∀ i, i < x → ¬ p i
  | 0, h => absurd rfl h
  | N + 1, h => by
    by_cases c : p N
    · rw [pick_yes c] at h ⊢
      by_cases c0 : pickL p N = []
      · refine ⟨N, by omega, by rw [c0]; rfl, c, fun i hi hp => ?_⟩
        obtain ⟨j, j1, _⟩ := pick_has (p := p) hi hp
        rw [c0] at j1
        exact absurd j1 (Nat.not_lt_zero _)
      · obtain ⟨x, x1, x2, x3⟩ := pick_head c0
        exact ⟨x, by omega, by rw [at_append (List.length_pos_iff.2 c0)]; exact x2, x3⟩
    · rw [pick_no c] at h ⊢
      obtain ⟨x, x1, x2, x3⟩ := pick_head h
      exact ⟨x, by omega, x2, x3⟩
end
end Go.Vm
namespace Go.Vm.St
open Go.Proofs Go.Vm.Vat
set_option linter.unusedSimpArgs false
set_option linter.unusedVariables false
set_option maxRecDepth 10000
variable {n : Nat} {h : AHeap}
def blkS (S : MS) (k : Nat) : Prop := ∀ t, t ∈ allE S → ∃ i, i ≤ k ∧ i < S.ns ∧ wrS S t i
noncomputable def firstF (S : MS) : Option Nat := fstP (blkS S) S.ns
noncomputable def firstV (S : MS) : Int := if faultS S = 0 then optI (firstF S) 0 else 0
noncomputable def firstE (S : MS) : Int := if faultS S = 0 then (if firstF S = none then 7 else 0) else faultS S
def headM (L : List (List Int)) : Nat → Int
  | 0 => 0
  | j + 1 => max (headM L j) (atL (L.getD j []) 0)
theorem headM_le {L : List (List Int)} : ∀ {j i : Nat}, i < j → atL (L.getD i []) 0 ≤ headM L j
  | j + 1, i, hi => by
    simp only [headM]
    by_cases c : i = j
    · rw [c]; omega
    · have := headM_le (L := L) (show i < j by omega)
      omega
theorem headM_at {L : List (List Int)} : ∀ {j : Nat}, headM L j = 0 ∨ ∃ i, i < j ∧ headM L j = atL (L.getD i []) 0
  | 0 => .inl rfl
  | j + 1 => by
    simp only [headM]
    rcases Int.le_total (headM L j) (atL (L.getD j []) 0) with c | c
    · right
      exact ⟨j, by omega, by omega⟩
    · rw [show max (headM L j) (atL (L.getD j []) 0) = headM L j by omega]
      rcases headM_at (L := L) (j := j) with q | ⟨i, i1, i2⟩
      · exact .inl q
      · exact .inr ⟨i, by omega, i2⟩
theorem allW_at {S : MS} {j : Nat} (hj : j < (allW S).length) : ∃ t, t ∈ allE S ∧ (allW S).getD j [] = wrongL S t := by
  have hm : (allW S).getD j [] ∈ allW S := by
    rw [List.getD_eq_getElem?_getD, List.getElem?_eq_getElem hj]
    exact List.getElem_mem hj
  obtain ⟨t, ht, e⟩ := List.mem_map.1 hm
  exact ⟨t, ht, e.symm⟩
theorem allW_of {S : MS} {t : Nat → Int} (ht : t ∈ allE S) : ∃ j, j < (allW S).length ∧ (allW S).getD j [] = wrongL S t := by
  have hm : wrongL S t ∈ allW S := List.mem_map.2 ⟨t, ht, rfl⟩
  obtain ⟨j, hj, e⟩ := List.getElem_of_mem hm
  exact ⟨j, hj, by rw [List.getD_eq_getElem?_getD, List.getElem?_eq_getElem hj]; exact e⟩
theorem first_none {S : MS} {j : Nat} (hj : j < (allW S).length) (h0 : (allW S).getD j [] = []) : firstF S = none := by
  obtain ⟨t, ht, e⟩ := allW_at hj
  rw [h0] at e
  refine fstP_none.2 fun k hk hb => ?_
  obtain ⟨i, _, i2, i3⟩ := hb t ht
  obtain ⟨q, q1, _⟩ := pick_has (p := wrS S t) i2 i3
  have q1 : q < (wrongL S t).length := q1
  rw [← e] at q1
  exact absurd q1 (Nat.not_lt_zero _)
theorem first_some {S : MS} (hG : Good S) (hn : ∀ j, j < (allW S).length → (allW S).getD j [] ≠ []) : ∃ N : Nat, firstF S = some N ∧ headM (allW S) (allW S).length = (N : Int) := by
  have hpos : 0 < (allW S).length := by
    unfold allW
    rw [List.length_map]
    exact List.length_pos_iff.2 (allE_ne hG)
  have hhead : ∀ j, j < (allW S).length → ∃ t, t ∈ allE S ∧ ∃ x : Nat, x < S.ns ∧ atL ((allW S).getD j []) 0 = (x : Int) ∧ wrS S t x ∧ ∀ i, i < x → ¬ wrS S t i := fun j hj => by
    obtain ⟨t, ht, e⟩ := allW_at hj
    have hne := hn j hj
    rw [e] at hne
    obtain ⟨x, x1, x2, x3, x4⟩ := pick_head hne
    exact ⟨t, ht, x, x1, by rw [e]; exact x2, x3, x4⟩
  obtain ⟨N, hN, j0, hj0, hN0⟩ : ∃ N : Nat, headM (allW S) (allW S).length = (N : Int) ∧ ∃ j, j < (allW S).length ∧ atL ((allW S).getD j []) 0 = (N : Int) := by
    rcases headM_at (L := allW S) (j := (allW S).length) with q | ⟨j, j1, j2⟩
    · obtain ⟨t, _, x, x1, x2, _⟩ := hhead 0 hpos
      have := headM_le (L := allW S) hpos
      exact ⟨0, q, 0, hpos, by omega⟩
    · obtain ⟨t, _, x, x1, x2, _⟩ := hhead j j1
      exact ⟨x, by rw [j2, x2], j, j1, x2⟩
  refine ⟨N, ?_, hN⟩
  obtain ⟨t0, ht0, x0, x1, x2, x3, x4⟩ := hhead j0 hj0
  have hx0 : x0 = N := by omega
  subst hx0
  refine fstP_at x1 (fun i hi hb => ?_) (fun t ht => ?_)
  · obtain ⟨k, k1, k2, k3⟩ := hb t0 ht0
    exact x4 k (by omega) k3
  · obtain ⟨j, hj, e⟩ := allW_of ht
    have hne := hn j hj
    rw [e] at hne
    obtain ⟨x, y1, y2, y3, y4⟩ := pick_head hne
    have hle := headM_le (L := allW S) hj
    rw [e] at hle
    have y2 : atL (wrongL S t) 0 = (x : Int) := y2
    exact ⟨x, by omega, y1, y3⟩
def s51 : SCode := (.seq (.ops [⟨(some 1), none, .box (T 0)⟩, ⟨(some 2), none, .mov (.const (.int .i64 (0)))⟩, ⟨(some 3), none, .mov (.const (.int .i64 (0)))⟩]) (.seq (.seq (.ops [⟨(some 8), none, .loadN 7 (T 1)⟩, ⟨(some 9), none, .call (.func 30) [(T 8)]⟩, ⟨(some 4), none, .mov (T 9)⟩]) (.seq (.ops [⟨(some 10), none, .mov (T 4)⟩, ⟨(some 11), none, .int2 .neq (T 10) (.const (.int .i64 (0)))⟩]) (.cond (T 11) (.seq (.ops [⟨(some 12), none, .mov (T 4)⟩, ⟨(some 2), none, .mov (.const (.int .i64 (0)))⟩, ⟨(some 3), none, .mov (T 12)⟩]) .ret) .skip))) (.seq (.ops [⟨(some 5), none, .mov (.const (.int .i64 (0)))⟩]) (.seq (.seq (.ops [⟨(some 13), none, .loadN 7 (T 1)⟩, ⟨(some 14), none, .build #[(0, 7), (7, 1)] [(.int .i64 (0)), (.int .i64 (0)), (.slice none 0 0), (.int .i64 (0)), (.int .i64 (0)), (.slice none 0 0), (.slice none 0 0), (.slice none 0 0)] [0] [(T 13)]⟩, ⟨(some 15), none, .call (.func 96) [(T 14)]⟩, ⟨(some 16), none, .len (T 15)⟩, ⟨(some 17), none, .mov (.const (.int .i64 (0)))⟩]) (.block 0 (.loop (.seq (.ops [⟨(some 18), none, .int2 .lss (T 17) (T 16)⟩]) (.seq (.cond (T 18) .skip (.exit 0)) (.seq (.block 1 (.seq (.ops [⟨(some 19), none, .idxSl 1 (T 15) (T 17)⟩, ⟨(some 20), none, .load1 (T 19)⟩, ⟨(some 7), none, .mov (T 20)⟩]) (.seq (.seq (.ops [⟨(some 21), none, .mov (T 7)⟩, ⟨(some 22), none, .len (T 21)⟩, ⟨(some 23), none, .int2 .eql (T 22) (.const (.int .i64 (0)))⟩]) (.cond (T 23) (.seq (.ops [⟨(some 2), none, .mov (.const (.int .i64 (0)))⟩, ⟨(some 3), none, .mov (.const (.int .i64 (7)))⟩]) .ret) .skip)) (.ops [⟨(some 24), none, .mov (T 5)⟩, ⟨(some 25), none, .mov (T 7)⟩, ⟨(some 26), none, .idxSl 1 (T 25) (.const (.int .i64 (0)))⟩, ⟨(some 27), none, .load1 (T 26)⟩, ⟨(some 28), none, .plain (.call { callee := .builtin .max, args := #[(T 24), (T 27)], argTypes := #[3, 3] }) 3⟩, ⟨(some 5), none, .mov (T 28)⟩])))) (.ops [⟨(some 29), none, .int2 .add (T 17) (.const (.int .i64 (1)))⟩, ⟨(some 17), none, .mov (T 29)⟩]))))))) (.seq (.ops [⟨(some 30), none, .mov (T 5)⟩, ⟨(some 2), none, .mov (T 30)⟩, ⟨(some 3), none, .mov (.const (.int .i64 (0)))⟩]) .ret)))))
theorem fok51 : FnOk Try.prog 51 31 s51 [.tmp 2, .tmp 3] := ⟨Try.f51, _, Try.func51, rfl, Try.ntmps51, by kernel_rfl, by kernel_rfl⟩
set_option maxHeartbeats 2000000 in
theorem firstP_c (hn : 2600 ≤ n) (hr : h.next + 1200000 < far) {wv vv sv : Value} {S : MS} (hy : SteepR h wv vv sv S) (hT : ThinS S) :
    call n (.func (.func 51) #[] #[]) [.agg ⟨stL S wv vv sv⟩] h = some (.tuple ⟨[.int .i64 (firstV S), .int .i64 (firstE S)]⟩, h) := by
  obtain ⟨n, rfl⟩ : ∃ p, n = p + 1 := ⟨n - 1, by omega⟩
  refine call_plain0 fok51 rfl rfl (by simp) rfl ?_
  have hy := hy.shut
  have hr : h.shutAll.next + 1200000 < far := hr
  have hfl : h.shutAll.floor ≤ h.shutAll.next := Nat.le_refl _
  generalize h.shutAll = h at hy hr hfl
  simp only [s51, W_seq, W_ops]
  refine ops_box (cs := stL S wv vv sv) (by omega) rfl hy.one fun g1 hx1 => ?_
  have n1 := hx1.next
  have f1 := hx1.floor
  have hy1 := hy.mono hx1.sub
  have w1 := hx1.row.whole (n := 7) rfl
  have ec := check_c (n := n) (h := g1) (by omega) (by omega) hy1 hT
  by_cases hf : faultS S = 0
  case neg =>
    have q1 : firstV S = 0 := if_neg hf
    have q2 : firstE S = faultS S := if_neg hf
    rw [q1, q2]
    simp only [rn0, rn1, rn2, reduceIte, Nat.reduceEqDiff, Nat.reduceAdd, Nat.reduceMul, Nat.reduceSub, Nat.reduceLeDiff, Nat.reduceLT, w1, ec, hf, ret_tt]
  have hG := good_of hf
  have q1 : firstV S = optI (firstF S) 0 := if_pos hf
  have q2 : firstE S = if firstF S = none then 7 else 0 := if_pos hf
  obtain ⟨_, _, _, _, _, z5, _⟩ := hG.sizes
  have hlenW : (allW S).length ≤ 2000 := by unfold allW; rw [List.length_map]; exact enum_len hG
  obtain ⟨av, g2, e2, ⟨R, hcR, hiR⟩, oav, o2, u2, m2, f2⟩ := wrongAll_c (n := n) (h := g1) (by omega) (by omega) (by omega) hy1 hG
  simp only [rn0, rn1, rn2, reduceIte, Nat.reduceEqDiff, Nat.reduceAdd, Nat.reduceMul, Nat.reduceSub, Nat.reduceLeDiff, Nat.reduceLT, w1, ec, hf, build_wk, e2, Cells.len hcR]
  refine W_loop (allW S).length (fun j f g ms => (g = g2 ∧ ∀ i, i < j → (allW S).getD i [] ≠ []) ∧ ms = [] ∧ f 5 = .int .i64 (headM (allW S) j) ∧ f 15 = av ∧ f 16 = .int .i64 ((allW S).length : Int) ∧ f 17 = .int .i64 (j : Int)) (by simp; omega) ?_ ?_ ?_
  · simp only [rn0, rn1, rn2, reduceIte, Nat.reduceEqDiff, Nat.reduceAdd, Nat.reduceMul, Nat.reduceSub, Nat.reduceLeDiff, Nat.reduceLT, headM]
    first | exact ⟨⟨rfl, fun i hi => absurd hi (Nat.not_lt_zero _)⟩, rfl⟩ | exact ⟨fun i hi => absurd hi (Nat.not_lt_zero _), rfl⟩ | exact fun i hi => absurd hi (Nat.not_lt_zero _)
  · rintro j f g ms hj ⟨⟨rfl, hno⟩, rfl, p5, p15, p16, p17⟩
    have hj' : (j : Int) < ((allW S).length : Int) := by omega
    have hwj : wrapF .i64 ((j : Int) + 1) = ((j + 1 : Nat) : Int) := by rw [wrap_in (by omega) (by omega)]; rfl
    have hij := hiR j hj
    by_cases c : (allW S).getD j [] = []
    · have hl0 : (((allW S).getD j []).length : Int) = 0 := by rw [c]; rfl
      have hN := first_none hj c
      have q3 : optI (firstF S) 0 = 0 := by rw [hN]; rfl
      rw [q1, q2, q3, if_pos hN]
      simp only [rn0, rn1, rn2, reduceIte, Nat.reduceEqDiff, Nat.reduceAdd, Nat.reduceMul, Nat.reduceSub, Nat.reduceLeDiff, Nat.reduceLT, p5, p15, p16, p17, hj', Cells.idx hcR hj, Cells.ld hcR hj Nat.zero_lt_one, Cells.len hij, hl0, ret_tt]
    · have hlp : 0 < ((allW S).getD j []).length := List.length_pos_iff.2 c
      have hl0 : ¬ (((allW S).getD j []).length : Int) = 0 := by omega
      have i0 : indexSl 1 (R j) (.int .i64 0) = some (ptrO (R j) 1 0 0) := Cells.idx hij hlp
      have l0 := Cells.ld hij hlp Nat.zero_lt_one
      have hno2 : ∀ i, i < j + 1 → (allW S).getD i [] ≠ [] := fun i hi => by
        by_cases e : i = j
        · rw [e]; exact c
        · exact hno i (by omega)
      have hmx : max (headM (allW S) j) (atL ((allW S).getD j []) 0) = headM (allW S) (j + 1) := rfl
      simp only [rn0, rn1, rn2, reduceIte, Nat.reduceEqDiff, Nat.reduceAdd, Nat.reduceMul, Nat.reduceSub, Nat.reduceLeDiff, Nat.reduceLT, p5, p15, p16, p17, hj', Cells.idx hcR hj, Cells.ld hcR hj Nat.zero_lt_one, Cells.len hij, hl0, i0, l0, valN_tmp, hmx, hwj]
      first | exact ⟨⟨rfl, hno2⟩, rfl⟩ | exact ⟨rfl, hno2⟩ | exact ⟨hno2, rfl⟩ | exact hno2
  · rintro f g ms ⟨⟨rfl, hno⟩, rfl, p5, p15, p16, p17⟩
    obtain ⟨N, hN, hM⟩ := first_some hG hno
    have q3 : optI (firstF S) 0 = (N : Int) := by rw [hN]; rfl
    have q4 : (if firstF S = none then (7 : Int) else 0) = 0 := by rw [hN]; rfl
    rw [q1, q2, q3, q4]
    rw [hM] at p5
    simp only [rn0, rn1, rn2, reduceIte, Nat.reduceEqDiff, Nat.reduceAdd, Nat.reduceMul, Nat.reduceSub, Nat.reduceLeDiff, Nat.reduceLT, p5, p15, p16, p17, Int.lt_irrefl, ret_tt]
def LeaveR (h : AHeap) (S : MS) (v : Value) (h' : AHeap) : Prop := (∀ i, i < h.next → h'.get i = h.get i) ∧ h.next ≤ h'.next ∧ h'.next ≤ h.next + 1000010 ∧ h'.floor = h.floor ∧
  ((faultS S ≠ 0 ∧ v = .tuple ⟨[nilS, .int .i64 (faultS S)]⟩) ∨ (faultS S = 0 ∧ ∃ l, v = .tuple ⟨[l, .int .i64 0]⟩ ∧ Ints h' l (leaveS S).length (atL (leaveS S)) ∧ oneCell l = true))
def s52 : SCode := (.seq (.ops [⟨(some 1), none, .box (T 0)⟩, ⟨(some 2), none, .mov (.const (.slice none 0 0))⟩, ⟨(some 3), none, .mov (.const (.int .i64 (0)))⟩]) (.seq (.seq (.ops [⟨(some 5), none, .loadN 7 (T 1)⟩, ⟨(some 6), none, .call (.func 30) [(T 5)]⟩, ⟨(some 4), none, .mov (T 6)⟩]) (.seq (.ops [⟨(some 7), none, .mov (T 4)⟩, ⟨(some 8), none, .int2 .neq (T 7) (.const (.int .i64 (0)))⟩]) (.cond (T 8) (.seq (.ops [⟨(some 9), none, .mov (T 4)⟩, ⟨(some 2), none, .mov (.const (.slice none 0 0))⟩, ⟨(some 3), none, .mov (T 9)⟩]) .ret) .skip))) (.seq (.ops [⟨(some 10), none, .loadN 7 (T 1)⟩, ⟨(some 11), none, .build #[(0, 7), (7, 1)] [(.int .i64 (0)), (.int .i64 (0)), (.slice none 0 0), (.int .i64 (0)), (.int .i64 (0)), (.slice none 0 0), (.slice none 0 0), (.slice none 0 0)] [0] [(T 10)]⟩, ⟨(some 12), none, .call (.func 97) [(T 11)]⟩, ⟨(some 2), none, .mov (T 12)⟩, ⟨(some 3), none, .mov (.const (.int .i64 (0)))⟩]) .ret)))
theorem fok52 : FnOk Try.prog 52 13 s52 [.tmp 2, .tmp 3] := ⟨Try.f52, _, Try.func52, rfl, Try.ntmps52, by kernel_rfl, by kernel_rfl⟩
theorem leaveP_c (hn : 2700 ≤ n) (hr : h.next + 1300000 < far) (hfl : h.floor ≤ h.next) {wv vv sv : Value} {S : MS} (hy : SteepR h wv vv sv S) (hT : ThinS S) :
    ∃ v h', call n (.func (.func 52) #[] #[]) [.agg ⟨stL S wv vv sv⟩] h = some (v, h') ∧ LeaveR h S v h' := by
  obtain ⟨n, rfl⟩ : ∃ p, n = p + 1 := ⟨n - 1, by omega⟩
  refine call_any0 fok52 rfl rfl (by simp) ?_
  simp only [s52, W_seq, W_ops]
  refine ops_box (cs := stL S wv vv sv) (by omega) rfl hy.one fun g1 hx1 => ?_
  have n1 := hx1.next
  have f1 := hx1.floor
  have hy1 := hy.mono hx1.sub
  have w1 := hx1.row.whole (n := 7) rfl
  have ec := check_c (n := n) (h := g1) (by omega) (by omega) hy1 hT
  by_cases hf : faultS S = 0
  case neg =>
    simp only [rn0, rn1, rn2, reduceIte, Nat.reduceEqDiff, Nat.reduceAdd, Nat.reduceMul, Nat.reduceSub, Nat.reduceLeDiff, Nat.reduceLT, w1, ec, hf, ret_tt]
    exact ⟨fun i hi => hx1.old i hi, by omega, by omega, by omega, .inl ⟨hf, rfl⟩⟩
  have hG := good_of hf
  obtain ⟨v, g2, e2, i2, ov, o2, u2, m2, f2⟩ := smallest_c (n := n) (h := g1) (by omega) (by omega) (by omega) hy1 hG
  simp only [rn0, rn1, rn2, reduceIte, Nat.reduceEqDiff, Nat.reduceAdd, Nat.reduceMul, Nat.reduceSub, Nat.reduceLeDiff, Nat.reduceLT, w1, ec, hf, build_wk, e2, ret_tt]
  exact ⟨fun i hi => by rw [o2 i (by omega), hx1.old i hi], by omega, by omega, by omega, .inr ⟨hf, v, rfl, i2, ov⟩⟩

def zr7 : List Value := [.int .i64 0, .int .i64 0, nilS, .int .i64 0, .int .i64 0, nilS, nilS]

theorem allE_mem {S : MS} {c : Nat → Int} : c ∈ allE S ↔ InU S c ∧ ∀ j, numU S ≤ j → c j = 0 := by
  unfold allE
  rw [enumB_ok, Nat.zero_add]
  constructor
  · rintro ⟨h1, h2⟩; exact ⟨fun i hi => h1 i (Nat.zero_le _) hi, fun j hj => h2 j (.inr hj)⟩
  · rintro ⟨h1, h2⟩; exact ⟨fun i _ hi => h1 i hi, fun j hj => h2 j (by omega)⟩

structure WidS (S X : MS) : Prop where
  last : X.last = S.last
  per : X.per = S.per
  nw : X.nw = S.nw
  nv : X.nv = S.nv
  ns : X.ns = S.ns
  vb : X.vb = S.vb
  vn : X.vn = S.vn
  sv : X.sv = S.sv
  sh : X.sh = S.sh
  sk : X.sk = S.sk
  u : ∀ i, i < numU S → uLo X i ≤ uLo S i ∧ uHi S i ≤ uHi X i
section
variable {S X : MS}
theorem WidS.num (hw : WidS S X) : numU X = numU S := by unfold numU; rw [hw.nw, hw.nv]
theorem WidS.all (hw : WidS S X) {c : Nat → Int} (hc : c ∈ allE S) : c ∈ allE X := by
  rw [allE_mem] at hc ⊢
  refine ⟨fun i hi => ?_, fun j hj => hc.2 j (by rw [← hw.num]; exact hj)⟩
  rw [hw.num] at hi
  have h1 := hc.1 i hi
  have h2 := hw.u i hi
  omega
theorem WidS.warm (hw : WidS S X) {u : Nat → Int} {v : Nat} {t : Int} : warmS X u v t = warmS S u v t := by unfold warmS; rw [hw.vb]
theorem WidS.blue (hw : WidS S X) {u : Nat → Int} {v : Nat} {t : Int} : blueS X u v t = blueS S u v t := by unfold blueS; rw [hw.per, hw.nw, hw.warm]
theorem WidS.kind (hw : WidS S X) {u : Nat → Int} {v : Nat} {t : Int} : kindS X u v t = kindS S u v t := by unfold kindS; rw [hw.nw, hw.warm, hw.blue, hw.vn]
theorem WidS.right (hw : WidS S X) {u : Nat → Int} {k : Nat} : RightS X u k ↔ RightS S u k := by unfold RightS; rw [hw.kind, hw.sv, hw.sh, hw.sk]
theorem WidS.truth (hw : WidS S X) {t : Nat → Int} (ht : t ∈ truthsS S) : t ∈ truthsS X := by
  rw [truths_mem, ← allE_mem] at ht ⊢
  exact ⟨hw.all ht.1, fun k hk => hw.right.2 (ht.2 k (by rw [← hw.ns]; exact hk))⟩
theorem WidS.hours (hw : WidS S X) {v : Nat} : hoursN X v = hoursN S v := by unfold hoursN; rw [hw.last, hw.vb]
theorem WidS.lo (hw : WidS S X) (hz : truthsS S ≠ []) {v q : Nat} : loB X v (truthsS X) ((truthsS X).length - 1) q ≤ loB S v (truthsS S) ((truthsS S).length - 1) q := by
  have hz' : truthsS X ≠ [] := by
    obtain ⟨t, ht⟩ := List.exists_mem_of_ne_nil _ hz
    exact List.ne_nil_of_mem (hw.truth ht)
  have e1 : loB X v (truthsS X) ((truthsS X).length - 1) q = loN (fun t => blueS X t v (X.vb v + (q : Int))) (truthsS X) := rfl
  have e2 : loB S v (truthsS S) ((truthsS S).length - 1) q = loN (fun t => blueS S t v (S.vb v + (q : Int))) (truthsS S) := rfl
  rw [e1, e2]
  refine (le_loN hz).2 fun t ht => ?_
  have h1 := (le_loN hz' (val := fun t => blueS X t v (X.vb v + (q : Int)))).1 (Int.le_refl _) t (hw.truth ht)
  simp only [hw.blue, hw.vb] at h1 ⊢
  exact h1
theorem WidS.hi (hw : WidS S X) (hz : truthsS S ≠ []) {v q : Nat} : hiB S v (truthsS S) ((truthsS S).length - 1) q ≤ hiB X v (truthsS X) ((truthsS X).length - 1) q := by
  have hz' : truthsS X ≠ [] := by
    obtain ⟨t, ht⟩ := List.exists_mem_of_ne_nil _ hz
    exact List.ne_nil_of_mem (hw.truth ht)
  have e1 : hiB X v (truthsS X) ((truthsS X).length - 1) q = hiN (fun t => blueS X t v (X.vb v + (q : Int))) (truthsS X) := rfl
  have e2 : hiB S v (truthsS S) ((truthsS S).length - 1) q = hiN (fun t => blueS S t v (S.vb v + (q : Int))) (truthsS S) := rfl
  rw [e1, e2]
  refine (hiN_le hz).2 fun t ht => ?_
  have h1 := (hiN_le hz' (val := fun t => blueS X t v (X.vb v + (q : Int)))).1 (Int.le_refl _) t (hw.truth ht)
  simp only [hw.blue, hw.vb] at h1 ⊢
  exact h1
theorem verd_1 {S : MS} {v : Nat} {t : Int} {L : List (Nat → Int)} (hL : L ≠ []) : verdS S v t 1 L = 1 ↔ ∀ c, c ∈ L → kindS S c v t = 1 := by
  unfold verdS
  by_cases c1 : ∀ c, c ∈ L → kindS S c v t ≠ 1
  · rw [if_pos c1]
    constructor
    · intro h; cases h
    · intro h
      obtain ⟨c, hc⟩ := List.exists_mem_of_ne_nil _ hL
      exact absurd (h c hc) (c1 c hc)
  · rw [if_neg c1]
    by_cases c2 : ∀ c, c ∈ L → kindS S c v t = 1
    · rw [if_pos c2]; exact ⟨fun _ => c2, fun _ => rfl⟩
    · rw [if_neg c2]
      constructor
      · intro h; cases h
      · intro h; exact absurd h c2
end
end Go.Vm.St

namespace Go.Vm.St
open Go.Proofs Go.Vm.Vat
set_option linter.unusedSimpArgs false
set_option linter.unusedVariables false
set_option maxRecDepth 10000
variable {n : Nat} {h : AHeap}
structure CopyR (h0 g : AHeap) (p bw bv : Nat) (WV VV sv : Value) (S : MS) : Prop where
  row : g.get p = some (.row (stL S WV VV sv) true 0)
  w : WV = .slice (some ⟨bw, 0, none⟩) S.nw unk
  gw : g.get bw = some (.row (rngL S.nw S.wlo S.whi) true 2)
  v : 0 < S.nv → VV = .slice (some ⟨bv, 0, none⟩) S.nv unk ∧ g.get bv = some (.row (flatL 4 S.nv (vatC S)) true 4)
  v0 : S.nv = 0 → ∀ (g : AHeap) c, Cells g VV 4 0 c
  s : Samps h0 sv S.ns S.sv S.sh S.sk
  old : ∀ i, i < h0.next → g.get i = h0.get i
  ne : p ≠ bw ∧ p ≠ bv ∧ bw ≠ bv
  up : h0.next ≤ p ∧ h0.next ≤ bw ∧ h0.next ≤ bv
section
variable {h0 g : AHeap} {p bw bv : Nat} {WV VV sv : Value} {S : MS}
theorem CopyR.steep (hc : CopyR h0 g p bw bv WV VV sv S) : SteepR g WV VV sv S := by
  refine ⟨?_, ?_, cells_at hc.s fun a k cap e lt => hc.old _ lt⟩
  · rw [hc.w]; exact rngL_cells hc.gw
  · by_cases c : S.nv = 0
    · have := hc.v0 c g (vatC S)
      rw [← c] at this
      exact this
    · obtain ⟨e, hg⟩ := hc.v (by omega)
      rw [e]
      exact vats_row hg
def TurnsTo (g : AHeap) (p b off : Nat) (sv : Value) (S : MS) : Prop := ∃ gr cs lo hi, g.get b = some (.row cs true gr) ∧ off + 2 ≤ cs.length ∧ cs[off]? = some (.int .i64 lo) ∧ cs[off + 1]? = some (.int .i64 hi) ∧ 0 ≤ lo ∧ lo ≤ 100 ∧ 0 ≤ hi ∧ hi ≤ 100 ∧
  ∀ LO HI g5 g6, LO ≤ lo → hi ≤ HI → Set1 g g5 b (splice cs off [.int .i64 LO]) gr → Set1 g5 g6 b (splice (splice cs off [.int .i64 LO]) (off + 1) [.int .i64 HI]) gr → ∃ X W V, Row g6 p (stL X W V sv) ∧ SteepR g6 W V sv X ∧ WidS S X
theorem CopyR.warm (hc : CopyR h0 g p bw bv WV VV sv S) (hG : Good S) {k : Nat} (hk : k < S.nw) : TurnsTo g p bw (k * 2) sv S := by
  obtain ⟨b1, b2, b3⟩ := hG.args.warm k hk
  have hget : ∀ k j, k < S.nw → j < 2 → (rngL S.nw S.wlo S.whi)[k * 2 + j]? = some (.int .i64 (if j = 0 then S.wlo k else S.whi k)) := fun k j hk hj => flatL_get (c := fun k j => .int .i64 (if j = 0 then S.wlo k else S.whi k)) hk hj
  refine ⟨2, _, S.wlo k, S.whi k, hc.gw, by rw [rngL, flatL_len]; omega, hget k 0 hk (by omega), hget k 1 hk (by omega), b1, by omega, by omega, by omega, fun LO HI g5 g6 h1 h2 s5 s6 => ?_⟩
  have old : ∀ i, i ≠ bw → g6.get i = g.get i := fun i hi => by rw [s6.old i hi, s5.old i hi]
  obtain ⟨n1, n2, n3⟩ := hc.ne
  have c5 := Go.Vm.Vat.splice_at (x := .int .i64 LO) hget hk (show 0 < 2 by omega)
  have c6 := Go.Vm.Vat.splice_at (x := .int .i64 HI) c5 hk (show 1 < 2 by omega)
  refine ⟨{ S with wlo := fun i => if i = k then LO else S.wlo i, whi := fun i => if i = k then HI else S.whi i }, WV, VV, ⟨_, _, by rw [old _ n1]; exact hc.row⟩, ⟨?_, ?_, ?_⟩, ⟨rfl, rfl, rfl, rfl, rfl, rfl, rfl, rfl, rfl, rfl, fun i hi => ?_⟩⟩
  · rw [hc.w]
    refine cells_row (m := S.nw) (s := 2) s6.row fun k' j hk' hj => ?_
    rw [Nat.add_zero] at c6
    rw [c6 k' j hk' hj]
    by_cases ek : k' = k
    · subst ek
      obtain rfl | rfl : j = 0 ∨ j = 1 := by omega
      · simp
      · simp
    · simp [ek]
  · by_cases c : S.nv = 0
    · have := hc.v0 c g6 (vatC S)
      rw [← c] at this
      exact this
    · obtain ⟨e, hg⟩ := hc.v (by omega)
      rw [e]
      exact vats_row (S := S) (by rw [old _ (Ne.symm n3)]; exact hg)
  · exact cells_at hc.s fun a k cap e lt => by have u2 := hc.up; rw [old _ (by omega)]; exact hc.old _ lt
  · simp only [uLo, uHi]
    by_cases c1 : i < S.nw
    · simp only [c1, if_true]
      by_cases c2 : i = k
      · subst c2; simp only [if_true]; exact ⟨h1, h2⟩
      · simp only [c2, if_false]; omega
    · by_cases c2 : i = S.nw
      · simp only [c2, Nat.lt_irrefl, if_true, if_false]; omega
      · simp only [c1, c2, if_false]; omega
theorem CopyR.vat (hc : CopyR h0 g p bw bv WV VV sv S) (hG : Good S) {k : Nat} (hk : k < S.nv) : TurnsTo g p bv (k * 4 + 1) sv S := by
  obtain ⟨_, ⟨b1, b2, b3⟩, _⟩ := hG.args.vat k hk
  obtain ⟨e, hg⟩ := hc.v (by omega)
  have hget : ∀ k j, k < S.nv → j < 4 → (flatL 4 S.nv (vatC S))[k * 4 + j]? = some (vatC S k j) := fun k j hk hj => flatL_get (c := vatC S) hk hj
  refine ⟨4, _, S.vlo k, S.vhi k, hg, by rw [flatL_len]; omega, hget k 1 hk (by omega), hget k 2 hk (by omega), b1, by omega, by omega, by omega, fun LO HI g5 g6 h1 h2 s5 s6 => ?_⟩
  have old : ∀ i, i ≠ bv → g6.get i = g.get i := fun i hi => by rw [s6.old i hi, s5.old i hi]
  obtain ⟨n1, n2, n3⟩ := hc.ne
  have c5 := Go.Vm.Vat.splice_at (x := .int .i64 LO) hget hk (show 1 < 4 by omega)
  have c6 := Go.Vm.Vat.splice_at (x := .int .i64 HI) c5 hk (show 2 < 4 by omega)
  refine ⟨{ S with vlo := fun i => if i = k then LO else S.vlo i, vhi := fun i => if i = k then HI else S.vhi i }, WV, VV, ⟨_, _, by rw [old _ n2]; exact hc.row⟩, ⟨?_, ?_, ?_⟩, ⟨rfl, rfl, rfl, rfl, rfl, rfl, rfl, rfl, rfl, rfl, fun i hi => ?_⟩⟩
  · rw [hc.w]; exact rngL_cells (by rw [old _ n3]; exact hc.gw)
  · rw [e]
    refine cells_row (m := S.nv) (s := 4) s6.row fun k' j hk' hj => ?_
    rw [show k * 4 + 1 + 1 = k * 4 + 2 from rfl]
    rw [c6 k' j hk' hj]
    by_cases ek : k' = k
    · subst ek
      obtain rfl | rfl | rfl | rfl : j = 0 ∨ j = 1 ∨ j = 2 ∨ j = 3 := by omega
      all_goals simp [vatC]
    · simp [ek, vatC]
  · exact cells_at hc.s fun a k cap e lt => by have u3 := hc.up; rw [old _ (by omega)]; exact hc.old _ lt
  · simp only [uLo, uHi]
    by_cases c1 : i < S.nw
    · simp only [c1, if_true]; omega
    · by_cases c2 : i = S.nw
      · simp only [c2, Nat.lt_irrefl, if_true, if_false]; omega
      · simp only [c1, c2, if_false]
        by_cases c3 : i - S.nw - 1 = k
        · simp only [c3, if_true]; exact ⟨h1, h2⟩
        · simp only [c3, if_false]; omega
end
end Go.Vm.St

namespace Go.Vm.St
open Go.Proofs Go.Vm.Vat
set_option linter.unusedSimpArgs false
set_option linter.unusedVariables false
set_option maxRecDepth 10000
variable {n : Nat} {h : AHeap}

section
variable {S : MS} {v hh kk : Int}
end
end Go.Vm.St

namespace Go.Vm.St
open Go.Proofs Go.Vm.Vat
set_option linter.unusedSimpArgs false
set_option linter.unusedVariables false
set_option maxRecDepth 10000
variable {n : Nat} {h : AHeap}
theorem errH_0 {S : MS} {a x : Int} (hf : faultS S = 0) (hi : InH S a x) (hz : truthsS S ≠ []) : errH S a x = 0 := by unfold errH; rw [if_neg (by simpa using hf), if_neg (fun q => q hi), if_neg hz]

def s99 : SCode := (.seq (.ops [⟨(some 4), none, .mov (.const (.int .i64 (0)))⟩]) (.seq (.seq (.ops [⟨(some 5), none, .mov (T 0)⟩, ⟨(some 6), none, .len (T 5)⟩, ⟨(some 7), none, .int2 .eql (T 6) (.const (.int .i64 (0)))⟩]) (.cond (T 7) (.seq (.ops [⟨(some 4), none, .mov (.const (.int .i64 (0)))⟩]) .ret) .skip)) (.seq (.ops [⟨(some 8), none, .mov (T 0)⟩, ⟨(some 9), none, .mov (T 1)⟩, ⟨(some 10), none, .mov (T 0)⟩, ⟨(some 11), none, .len (T 10)⟩, ⟨(some 12), none, .plain (.binOp .rem 3 (T 9) (T 11) 3) 3⟩, ⟨(some 13), none, .idxSl 1 (T 8) (T 12)⟩, ⟨(some 14), none, .load1 (T 13)⟩, ⟨(some 15), none, .plain (.convert 90 3 (T 14)) 3⟩, ⟨(some 4), none, .mov (T 15)⟩]) .ret)))
theorem fok99 : FnOk Try.prog 99 16 s99 [.tmp 4] := ⟨Try.f99, _, Try.func99, rfl, Try.ntmps99, by kernel_rfl, by kernel_rfl⟩
theorem word_c (hn : 1 ≤ n) {ws : Value} {m : Nat} {a : Nat → Nat} (hw : Words h ws m a) (i : Nat) :
    call n (.func (.func 99) #[] #[]) [ws, .int .i64 (i : Int)] h = some (.int .i64 ((wordN m a i : Nat) : Int), h) := by
  obtain ⟨n, rfl⟩ : ∃ p, n = p + 1 := ⟨n - 1, by omega⟩
  suffices hs : ∃ v g1, call (n + 1) (.func (.func 99) #[] #[]) [ws, .int .i64 (i : Int)] h = some (v, g1) ∧ v = .int .i64 ((wordN m a i : Nat) : Int) ∧ g1 = h by
    obtain ⟨v, g1, e, rfl, rfl⟩ := hs
    exact e
  refine call_any0 fok99 rfl rfl (by simp) ?_
  by_cases hm : m = 0
  · have hm' : (m : Int) = 0 := by omega
    have hz : wordN m a i = 0 := by unfold wordN; rw [if_pos hm]
    rw [hz]
    simp only [rn0, rn1, rn2, reduceIte, Nat.reduceEqDiff, Nat.reduceAdd, Nat.reduceMul, Nat.reduceSub, Nat.reduceLeDiff, Nat.reduceLT, s99, Cells.len hw.1, hm', Int.natCast_zero]
  · have hm' : ¬ (m : Int) = 0 := by omega
    have hlt : i % m < m := Nat.mod_lt _ (by omega)
    have hz : wordN m a i = a (i % m) := by unfold wordN; rw [if_neg hm]
    have m1 : (i : Int).tmod (m : Int) = ((i % m : Nat) : Int) := rfl
    rw [hz]
    simp only [rn0, rn1, rn2, reduceIte, Nat.reduceEqDiff, Nat.reduceAdd, Nat.reduceMul, Nat.reduceSub, Nat.reduceLeDiff, Nat.reduceLT, s99, Cells.len hw.1, hm', valN_tmp, valN_const, p_rem, r_rem hm', m1, Cells.idx hw.1 hlt, Cells.ld hw.1 hlt Nat.zero_lt_one, p_conv16, r_16 (hw.2 _ hlt)]
section
variable (S : MS) (m : Nat) (a : Nat → Nat) (u : Nat → Int)
def sdV (i : Nat) : Nat := wordN m a (i + 1) % S.nv
def sdH (i : Nat) : Int := S.vb (sdV S m a i) + ((wordN m a (i + 1) / 8 % hoursN S (sdV S m a i) : Nat) : Int)
def sdN : Nat := if S.nv = 0 then 0 else wordN m a 0 % 6
def sdC (i j : Nat) : Value := .int .i64 (if j = 0 then (sdV S m a i : Int) else if j = 1 then sdH S m a i else kindS S u (sdV S m a i) (sdH S m a i))
def smelledS : MS := { S with ns := sdN S m a, sv := fun i => (sdV S m a i : Int), sh := sdH S m a, sk := fun i => kindS S u (sdV S m a i) (sdH S m a i) }
end
section
variable {S : MS} {m : Nat} {a : Nat → Nat} {u : Nat → Int}
theorem sdN_le : sdN S m a ≤ 5 := by
  unfold sdN
  by_cases c : S.nv = 0
  · rw [if_pos c]; omega
  · rw [if_neg c]; omega
theorem sd_hour (hG : Good S) (hv : 0 < S.nv) (i : Nat) : HourOk S (sdV S m a i) (sdH S m a i) := by
  have h1 : sdV S m a i < S.nv := Nat.mod_lt _ hv
  obtain ⟨q1, q2, q3⟩ := hoursN_ok hG h1
  have := Nat.mod_lt (wordN m a (i + 1) / 8) (show 0 < hoursN S (sdV S m a i) by omega)
  refine ⟨h1, ?_, ?_⟩ <;> unfold sdH <;> omega
theorem sd_good (hG : Good S) : Good (smelledS S m a u) := by
  refine ⟨⟨hG.lim.1, hG.lim.2.1, sdN_le⟩, ⟨hG.args.head, hG.args.warm, hG.args.vat, fun k hk => ?_⟩, hG.few⟩
  have hk : k < sdN S m a := hk
  have hv : 0 < S.nv := by
    apply Nat.pos_of_ne_zero
    intro e
    unfold sdN at hk
    rw [if_pos e] at hk
    omega
  have ho := sd_hour (m := m) (a := a) hG hv k
  have h1 := ho.isV
  have hk := kind_vals (S := S) (u := u) (v := sdV S m a k) (hh := sdH S m a k)
  refine ⟨?_, ?_, ?_⟩
  · show (0 : Int) ≤ (sdV S m a k : Int) ∧ (sdV S m a k : Int) ≤ (S.nv : Int) - 1; omega
  · show S.vb ((sdV S m a k : Int)).toNat ≤ sdH S m a k ∧ sdH S m a k ≤ S.last
    rw [Int.toNat_natCast]; exact ⟨ho.isLo, ho.isHi⟩
  · show 0 ≤ kindS S u (sdV S m a k) (sdH S m a k) ∧ kindS S u (sdV S m a k) (sdH S m a k) ≤ 2; omega
theorem sd_right (k : Nat) : RightS (smelledS S m a u) u k := by
  show kindS S u ((sdV S m a k : Int)).toNat (sdH S m a k) = kindS S u (sdV S m a k) (sdH S m a k)
  rw [Int.toNat_natCast]
theorem sd_truth (hu : u ∈ allE S) : u ∈ truthsS (smelledS S m a u) := truths_mem.2 ⟨allE_mem.1 hu, fun k _ => sd_right k⟩
end
end Go.Vm.St
