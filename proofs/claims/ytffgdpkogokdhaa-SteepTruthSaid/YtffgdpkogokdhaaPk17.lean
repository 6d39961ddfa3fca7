/- Texts of the proofs of this seat, put together: StSmelled2, StTurnP, StTruthT. -/
import Derived.Test.YtffgdpkogokdhaaPk16

namespace Go.Vm.St
open Go.Proofs Go.Vm.Vat
set_option linter.unusedSimpArgs false
set_option linter.unusedVariables false
set_option maxRecDepth 10000
variable {n : Nat} {h : AHeap}
theorem res_73 {a b : Nat} {f : Go.Vm.Fr} {x y : Value} (h1 : loadAgg 7 h (f a) = some x) (h2 : loadAgg 3 h (f b) = some y) : resV f h [.cellN a 7, .cellN b 3] = some (.tuple ⟨[x, y]⟩) := by
  simp [resV, resL, res1, h1, h2]
theorem quo16 {a : Nat} (h : a < 65536) : IntKind.wrap .i64 ((a : Int).tdiv 8) = ((a / 8 : Nat) : Int) := by
  have e : (a : Int).tdiv 8 = ((a / 8 : Nat) : Int) := rfl
  have : a / 8 ≤ a := Nat.div_le_self _ _
  rw [e]
  generalize a / 8 = q at this
  exact IntWalk.i64_in _ (by omega)
def zr3 : List Value := [nilS, .int .i64 0, nilS]
def SmelledR (h : AHeap) (S : MS) (m : Nat) (a : Nat → Nat) (u : Nat → Int) (wv vv : Value) (v : Value) (h' : AHeap) : Prop :=
  (∀ i, i < h.next → h'.get i = h.get i) ∧ h.next ≤ h'.next ∧ h'.next ≤ h.next + 300 ∧ h'.floor = h.floor ∧
    ∃ X tw tf, v = .tuple ⟨[.agg ⟨stL (smelledS S m a u) wv vv X⟩, .agg ⟨trL tw tf (u S.nw)⟩]⟩ ∧ SteepR h' wv vv X (smelledS S m a u) ∧ TruR h' tw tf S u
def s60 : SCode := (.seq (.ops [⟨(some 3), none, .box (T 0)⟩, ⟨(some 6), none, .alloc [(.int .i64 (0)), (.int .i64 (0)), (.slice none 0 0), (.int .i64 (0)), (.int .i64 (0)), (.slice none 0 0), (.slice none 0 0)]⟩, ⟨(some 7), none, .alloc [(.slice none 0 0), (.int .i64 (0)), (.slice none 0 0)]⟩]) (.seq (.draw [⟨.rd, ⟨(some 15), none, .loadN 7 (T 3)⟩⟩, ⟨.free, ⟨(some 16), none, .mov (T 1)⟩⟩, ⟨.free, ⟨(some 17), none, .plain (.convert 90 3 (T 16)) 3⟩⟩, ⟨.rd1, ⟨(some 18), none, .loadN 7 (T 3)⟩⟩, ⟨.up, ⟨(some 19), none, .call (.func 64) [(T 18)]⟩⟩, ⟨.free, ⟨(some 20), none, .plain (.binOp .rem 3 (T 17) (T 19) 3) 3⟩⟩, ⟨.any, ⟨(some 21), none, .call (.func 63) [(T 15), (T 20)]⟩⟩, ⟨.any, ⟨(some 8), none, .alloc [(.slice none 0 0), (.int .i64 (0)), (.slice none 0 0)]⟩⟩, ⟨.any, ⟨none, none, .store 3 (T 8) (T 21)⟩⟩]) (.seq (.ops [⟨(some 22), none, .loadN 7 (T 3)⟩, ⟨(some 9), none, .alloc [(.int .i64 (0)), (.int .i64 (0)), (.slice none 0 0), (.int .i64 (0)), (.int .i64 (0)), (.slice none 0 0), (.slice none 0 0)]⟩, ⟨none, none, .store 7 (T 9) (T 22)⟩]) (.seq (.ops [⟨(some 23), none, .fieldAddr 6 (T 9)⟩, ⟨none, none, .store 1 (T 23) (.const (.slice none 0 0))⟩]) (.seq (.seq (.ops [⟨(some 10), none, .mov (.const (.int .i64 (0)))⟩]) (.block 0 (.loop (.seq (.seq (.ops [⟨(some 24), none, .mov (T 10)⟩, ⟨(some 25), none, .mov (T 2)⟩, ⟨(some 26), none, .call (.func 99) [(T 25), (.const (.int .i64 (0)))]⟩, ⟨(some 27), none, .plain (.binOp .rem 3 (T 26) (.const (.int .i64 (6))) 3) 3⟩, ⟨(some 28), none, .int2 .lss (T 24) (T 27)⟩, ⟨(some 29), none, .mov (T 28)⟩, ⟨(some 30), (some (29, true)), .fieldAddr 5 (T 3)⟩, ⟨(some 31), (some (29, true)), .load1 (T 30)⟩, ⟨(some 32), (some (29, true)), .len (T 31)⟩, ⟨(some 33), (some (29, true)), .int2 .gtr (T 32) (.const (.int .i64 (0)))⟩, ⟨(some 34), none, .pick (T 29) (T 33) (.const (.bool false))⟩]) (.cond (T 34) .skip (.exit 0))) (.seq (.block 1 (.seq (.ops [⟨(some 37), none, .mov (T 2)⟩, ⟨(some 38), none, .mov (T 10)⟩, ⟨(some 39), none, .int2 .add (T 38) (.const (.int .i64 (1)))⟩, ⟨(some 40), none, .call (.func 99) [(T 37), (T 39)]⟩, ⟨(some 11), none, .mov (T 40)⟩]) (.seq (.ops [⟨(some 41), none, .mov (T 11)⟩, ⟨(some 42), none, .fieldAddr 5 (T 3)⟩, ⟨(some 43), none, .load1 (T 42)⟩, ⟨(some 44), none, .len (T 43)⟩, ⟨(some 45), none, .plain (.binOp .rem 3 (T 41) (T 44) 3) 3⟩, ⟨(some 12), none, .mov (T 45)⟩]) (.seq (.ops [⟨(some 46), none, .fieldAddr 5 (T 3)⟩, ⟨(some 47), none, .load1 (T 46)⟩, ⟨(some 48), none, .mov (T 12)⟩, ⟨(some 49), none, .idxSl 4 (T 47) (T 48)⟩, ⟨(some 50), none, .fieldAddr 0 (T 49)⟩, ⟨(some 51), none, .load1 (T 50)⟩, ⟨(some 13), none, .mov (T 51)⟩]) (.seq (.ops [⟨(some 52), none, .mov (T 13)⟩, ⟨(some 53), none, .mov (T 11)⟩, ⟨(some 54), none, .plain (.binOp .quo 3 (T 53) (.const (.int .i64 (8))) 3) 3⟩, ⟨(some 55), none, .fieldAddr 0 (T 3)⟩, ⟨(some 56), none, .load1 (T 55)⟩, ⟨(some 57), none, .mov (T 13)⟩, ⟨(some 58), none, .int2 .sub (T 56) (T 57)⟩, ⟨(some 59), none, .int2 .add (T 58) (.const (.int .i64 (1)))⟩, ⟨(some 60), none, .plain (.binOp .rem 3 (T 54) (T 59) 3) 3⟩, ⟨(some 61), none, .int2 .add (T 52) (T 60)⟩, ⟨(some 14), none, .mov (T 61)⟩]) (.draw [⟨.free, ⟨(some 62), none, .fieldAddr 6 (T 9)⟩⟩, ⟨.rd, ⟨(some 63), none, .load1 (T 62)⟩⟩, ⟨.free, ⟨(some 64), none, .mov (T 12)⟩⟩, ⟨.free, ⟨(some 65), none, .mov (T 14)⟩⟩, ⟨.rd1, ⟨(some 66), none, .loadN 7 (T 3)⟩⟩, ⟨.rd1, ⟨(some 67), none, .loadN 3 (T 8)⟩⟩, ⟨.free, ⟨(some 68), none, .mov (T 12)⟩⟩, ⟨.free, ⟨(some 69), none, .mov (T 14)⟩⟩, ⟨.up, ⟨(some 70), none, .call (.func 34) [(T 66), (T 67), (T 68), (T 69)]⟩⟩, ⟨.free, ⟨(some 71), none, .build #[(0, 1), (1, 1), (2, 1)] [(.int .i64 (0)), (.int .i64 (0)), (.int .i64 (0))] [0, 1, 2] [(T 64), (T 65), (T 70)]⟩⟩, ⟨.up, ⟨(some 72), none, .bslice 3 1 [(.int .i64 (0)), (.int .i64 (0)), (.int .i64 (0))] [0] [(T 71)]⟩⟩, ⟨.any, ⟨(some 73), none, .append 3 24 (T 63) (T 72)⟩⟩, ⟨.free, ⟨(some 74), none, .fieldAddr 6 (T 9)⟩⟩, ⟨.any, ⟨none, none, .store 1 (T 74) (T 73)⟩⟩])))))) (.ops [⟨(some 35), none, .mov (T 10)⟩, ⟨(some 36), none, .int2 .add (T 35) (.const (.int .i64 (1)))⟩, ⟨(some 10), none, .mov (T 36)⟩])))))) (.seq (.draw [⟨.rd1, ⟨(some 75), none, .loadN 7 (T 9)⟩⟩, ⟨.rd, ⟨(some 76), none, .loadN 3 (T 8)⟩⟩, ⟨.up, ⟨none, none, .store 7 (T 6) (T 75)⟩⟩, ⟨.any, ⟨none, none, .store 3 (T 7) (T 76)⟩⟩]) .ret))))))
theorem fok60 : FnOk Try.prog 60 77 s60 [.cellN 6 7, .cellN 7 3] := ⟨Try.f60, _, Try.func60, rfl, Try.ntmps60, by kernel_rfl, by kernel_rfl⟩
set_option maxHeartbeats 4000000 in
theorem smelled_c (hn : 200 ≤ n) (hr : h.next + 500 < far) (hfl : h.floor ≤ h.next) {wv vv sv ws : Value} {S : MS} (hy : SteepR h wv vv sv S) (hG : Good S) {w0 m : Nat} (hw0 : w0 < 65536) {a : Nat → Nat} (hw : Words h ws m a) :
    ∃ v h', call n (.func (.func 60) #[] #[]) [.agg ⟨stL S wv vv sv⟩, .int .u16 (w0 : Int), ws] h = some (v, h') ∧ ∃ u, u ∈ allE S ∧ SmelledR h S m a u wv vv v h' := by
  obtain ⟨n, rfl⟩ : ∃ p, n = p + 1 := ⟨n - 1, by omega⟩
  obtain ⟨mp1, mp2⟩ := many_pos hG
  obtain ⟨zl0, zl5, zw, zw6, zv4, z5, _⟩ := hG.sizes
  refine call_any0 fok60 rfl rfl (by simp) ?_
  simp only [s60, W_seq, W_ops]
  refine ops_box (cs := stL S wv vv sv) (by omega) rfl hy.one fun g1 hx1 => ?_
  have n1 := hx1.next
  have f1' := hx1.floor
  have e1 : g1.next = h.next + 1 := n1
  simp only [rn0, rn1, rn2, reduceIte, Nat.reduceEqDiff, Nat.reduceAdd, Nat.reduceMul, Nat.reduceSub, Nat.reduceLeDiff, Nat.reduceLT]
  refine step_row (cs := zr7) (by omega) rfl rfl fun g2 hx2 => ?_
  have n2 := hx2.next
  have f2' := hx2.floor
  simp only [rn0, rn1, rn2, reduceIte, Nat.reduceEqDiff, Nat.reduceAdd, Nat.reduceMul, Nat.reduceSub, Nat.reduceLeDiff, Nat.reduceLT]
  refine step_row (cs := zr3) (by omega) rfl rfl fun g3 hx3 => ?_
  have n3 := hx3.next
  have f3' := hx3.floor
  have s3 : Sub All h g3 := hx1.sub.trans (hx2.sub.trans hx3.sub)
  have old3 : ∀ i, i < h.next → g3.get i = h.get i := fun i hi => by rw [hx3.old i (by omega), hx2.old i (by omega), hx1.old i hi]
  have hy3 := hy.mono s3
  have r3 : Row g3 h.next (stL S wv vv sv) := (hx1.row.mono hx2.sub).mono hx3.sub
  have w3 := r3.whole (n := 7) rfl
  have q6 : g3.get (h.next + 1) = some (.row zr7 true 0) := by rw [hx3.old _ (by omega)]; have := hx2.get; rw [e1] at this; exact this
  have q7 : g3.get (h.next + 2) = some (.row zr3 true 0) := by have := hx3.get; rw [show g2.next = h.next + 2 by omega] at this; exact this
  have em := many_c (n := n) (h := g3) (by omega) (by omega) hy3 hG.args ⟨by omega, by omega⟩
  obtain ⟨M, hM⟩ : ∃ M : Nat, (M : Int) = manyS S := ⟨(manyS S).toNat, by omega⟩
  rw [← hM] at em
  have zM : ¬ (M : Int) = 0 := by omega
  obtain ⟨k, hk⟩ : ∃ k, k = w0 % M := ⟨_, rfl⟩
  have m1 : (w0 : Int).tmod (M : Int) = (k : Int) := by rw [hk]; rfl
  have hkM : k < M := by rw [hk]; exact Nat.mod_lt _ (by omega)
  obtain ⟨tw, tf, g4, e4, ht4, o4, u4, m4, f4', bk1, bk2⟩ := nth_c (n := n) (h := g3) (m := k) (by omega) (by omega) (by omega) hy3 hG (by omega)
  have hu : nthU S k ∈ allE S := (all_mem hG).2 ⟨k, by omega, rfl⟩
  have hui : InU S (nthU S k) := nthU_in hG
  generalize nthU S k = u at e4 ht4 hu hui
  have s4 : Sub All g3 g4 := AHeap.subOf o4
  have hb1 : ∀ x k c, tw = .slice (some x) k c → h.next + 3 ≤ x.block := fun x k c e => by have := bk1 x k c e; omega
  have hb2 : ∀ x k c, tf = .slice (some x) k c → h.next + 3 ≤ x.block := fun x k c e => by have := bk2 x k c e; omega
  clear bk1 bk2
  rw [e1, show g2.next = h.next + 2 by omega]
  simp only [rn0, rn1, rn2, reduceIte, Nat.reduceEqDiff, Nat.reduceAdd, Nat.reduceMul, Nat.reduceSub, Nat.reduceLeDiff, Nat.reduceLT]
  refine W_draw All ?_
  simp only [rn0, rn1, rn2, reduceIte, Nat.reduceEqDiff, Nat.reduceAdd, Nat.reduceMul, Nat.reduceSub, Nat.reduceLeDiff, Nat.reduceLT, w3, hy3.self, p_conv16, r_16 hw0, valN_tmp, valN_const, em, zM, p_rem, r_rem zM, m1, e4]
  first | refine ⟨u4, ?_⟩ | refine ⟨by omega, ?_⟩
  refine up_row (cs := zr3) (by omega) rfl rfl (fun g hx => trivial) fun g5 hx5 => ?_
  have n5 := hx5.next
  have f5' := hx5.floor
  simp only [rn0, rn1, rn2, reduceIte, Nat.reduceEqDiff, Nat.reduceAdd, Nat.reduceMul, Nat.reduceSub, Nat.reduceLeDiff, Nat.reduceLT]
  refine up_store (b := g4.next) (off := 0) (vs := trL tw tf (u S.nw)) rfl hx5.get (by omega) (by omega) rfl ht4.one rfl (by simp [zr3]) (fun _ _ => trivial) fun g6 hs6 => ?_
  have es6 : splice zr3 0 (trL tw tf (u S.nw)) = trL tw tf (u S.nw) := rfl
  rw [es6] at hs6
  have n6 := hs6.next
  have f6' := hs6.floor
  have old6 : ∀ i, i < g4.next → g6.get i = g4.get i := fun i hi => by rw [hs6.old i (by omega), hx5.old i hi]
  have r6 : Row g6 h.next (stL S wv vv sv) := by
    obtain ⟨w, gr, e⟩ := r3.mono s4
    exact ⟨w, gr, by rw [old6 _ (by omega)]; exact e⟩
  simp only [rn0, rn1, rn2, reduceIte, Nat.reduceEqDiff, Nat.reduceAdd, Nat.reduceMul, Nat.reduceSub, Nat.reduceLeDiff, Nat.reduceLT, r6.whole (n := 7) rfl]
  refine step_new (vs := stL S wv vv sv) (by omega) (by omega) rfl (by simp only [rn0, rn1, rn2, reduceIte, Nat.reduceEqDiff, Nat.reduceAdd, Nat.reduceMul, Nat.reduceSub, Nat.reduceLeDiff, Nat.reduceLT]; rfl) hy.one rfl rfl fun g7 hx7 => ?_
  have n7 := hx7.next
  have f7' := hx7.floor
  obtain ⟨q9, hq9⟩ : ∃ q, q = g6.next := ⟨_, rfl⟩
  have hg7 := hx7.get
  rw [← hq9] at hg7
  rw [← hq9]
  simp only [rn0, rn1, rn2, reduceIte, Nat.reduceEqDiff, Nat.reduceAdd, Nat.reduceMul, Nat.reduceSub, Nat.reduceLeDiff, Nat.reduceLT, Nat.zero_add]
  refine step_store (b := q9) (off := 6) (vs := [nilS]) rfl hg7 (by omega) (by omega) rfl rfl rfl (by simp [stL]) fun g8 hs8 => ?_
  have es8 : splice (stL S wv vv sv) 6 [nilS] = stL S wv vv nilS := rfl
  rw [es8] at hs8
  have n8 := hs8.next
  have f8' := hs8.floor
  have old8 : ∀ i, i < q9 → g8.get i = g6.get i := fun i hi => by rw [hs8.old i (by omega), hx7.old i (by omega)]
  have hout : g8.get q9 = some (.row (stL S wv vv nilS) true 0) := hs8.get
  have r8 : Row g8 h.next (stL S wv vv sv) := by
    obtain ⟨w, gr, e⟩ := r6
    exact ⟨w, gr, by rw [old8 _ (by omega)]; exact e⟩
  have t8 : Row g8 g4.next (trL tw tf (u S.nw)) := by
    obtain ⟨w, gr, e⟩ := hs6.row
    exact ⟨w, gr, by rw [old8 _ (by omega)]; exact e⟩
  have p6 : g8.get (h.next + 1) = some (.row zr7 true 0) := by rw [old8 _ (by omega), old6 _ (by omega), o4 _ (by omega)]; exact q6
  have p7 : g8.get (h.next + 2) = some (.row zr3 true 0) := by rw [old8 _ (by omega), old6 _ (by omega), o4 _ (by omega)]; exact q7
  have old84 : ∀ i, i < g4.next → g8.get i = g4.get i := fun i hi => by rw [old8 i (by omega), old6 i hi]
  have old8h : ∀ i, i < h.next → g8.get i = h.get i := fun i hi => by rw [old84 i (by omega), o4 i (by omega), old3 i hi]
  obtain ⟨q8, hq8⟩ : ∃ q, q = g4.next := ⟨_, rfl⟩
  rw [← hq8] at t8 old84
  rw [← hq8]
  have b8 : g8.next = q9 + 1 ∧ q9 = q8 + 1 ∧ h.next + 3 ≤ q8 ∧ q8 ≤ h.next + 203 ∧ g8.floor = h.floor := by omega
  have ht8 : TruR g8 tw tf S u := ht4.mono (AHeap.subOf (by rw [← hq8]; exact old84))
  clear hs8 hx7 hg7 hs6 hx5 hx1 hx2 hx3 q6 q7 old6 old8 r6 e4 o4 s4 em w3 r3
  obtain ⟨c1, c2, c3, c4, c5⟩ := b8
  clear n1 n2 n3 n5 n6 n7 n8 u4 m4
  obtain ⟨K, hK⟩ : ∃ K, K = sdN S m a := ⟨_, rfl⟩
  have hK5 : K ≤ 5 := by rw [hK]; exact sdN_le
  have z6 : ¬ (6 : Int) = 0 := by decide
  have z8 : ¬ (8 : Int) = 0 := by decide
  have mK : ((wordN m a 0 : Nat) : Int).tmod 6 = ((wordN m a 0 % 6 : Nat) : Int) := rfl
  have keepT : ∀ {g : AHeap}, (∀ i, i < q9 → g.get i = g8.get i) → TruR g tw tf S u := fun {g} ho =>
    ⟨cells_at ht4.w fun a k cap e lt => by rw [ho _ (by omega), old84 _ (by omega)], cells_at ht4.f fun a k cap e lt => by rw [ho _ (by omega), old84 _ (by omega)]⟩
  have keepH : ∀ {g : AHeap}, (∀ i, i < q9 → g.get i = g8.get i) → Sub All h g := fun {g} ho => AHeap.subOf fun i hi => by rw [ho i (by omega), old8h i hi]
  have keepR : ∀ {g : AHeap} {b : Nat} {cs : List Value}, b < q9 → Row g8 b cs → (∀ i, i < q9 → g.get i = g8.get i) → Row g b cs := fun hb ⟨w, gr, e⟩ ho => ⟨w, gr, by rw [ho _ hb]; exact e⟩
  simp only [rn0, rn1, rn2, reduceIte, Nat.reduceEqDiff, Nat.reduceAdd, Nat.reduceMul, Nat.reduceSub, Nat.reduceLeDiff, Nat.reduceLT]
  refine W_loop K (fun i f g ms => (∃ X, (∀ i, i < q9 → g.get i = g8.get i) ∧ Keep q9 g8 g ∧ g.get q9 = some (.row (stL S wv vv X) true 0) ∧ GrowC g8.next g X 3 i (sdC S m a u) ∧ g.next ≤ g8.next + 2 * i) ∧ ms = [] ∧ f 2 = ws ∧ f 3 = .pointer (some ⟨h.next, 0, none⟩) ∧ f 6 = .pointer (some ⟨h.next + 1, 0, none⟩) ∧ f 7 = .pointer (some ⟨h.next + 2, 0, none⟩) ∧ f 8 = .pointer (some ⟨q8, 0, none⟩) ∧ f 9 = .pointer (some ⟨q9, 0, none⟩) ∧ f 10 = .int .i64 (i : Int)) (by simp; omega) ?_ ?_ ?_
  · simp only [rn0, rn1, rn2, reduceIte, Nat.reduceEqDiff, Nat.reduceAdd, Nat.reduceMul, Nat.reduceSub, Nat.reduceLeDiff, Nat.reduceLT]
    first | exact ⟨⟨_, fun _ _ => trivial, Keep.refl, hout, .nil, by omega⟩, rfl⟩ | exact ⟨_, Keep.refl, hout, .nil, by omega⟩ | exact ⟨_, fun _ _ => rfl, Keep.refl, hout, .nil, by omega⟩
  · rintro i f g ms hi ⟨⟨X, ho, st, go, gS, hgn⟩, rfl, p2, p3, p6', p7', p8, p9, p10⟩
    have hnv : 0 < S.nv := by
      apply Nat.pos_of_ne_zero
      intro e
      rw [hK] at hi
      unfold sdN at hi
      rw [if_pos e] at hi
      omega
    have hKw : K = wordN m a 0 % 6 := by rw [hK]; unfold sdN; rw [if_neg (by omega)]
    have hi' : (i : Int) < ((wordN m a 0 % 6 : Nat) : Int) := by omega
    have hv0 : (0 : Int) < (S.nv : Int) := by omega
    have zv : ¬ (S.nv : Int) = 0 := by omega
    have hwi : wrapF .i64 ((i : Int) + 1) = ((i + 1 : Nat) : Int) := by rw [wrap_in (by omega) (by omega)]; rfl
    have hup := st.up
    have hfg := st.floor
    have sH := keepH ho
    have hyg := hy.mono sH
    have hTg := keepT ho
    have rg := keepR (by omega) r8 ho
    have tg := keepR (by omega) t8 ho
    have hrow : Row g q9 (stL S wv vv X) := ⟨_, _, go⟩
    have ew0 := word_c (n := n) (by omega) (hw.mono sH) 0
    have ew0 : call n (.func (.func 99) #[] #[]) [ws, .int .i64 0] g = some (.int .i64 ((wordN m a 0 : Nat) : Int), g) := ew0
    have ew1 := word_c (n := n) (by omega) (hw.mono sH) (i + 1)
    have hwl := wordN_lt hw (i + 1)
    have mv : ((wordN m a (i + 1) : Nat) : Int).tmod (S.nv : Int) = (sdV S m a i : Int) := rfl
    have hvl : sdV S m a i < S.nv := Nat.mod_lt _ hnv
    have hho := sd_hour (m := m) (a := a) hG hnv i
    obtain ⟨hh1, hh2, hh3⟩ := hoursN_ok hG hvl
    have hvb := (hG.args.vat _ hvl).1
    have qu := quo16 hwl
    have wa1 : wrapF .i64 (S.last - S.vb (sdV S m a i)) = S.last - S.vb (sdV S m a i) := wrap_in (by omega) (by omega)
    have wa2 : wrapF .i64 (S.last - S.vb (sdV S m a i) + 1) = (hoursN S (sdV S m a i) : Int) := by rw [wrap_in (by omega) (by omega)]; omega
    have zh : ¬ (hoursN S (sdV S m a i) : Int) = 0 := by omega
    have mh : ((wordN m a (i + 1) / 8 : Nat) : Int).tmod (hoursN S (sdV S m a i) : Int) = ((wordN m a (i + 1) / 8 % hoursN S (sdV S m a i) : Nat) : Int) := rfl
    have hml := Nat.mod_lt (wordN m a (i + 1) / 8) (show 0 < hoursN S (sdV S m a i) by omega)
    have wa3 : wrapF .i64 (S.vb (sdV S m a i) + ((wordN m a (i + 1) / 8 % hoursN S (sdV S m a i) : Nat) : Int)) = sdH S m a i := by rw [wrap_in (by omega) (by omega)]; rfl
    have ek := kind_c (n := n) (h := g) (by omega) (by omega) hyg hTg hG hui hho
    simp only [rn0, rn1, rn2, reduceIte, Nat.reduceEqDiff, Nat.reduceAdd, Nat.reduceMul, Nat.reduceSub, Nat.reduceLeDiff, Nat.reduceLT, p2, p3, p6', p7', p8, p9, p10, ew0, p_rem, valN_tmp, valN_const, r_rem z6, mK, z6, hi', rg.ld, stg, Nat.zero_add, Cells.len hyg.v, hv0, hwi, ew1, zv, r_rem zv, mv, Cells.idx hyg.v hvl, Cells.fld hyg.v hvl, begin_ld hyg hvl, p_quo, z8, r_quo z8, qu, wa1, wa2, zh, r_rem zh, mh, wa3]
    refine W_draw All ?_
    simp only [rn0, rn1, rn2, reduceIte, Nat.reduceEqDiff, Nat.reduceAdd, Nat.reduceMul, Nat.reduceSub, Nat.reduceLeDiff, Nat.reduceLT, p2, p3, p6', p7', p8, p9, p10, hrow.ld, rg.whole (n := 7) rfl, tg.whole (n := 3) rfl, stg, Nat.zero_add, gS.cells.self, hyg.self, hTg.self, ek, build_sm, sl_samp]
    refine up_slice (by omega) rfl (fun g1 hx => hx.sub) fun g1 hx => ?_
    have hgx := hx.next
    have hgf := hx.floor
    obtain ⟨S', g2, e, e', gS', hk2⟩ := (gS.keep (hx.keep (o := q9)) (by omega)).append (bytes := 24) (cap := 1) (by omega) (by omega) (by omega) hx.get rfl rfl (fun j hj => by
      obtain rfl | rfl | rfl : j = 0 ∨ j = 1 ∨ j = 2 := by omega
      all_goals rfl) (by simp [maxBytes]; omega) (by simp [maxBytes]; omega)
    obtain ⟨st2, go2⟩ := grew (st.trans hx.keep) hk2 (fun a k c e => (gS.block e).1) (by omega) (hx.sub _ _ _ _ trivial go)
    have hgx2 := hk2.next
    have hgf2 := hk2.floor
    have ho2 : ∀ i, i < q9 → g2.get i = g8.get i := fun i hi => by
      rw [hk2.old i (by omega) (fun a k c e => by have := (gS.block e).1; omega), hx.old i (by omega), ho i hi]
    simp only [rn0, rn1, rn2, reduceIte, Nat.reduceEqDiff, Nat.reduceAdd, Nat.reduceMul, Nat.reduceSub, Nat.reduceLeDiff, Nat.reduceLT, p2, p3, p6', p7', p8, p9, p10, e, Nat.add_zero, Nat.zero_add]
    refine ⟨by omega, up_store (b := q9) (off := 6) (vs := [S']) rfl go2 (by omega) (by omega) (by rw [e']; rfl) (by simp [allB, gS'.one]) rfl (by simp [stL]) (fun _ _ => trivial) fun g3 hs => ?_⟩
    have hgx3 := hs.next
    have hspl : splice (stL S wv vv X) 6 [S'] = stL S wv vv S' := rfl
    have hg3 := hs.get
    rw [hspl] at hg3
    have ho3 : ∀ i, i < q9 → g3.get i = g8.get i := fun i hi => by rw [hs.old i (by omega), ho2 i hi]
    simp only [rn0, rn1, rn2, reduceIte, Nat.reduceEqDiff, Nat.reduceAdd, Nat.reduceMul, Nat.reduceSub, Nat.reduceLeDiff, Nat.reduceLT, p2, p3, p6', p7', p8, p9, p10, hwi, Nat.add_zero]
    first | exact ⟨⟨_, ho3, set_keep st2 hs, hg3, gS'.keep hs.keep (by omega), by omega⟩, rfl⟩ | exact ⟨_, ho3, set_keep st2 hs, hg3, gS'.keep hs.keep (by omega), by omega⟩
  · rintro f g ms ⟨⟨X, ho, st, go, gS, hgn⟩, rfl, p2, p3, p6', p7', p8, p9, p10⟩
    have hup := st.up
    have hfg := st.floor
    have sH := keepH ho
    have hyg := hy.mono sH
    have hTg := keepT ho
    have rg := keepR (by omega) r8 ho
    have tg := keepR (by omega) t8 ho
    have hrow : Row g q9 (stL S wv vv X) := ⟨_, _, go⟩
    have ew0 := word_c (n := n) (by omega) (hw.mono sH) 0
    have ew0 : call n (.func (.func 99) #[] #[]) [ws, .int .i64 0] g = some (.int .i64 ((wordN m a 0 : Nat) : Int), g) := ew0
    have hXS : SteepR g wv vv X (smelledS S m a u) := ⟨hyg.w, hyg.v, by
      have := gS.cells
      rw [hK] at this
      exact this⟩
    have hq6 : g.get (h.next + 1) = some (.row zr7 true 0) := by rw [ho _ (by omega)]; exact p6
    have hq7 : g.get (h.next + 2) = some (.row zr3 true 0) := by rw [ho _ (by omega)]; exact p7
    have n0q : (q9 = h.next + 1) = False := eq_false (by omega)
    have n1q : (q8 = h.next + 1) = False := eq_false (by omega)
    have hone : allB oneCell (stL S wv vv X) = true := hXS.one
    have hc : ((K : Int) < ((wordN m a 0 % 6 : Nat) : Int) ∧ ¬ (0 : Int) < (S.nv : Int)) ∨ (¬ (K : Int) < ((wordN m a 0 % 6 : Nat) : Int) ∧ ¬ (1 : Int) < 0) := by
      by_cases hnv : S.nv = 0
      · by_cases c : (K : Int) < ((wordN m a 0 % 6 : Nat) : Int)
        · exact .inl ⟨c, by omega⟩
        · exact .inr ⟨c, by decide⟩
      · refine .inr ⟨?_, by decide⟩
        rw [hK]; unfold sdN; rw [if_neg hnv]; omega
    rcases hc with ⟨c, hv0⟩ | ⟨c, hv0⟩
    all_goals
      simp only [rn0, rn1, rn2, reduceIte, Nat.reduceEqDiff, Nat.reduceAdd, Nat.reduceMul, Nat.reduceSub, Nat.reduceLeDiff, Nat.reduceLT, p2, p3, p6', p7', p8, p9, p10, ew0, p_rem, valN_tmp, valN_const, r_rem z6, mK, z6, c, g_un, rg.ld, stg, Nat.zero_add, Cells.len hyg.v, hv0]
      refine W_draw (fun i => i ≠ h.next + 1) ?_
      simp only [rn0, rn1, rn2, reduceIte, Nat.reduceEqDiff, Nat.reduceAdd, Nat.reduceMul, Nat.reduceSub, Nat.reduceLeDiff, Nat.reduceLT, rd_1', rd_N, rd_ne, p2, p3, p6', p7', p8, p9, p10, hrow.whole (n := 7) rfl, tg.whole (n := 3) rfl, hXS.self, hTg.self, ne_eq, n0q, n1q, not_false_eq_true]
      refine up_store (b := h.next + 1) (off := 0) (vs := stL S wv vv X) rfl hq6 (by omega) (by omega) rfl hone rfl (by simp [zr7]) (fun g hs => fun i cs w gr hi hg => by rw [hs.old i hi]; exact hg) fun g5 hs5 => ?_
      have es5 : splice zr7 0 (stL S wv vv X) = stL S wv vv X := rfl
      rw [es5] at hs5
      have n5 := hs5.next
      have f5 := hs5.floor
      simp only [rn0, rn1, rn2, reduceIte, Nat.reduceEqDiff, Nat.reduceAdd, Nat.reduceMul, Nat.reduceSub, Nat.reduceLeDiff, Nat.reduceLT]
      refine up_store (b := h.next + 2) (off := 0) (vs := trL tw tf (u S.nw)) p7' (by rw [hs5.old _ (by omega)]; exact hq7) (by omega) (by omega) rfl hTg.one rfl (by simp [zr3]) (fun _ _ => trivial) fun g6 hs6 => ?_
      have es6 : splice zr3 0 (trL tw tf (u S.nw)) = trL tw tf (u S.nw) := rfl
      rw [es6] at hs6
      have n6 := hs6.next
      have f6 := hs6.floor
      have ra : Row g6 (h.next + 1) (stL S wv vv X) := by
        obtain ⟨w, gr, e⟩ := hs5.row
        exact ⟨w, gr, by rw [hs6.old _ (by omega)]; exact e⟩
      have rb : Row g6 (h.next + 2) (trL tw tf (u S.nw)) := hs6.row
      have old6 : ∀ i, i ≠ h.next + 1 → i ≠ h.next + 2 → g6.get i = g.get i := fun i h1 h2 => by rw [hs6.old i h2, hs5.old i h1]
      have oldh : ∀ i, i < h.next → g6.get i = h.get i := fun i hi => by rw [old6 i (by omega) (by omega), ho i (by omega), old8h i hi]
      have hy6 := hy.mono (AHeap.subOf oldh)
      have hT6 : TruR g6 tw tf S u := ⟨cells_at hTg.w fun x k c e lt => by have := hb1 x k c e; rw [old6 _ (by omega) (by omega)], cells_at hTg.f fun x k c e lt => by have := hb2 x k c e; rw [old6 _ (by omega) (by omega)]⟩
      have hX6 : SteepR g6 wv vv X (smelledS S m a u) := ⟨hy6.w, hy6.v, by
        have hc : GrowC g8.next g6 X 3 K (sdC S m a u) := (gS.keep hs5.keep (by omega)).keep hs6.keep (by omega)
        have hc := hc.cells
        rw [hK] at hc
        exact hc⟩
      simp only [rn0, rn1, rn2, reduceIte, Nat.reduceEqDiff, Nat.reduceAdd, Nat.reduceMul, Nat.reduceSub, Nat.reduceLeDiff, Nat.reduceLT, p2, p3, p6', p7', p8, p9, p10]
      exact ⟨_, res_73 (x := .agg ⟨stL S wv vv X⟩) (y := .agg ⟨trL tw tf (u S.nw)⟩) (by simp only [rn0, rn1, rn2, reduceIte, Nat.reduceEqDiff, Nat.reduceAdd, Nat.reduceMul, Nat.reduceSub, Nat.reduceLeDiff, Nat.reduceLT, p6', ra.whole (n := 7) rfl]) (by simp only [rn0, rn1, rn2, reduceIte, Nat.reduceEqDiff, Nat.reduceAdd, Nat.reduceMul, Nat.reduceSub, Nat.reduceLeDiff, p7', rb.whole (n := 3) rfl]), u, hu, oldh, by omega, by omega, by omega, X, tw, tf, rfl, hX6, hT6⟩

section
variable {S : MS} {a b : Nat}
theorem leave_cons {S : MS} (hG : Good S) (hz : truthsS S ≠ []) : leaveS S = [] := by
  obtain ⟨t, ht⟩ := List.exists_mem_of_ne_nil _ hz
  rw [truths_mem, ← allE_mem] at ht
  have h2 := (leaveS_min hG).2 t ht.1
  have e : wrongL S t = [] := by
    have : ∀ m, m ≤ S.ns → pickL (wrS S t) m = [] := by
      intro m
      induction m with
      | zero => intro _; rfl
      | succ m ih => intro hm; rw [pick_no (fun hw => hw (ht.2 m (by omega)))]; exact ih (by omega)
    exact this S.ns (Nat.le_refl _)
  rw [e] at h2
  apply Classical.byContradiction
  intro hne
  have := List.length_pos_iff.2 hne
  exact h2 (.inl this)
end
end Go.Vm.St

namespace Go.Vm.St
open Go.Proofs Go.Vm.Vat
set_option linter.unusedSimpArgs false
set_option linter.unusedVariables false
set_option maxRecDepth 10000
variable {n : Nat} {h : AHeap}
def bN (i : Nat) : Nat := 710000 * i
theorem bN_succ {i : Nat} : bN (i + 1) = bN i + 710000 := Nat.mul_succ _ _
theorem bN_le {i : Nat} (hi : i ≤ 4) : bN i ≤ 2840000 := Nat.le_trans (Nat.mul_le_mul_left _ hi) (by decide)
def s62 : SCode := (.seq (.ops [⟨(some 3), none, .box (T 1)⟩, ⟨(some 4), none, .mov (.const (.bool false))⟩]) (.seq (.ops [⟨(some 5), none, .mov (T 0)⟩, ⟨(some 6), none, .fieldAddr 0 (T 3)⟩, ⟨(some 7), none, .load1 (T 6)⟩, ⟨(some 8), none, .int2 .geq (T 5) (T 7)⟩, ⟨(some 9), none, .mov (T 8)⟩, ⟨(some 10), (some (9, true)), .mov (T 0)⟩, ⟨(some 11), (some (9, true)), .fieldAddr 1 (T 3)⟩, ⟨(some 12), (some (9, true)), .load1 (T 11)⟩, ⟨(some 13), (some (9, true)), .int2 .leq (T 10) (T 12)⟩, ⟨(some 14), none, .pick (T 9) (T 13) (.const (.bool false))⟩, ⟨(some 4), none, .mov (T 14)⟩]) .ret))
theorem fok62 : FnOk Try.prog 62 15 s62 [.tmp 4] := ⟨Try.f62, _, Try.func62, rfl, Try.ntmps62, by kernel_rfl, by kernel_rfl⟩
theorem inL_c (hn : 1 ≤ n) (hr : h.next < far) (x lo hi : Int) : call n (.func (.func 62) #[] #[]) [.int .i64 x, .agg ⟨[.int .i64 lo, .int .i64 hi]⟩] h = some (.bool (decide (lo ≤ x ∧ x ≤ hi)), h) := by
  obtain ⟨n, rfl⟩ : ∃ p, n = p + 1 := ⟨n - 1, by omega⟩
  refine call_plain0 fok62 rfl rfl (by simp) rfl ?_
  have hr : h.shutAll.next < far := hr
  generalize h.shutAll = h at hr
  simp only [s62, W_seq, W_ops]
  refine ops_box (cs := [.int .i64 lo, .int .i64 hi]) (by omega) rfl rfl fun g1 hx => ?_
  by_cases h1 : lo ≤ x <;> by_cases h2 : x ≤ hi <;> simp only [rn0, rn1, rn2, reduceIte, Nat.reduceEqDiff, Nat.reduceAdd, Nat.reduceMul, Nat.reduceSub, Nat.reduceLeDiff, Nat.reduceLT, hx.row.ld, Nat.zero_add, List.getElem?_cons_zero, List.getElem?_cons_succ, h1, h2, and_self, and_false, false_and, g_un]
theorem truth_listed {X : MS} (hX : Good X) {u : Nat → Int} (hu : u ∈ truthsS X) : TruthL X X.nw u (u X.nw) X.nv fun v => u (X.nw + 1 + v) := by
  rw [truths_mem] at hu
  refine ⟨listed_of hX hu.1.1, fun k hk => ?_⟩
  have e : asU X u (u X.nw) (fun v => u (X.nw + 1 + v)) = u := by
    funext i
    by_cases c1 : i < X.nw
    · rw [asU_w c1]
    · by_cases c2 : i = X.nw
      · rw [c2, asU_s]
      · by_cases c3 : i < numU X
        · obtain ⟨v, rfl⟩ : ∃ v, i = X.nw + 1 + v := ⟨i - X.nw - 1, by omega⟩
          rw [asU_f (by unfold numU at c3; omega)]
        · rw [asU_zero (by omega), hu.1.2 i (by omega)]
  rw [e]
  exact hu.2 k hk
theorem gB_ok {Y : MS} {w : Nat} (hY : Good Y) (hw : w < Y.nv) (hz : truthsS Y ≠ []) : gB Y (w : Int) = true := by
  obtain ⟨a1, a2, a3⟩ := good_ok (S := Y) (at_ := (w : Int)) (errV_4 (fault_of hY) (by unfold InV; omega) hz)
  simp only [Int.toNat_natCast] at a1 a2 a3
  refine decide_eq_true ?_
  by_cases c : gAll Y w = []
  · left; rw [a1, if_pos c]
  · right
    obtain ⟨a, l1, l2, l3, l4, _⟩ := gAll_run hY hw hz c
    rw [a1, if_neg c, a2, a3, l3, l4]
    exact ⟨rfl, by omega⟩
theorem good_in {X : MS} (hX : Good X) {w k : Nat} (hw : w < X.nv) (hk : k < hoursN X w) (hz : truthsS X ≠ []) : (gL X (w : Int) ≤ X.vb w + (k : Int) ∧ X.vb w + (k : Int) ≤ gH X (w : Int)) ↔ verdS X w (X.vb w + (k : Int)) 1 (truthsS X) = 1 := by
  obtain ⟨a1, a2, a3⟩ := good_ok (S := X) (at_ := (w : Int)) (errV_4 (fault_of hX) (by unfold InV; omega) hz)
  simp only [Int.toNat_natCast] at a1 a2 a3
  by_cases c : gAll X w = []
  · have e : goodE X (w : Int) = 10 := by rw [a1, if_pos c]
    have e1 : gL X (w : Int) = 9 := if_pos e
    have e2 : gH X (w : Int) = 0 := if_pos e
    rw [e1, e2]
    constructor
    · rintro ⟨h1, h2⟩; omega
    · intro h1; exact absurd h1 (gAll_nil.1 c k hk)
  · obtain ⟨a, l1, l2, l3, l4, l5⟩ := gAll_run hX hw hz c
    have e : ¬ goodE X (w : Int) = 10 := by rw [a1, if_neg c]; decide
    have e1 : gL X (w : Int) = X.vb w + (a : Int) := by unfold gL; rw [if_neg e, a2, l3]
    have e2 : gH X (w : Int) = X.vb w + ((a + (gAll X w).length - 1 : Nat) : Int) := by unfold gH; rw [if_neg e, a3, l4]
    rw [e1, e2, l5 k hk]
    constructor
    · rintro ⟨h1, h2⟩; exact ⟨by omega, by omega⟩
    · rintro ⟨h1, h2⟩; exact ⟨by omega, by omega⟩
theorem verd_vals {S : MS} {v : Nat} {x : Int} {L : List (Nat → Int)} : verdS S v x 1 L = 1 ∨ verdS S v x 1 L = 2 ∨ verdS S v x 1 L = 3 := by
  unfold verdS
  by_cases c1 : ∀ t, t ∈ L → kindS S t v x ≠ 1
  · right; left; rw [if_pos c1]
  · rw [if_neg c1]
    by_cases c2 : ∀ t, t ∈ L → kindS S t v x = 1
    · left; rw [if_pos c2]
    · right; right; rw [if_neg c2]
theorem verd_2 {S : MS} {v : Nat} {x : Int} {L : List (Nat → Int)} (h : verdS S v x 1 L = 2) : ∀ t, t ∈ L → kindS S t v x ≠ 1 := by
  unfold verdS at h
  by_cases c1 : ∀ t, t ∈ L → kindS S t v x ≠ 1
  · exact c1
  · rw [if_neg c1] at h
    by_cases c2 : ∀ t, t ∈ L → kindS S t v x = 1
    · rw [if_pos c2] at h; cases h
    · rw [if_neg c2] at h; cases h
theorem first_free {X : MS} {u : Nat → Int} (hu : u ∈ truthsS X) : firstF X = none := by
  rw [truths_mem, ← allE_mem] at hu
  refine fstP_none.2 fun k hk hb => ?_
  obtain ⟨i, _, i2, i3⟩ := hb u hu.1
  exact i3 (hu.2 i i2)
def s11 : SCode := (.seq (.ops [⟨(some 3), none, .box (T 0)⟩, ⟨(some 6), none, .mov (.const (.bool false))⟩]) (.seq (.seq (.ops [⟨(some 23), none, .loadN 7 (T 3)⟩, ⟨(some 24), none, .call (.func 59) [(T 23)]⟩, ⟨(some 25), none, .not (T 24)⟩]) (.cond (T 25) (.seq (.ops [⟨(some 26), none, .call (.func 24) []⟩, ⟨(some 6), none, .mov (T 26)⟩]) .ret) .skip)) (.seq (.ops [⟨(some 28), none, .loadN 7 (T 3)⟩, ⟨(some 29), none, .mov (T 1)⟩, ⟨(some 30), none, .mov (T 2)⟩, ⟨(some 31), none, .call (.func 60) [(T 28), (T 29), (T 30)]⟩, ⟨(some 27), none, .mov (T 31)⟩, ⟨(some 32), none, .extract 0 (T 27)⟩, ⟨(some 33), none, .extract 1 (T 27)⟩, ⟨(some 7), none, .alloc [(.int .i64 (0)), (.int .i64 (0)), (.slice none 0 0), (.int .i64 (0)), (.int .i64 (0)), (.slice none 0 0), (.slice none 0 0)]⟩, ⟨(some 8), none, .alloc [(.slice none 0 0), (.int .i64 (0)), (.slice none 0 0)]⟩, ⟨none, none, .store 7 (T 7) (T 32)⟩, ⟨none, none, .store 3 (T 8) (T 33)⟩]) (.seq (.ops [⟨(some 35), none, .loadN 7 (T 7)⟩, ⟨(some 36), none, .call (.func 26) [(T 35)]⟩, ⟨(some 37), none, .call (.func 52) [(T 36)]⟩, ⟨(some 34), none, .mov (T 37)⟩, ⟨(some 38), none, .extract 0 (T 34)⟩, ⟨(some 39), none, .extract 1 (T 34)⟩, ⟨(some 9), none, .mov (T 38)⟩, ⟨(some 10), none, .mov (T 39)⟩]) (.seq (.ops [⟨(some 41), none, .loadN 7 (T 7)⟩, ⟨(some 42), none, .call (.func 26) [(T 41)]⟩, ⟨(some 43), none, .call (.func 51) [(T 42)]⟩, ⟨(some 40), none, .mov (T 43)⟩, ⟨(some 44), none, .extract 0 (T 40)⟩, ⟨(some 45), none, .extract 1 (T 40)⟩, ⟨(some 11), none, .mov (T 44)⟩, ⟨(some 12), none, .mov (T 45)⟩]) (.seq (.seq (.draw [⟨.free, ⟨(some 46), none, .mov (T 10)⟩⟩, ⟨.free, ⟨(some 47), none, .int2 .neq (T 46) (.const (.int .i64 (0)))⟩⟩, ⟨.free, ⟨(some 48), none, .mov (T 47)⟩⟩, ⟨.free, ⟨(some 49), (some (48, false)), .mov (T 9)⟩⟩, ⟨.free, ⟨(some 50), (some (48, false)), .len (T 49)⟩⟩, ⟨.free, ⟨(some 51), (some (48, false)), .int2 .neq (T 50) (.const (.int .i64 (0)))⟩⟩, ⟨.free, ⟨(some 52), none, .pick (T 48) (.const (.bool true)) (T 51)⟩⟩, ⟨.free, ⟨(some 53), none, .mov (T 52)⟩⟩, ⟨.free, ⟨(some 54), (some (53, false)), .mov (T 12)⟩⟩, ⟨.free, ⟨(some 55), (some (53, false)), .int2 .neq (T 54) (.const (.int .i64 (7)))⟩⟩, ⟨.free, ⟨(some 56), none, .pick (T 53) (.const (.bool true)) (T 55)⟩⟩, ⟨.free, ⟨(some 57), none, .mov (T 56)⟩⟩, ⟨.rd1, ⟨(some 58), (some (57, false)), .loadN 7 (T 7)⟩⟩, ⟨.up, ⟨(some 59), (some (57, false)), .call (.func 26) [(T 58)]⟩⟩, ⟨.rd, ⟨(some 60), (some (57, false)), .loadN 3 (T 8)⟩⟩, ⟨.any, ⟨(some 61), (some (57, false)), .call (.func 27) [(T 60)]⟩⟩, ⟨.any, ⟨(some 62), (some (57, false)), .call (.func 28) [(T 59), (T 61)]⟩⟩, ⟨.free, ⟨(some 63), (some (57, false)), .not (T 62)⟩⟩, ⟨.free, ⟨(some 64), none, .pick (T 57) (.const (.bool true)) (T 63)⟩⟩]) (.cond (T 64) (.seq (.ops [⟨(some 6), none, .mov (.const (.bool false))⟩]) .ret) .skip)) (.seq (.seq (.ops [⟨(some 13), none, .mov (.const (.int .i64 (0)))⟩]) (.block 0 (.loop (.seq (.seq (.ops [⟨(some 65), none, .mov (T 13)⟩, ⟨(some 66), none, .fieldAddr 5 (T 3)⟩, ⟨(some 67), none, .load1 (T 66)⟩, ⟨(some 68), none, .len (T 67)⟩, ⟨(some 69), none, .int2 .lss (T 65) (T 68)⟩]) (.cond (T 69) .skip (.exit 0))) (.seq (.block 1 (.seq (.ops [⟨(some 73), none, .loadN 7 (T 7)⟩, ⟨(some 74), none, .call (.func 26) [(T 73)]⟩, ⟨(some 75), none, .mov (T 13)⟩, ⟨(some 76), none, .call (.func 35) [(T 74), (T 75)]⟩, ⟨(some 72), none, .mov (T 76)⟩, ⟨(some 77), none, .extract 0 (T 72)⟩, ⟨(some 78), none, .extract 1 (T 72)⟩, ⟨(some 14), none, .mov (T 77)⟩, ⟨(some 15), none, .mov (T 78)⟩]) (.seq (.ops [⟨(some 80), none, .loadN 7 (T 7)⟩, ⟨(some 81), none, .mov (T 13)⟩, ⟨(some 82), none, .call (.func 61) [(T 80), (T 81)]⟩, ⟨(some 79), none, .mov (T 82)⟩, ⟨(some 83), none, .extract 0 (T 79)⟩, ⟨(some 84), none, .extract 1 (T 79)⟩, ⟨(some 16), none, .alloc [(.int .i64 (0)), (.int .i64 (0))]⟩, ⟨none, none, .store 2 (T 16) (T 83)⟩, ⟨(some 17), none, .mov (T 84)⟩]) (.seq (.ops [⟨(some 85), none, .fieldAddr 5 (T 3)⟩, ⟨(some 86), none, .load1 (T 85)⟩, ⟨(some 87), none, .mov (T 13)⟩, ⟨(some 88), none, .idxSl 4 (T 86) (T 87)⟩, ⟨(some 89), none, .fieldAddr 0 (T 88)⟩, ⟨(some 90), none, .load1 (T 89)⟩, ⟨(some 18), none, .mov (T 90)⟩]) (.seq (.seq (.ops [⟨(some 91), none, .mov (T 15)⟩, ⟨(some 92), none, .int2 .neq (T 91) (.const (.int .i64 (0)))⟩, ⟨(some 93), none, .mov (T 92)⟩, ⟨(some 94), (some (93, false)), .mov (T 17)⟩, ⟨(some 95), (some (93, false)), .not (T 94)⟩, ⟨(some 96), none, .pick (T 93) (.const (.bool true)) (T 95)⟩, ⟨(some 97), none, .mov (T 96)⟩, ⟨(some 98), (some (97, false)), .mov (T 14)⟩, ⟨(some 99), (some (97, false)), .len (T 98)⟩, ⟨(some 100), (some (97, false)), .fieldAddr 0 (T 3)⟩, ⟨(some 101), (some (97, false)), .load1 (T 100)⟩, ⟨(some 102), (some (97, false)), .mov (T 18)⟩, ⟨(some 103), (some (97, false)), .int2 .sub (T 101) (T 102)⟩, ⟨(some 104), (some (97, false)), .int2 .add (T 103) (.const (.int .i64 (1)))⟩, ⟨(some 105), (some (97, false)), .int2 .neq (T 99) (T 104)⟩, ⟨(some 106), none, .pick (T 97) (.const (.bool true)) (T 105)⟩]) (.cond (T 106) (.seq (.ops [⟨(some 6), none, .mov (.const (.bool false))⟩]) .ret) .skip)) (.seq (.ops [⟨(some 107), none, .mov (T 18)⟩, ⟨(some 19), none, .mov (T 107)⟩]) (.block 2 (.loop (.seq (.seq (.ops [⟨(some 108), none, .mov (T 19)⟩, ⟨(some 109), none, .fieldAddr 0 (T 3)⟩, ⟨(some 110), none, .load1 (T 109)⟩, ⟨(some 111), none, .int2 .leq (T 108) (T 110)⟩]) (.cond (T 111) .skip (.exit 2))) (.seq (.block 3 (.seq (.ops [⟨(some 115), none, .loadN 7 (T 7)⟩, ⟨(some 116), none, .call (.func 26) [(T 115)]⟩, ⟨(some 117), none, .mov (T 13)⟩, ⟨(some 118), none, .mov (T 19)⟩, ⟨(some 119), none, .call (.func 40) [(T 116), (T 117), (T 118)]⟩, ⟨(some 114), none, .mov (T 119)⟩, ⟨(some 120), none, .extract 0 (T 114)⟩, ⟨(some 121), none, .extract 1 (T 114)⟩, ⟨(some 20), none, .mov (T 120)⟩, ⟨(some 21), none, .mov (T 121)⟩]) (.seq (.ops [⟨(some 122), none, .loadN 7 (T 3)⟩, ⟨(some 123), none, .loadN 3 (T 8)⟩, ⟨(some 124), none, .mov (T 13)⟩, ⟨(some 125), none, .mov (T 19)⟩, ⟨(some 126), none, .call (.func 34) [(T 122), (T 123), (T 124), (T 125)]⟩, ⟨(some 127), none, .int2 .eql (T 126) (.const (.int .i64 (1)))⟩, ⟨(some 22), none, .mov (T 127)⟩]) (.seq (.draw [⟨.free, ⟨(some 128), none, .mov (T 21)⟩⟩, ⟨.free, ⟨(some 129), none, .int2 .neq (T 128) (.const (.int .i64 (0)))⟩⟩, ⟨.free, ⟨(some 130), none, .mov (T 129)⟩⟩, ⟨.rd1, ⟨(some 131), (some (130, false)), .loadN 7 (T 3)⟩⟩, ⟨.rd1, ⟨(some 132), (some (130, false)), .loadN 3 (T 8)⟩⟩, ⟨.free, ⟨(some 133), (some (130, false)), .mov (T 13)⟩⟩, ⟨.free, ⟨(some 134), (some (130, false)), .mov (T 19)⟩⟩, ⟨.up, ⟨(some 135), (some (130, false)), .call (.func 33) [(T 131), (T 132), (T 133), (T 134)]⟩⟩, ⟨.free, ⟨(some 136), (some (130, false)), .mov (T 14)⟩⟩, ⟨.free, ⟨(some 137), (some (130, false)), .mov (T 19)⟩⟩, ⟨.free, ⟨(some 138), (some (130, false)), .mov (T 18)⟩⟩, ⟨.free, ⟨(some 139), (some (130, false)), .int2 .sub (T 137) (T 138)⟩⟩, ⟨.free, ⟨(some 140), (some (130, false)), .idxSl 2 (T 136) (T 139)⟩⟩, ⟨.rd, ⟨(some 141), (some (130, false)), .loadN 2 (T 140)⟩⟩, ⟨.up, ⟨(some 142), (some (130, false)), .call (.func 62) [(T 135), (T 141)]⟩⟩, ⟨.free, ⟨(some 143), (some (130, false)), .not (T 142)⟩⟩, ⟨.free, ⟨(some 144), none, .pick (T 130) (.const (.bool true)) (T 143)⟩⟩, ⟨.free, ⟨(some 145), none, .mov (T 144)⟩⟩, ⟨.free, ⟨(some 146), (some (145, false)), .mov (T 20)⟩⟩, ⟨.up, ⟨(some 147), (some (145, false)), .call (.func 42) [(T 146), (.const (.int .i64 (1))), (.const (.int .i64 (3)))]⟩⟩, ⟨.free, ⟨(some 148), (some (145, false)), .not (T 147)⟩⟩, ⟨.free, ⟨(some 149), none, .pick (T 145) (.const (.bool true)) (T 148)⟩⟩, ⟨.free, ⟨(some 150), none, .mov (T 149)⟩⟩, ⟨.free, ⟨(some 151), (some (150, false)), .mov (T 20)⟩⟩, ⟨.free, ⟨(some 152), (some (150, false)), .int2 .eql (T 151) (.const (.int .i64 (1)))⟩⟩, ⟨.free, ⟨(some 153), (some (150, false)), .mov (T 152)⟩⟩, ⟨.free, ⟨(some 154), (some (153, true)), .mov (T 22)⟩⟩, ⟨.free, ⟨(some 155), (some (153, true)), .not (T 154)⟩⟩, ⟨.free, ⟨(some 156), (some (150, false)), .pick (T 153) (T 155) (.const (.bool false))⟩⟩, ⟨.free, ⟨(some 157), none, .pick (T 150) (.const (.bool true)) (T 156)⟩⟩, ⟨.free, ⟨(some 158), none, .mov (T 157)⟩⟩, ⟨.free, ⟨(some 159), (some (158, false)), .mov (T 20)⟩⟩, ⟨.free, ⟨(some 160), (some (158, false)), .int2 .eql (T 159) (.const (.int .i64 (2)))⟩⟩, ⟨.free, ⟨(some 161), (some (158, false)), .mov (T 160)⟩⟩, ⟨.free, ⟨(some 162), (some (161, true)), .mov (T 22)⟩⟩, ⟨.free, ⟨(some 163), (some (158, false)), .pick (T 161) (T 162) (.const (.bool false))⟩⟩, ⟨.free, ⟨(some 164), none, .pick (T 158) (.const (.bool true)) (T 163)⟩⟩, ⟨.free, ⟨(some 165), none, .mov (T 164)⟩⟩, ⟨.free, ⟨(some 166), (some (165, false)), .mov (T 19)⟩⟩, ⟨.rd1, ⟨(some 167), (some (165, false)), .loadN 2 (T 16)⟩⟩, ⟨.any, ⟨(some 168), (some (165, false)), .call (.func 62) [(T 166), (T 167)]⟩⟩, ⟨.free, ⟨(some 169), (some (165, false)), .mov (T 20)⟩⟩, ⟨.free, ⟨(some 170), (some (165, false)), .int2 .eql (T 169) (.const (.int .i64 (1)))⟩⟩, ⟨.free, ⟨(some 171), (some (165, false)), .bin .neq (.binOp .neq 4 (T 168) (T 170) 4) 4 (T 168) (T 170)⟩⟩, ⟨.free, ⟨(some 172), none, .pick (T 165) (.const (.bool true)) (T 171)⟩⟩]) (.cond (T 172) (.seq (.ops [⟨(some 6), none, .mov (.const (.bool false))⟩]) .ret) .skip))))) (.ops [⟨(some 112), none, .mov (T 19)⟩, ⟨(some 113), none, .int2 .add (T 112) (.const (.int .i64 (1)))⟩, ⟨(some 19), none, .mov (T 113)⟩]))))))))))) (.ops [⟨(some 70), none, .mov (T 13)⟩, ⟨(some 71), none, .int2 .add (T 70) (.const (.int .i64 (1)))⟩, ⟨(some 13), none, .mov (T 71)⟩])))))) (.seq (.ops [⟨(some 173), none, .call (.func 24) []⟩, ⟨(some 6), none, .mov (T 173)⟩]) .ret))))))))
theorem fok11 : FnOk Try.prog 11 174 s11 [.tmp 6] := ⟨Try.f11, _, Try.func11, rfl, Try.ntmps11, by kernel_rfl, by kernel_rfl⟩
set_option maxHeartbeats 6000000 in
theorem truthT_m (hn : 3100 ≤ n) (hr : h.next + 12000000 < far) (hfl : h.floor ≤ h.next) {wv vv sv ws : Value} {S : MS} (hy : SteepR h wv vv sv S) (hth : ThinS S) (hf : faultS S = 0) {w0 m : Nat} (hw0 : w0 < 65536) {a : Nat → Nat} (hw : Words h ws m a) :
    ∃ v h', call n (.func (.func 11) #[] #[]) [.agg ⟨stL S wv vv sv⟩, .int .u16 (w0 : Int), ws] h = some (v, h') ∧ v = .bool true := by
  obtain ⟨n, rfl⟩ : ∃ p, n = p + 1 := ⟨n - 1, by omega⟩
  refine call_any0 fok11 rfl rfl (by simp) ?_
  simp only [s11, W_seq, W_ops]
  refine ops_box (cs := stL S wv vv sv) (by omega) rfl hy.one fun g1 hx1 => ?_
  have n1 := hx1.next
  have f1 := hx1.floor
  have hy1 := hy.mono hx1.sub
  have x1 := hx1.row.whole (n := 7) rfl
  have er := ready_c (n := n) (h := g1) (by omega) (by omega) hy1
  rw [decide_eq_true (show ThinS S ∧ faultS S = 0 from ⟨hth, hf⟩)] at er
  have hG := good_of hf
  obtain ⟨zl0, zl5, zw, zw6, zv4, z5, _, _, zs0, zs1, zs2⟩ := hG.sizes
  obtain ⟨sv2, g2, e2, u, hu, o2, u2, m2, f2, X', tw, tf, rfl, hX2, hT2⟩ := smelled_c (n := n) (h := g1) (by omega) (by omega) (by omega) hy1 hG hw0 (hw.mono hx1.sub)
  have hGX := sd_good (S := S) (m := m) (a := a) (u := u) hG
  have huX := sd_truth (S := S) (m := m) (a := a) hu
  obtain ⟨X, hXX⟩ : ∃ X, X = smelledS S m a u := ⟨_, rfl⟩
  have kX : ∀ v x, kindS S u v x = kindS X u v x := fun v x => by rw [hXX]; rfl
  have bX : ∀ v x, blueS S u v x = blueS X u v x := fun v x => by rw [hXX]; rfl
  have hX1 : X.nv = S.nv ∧ X.nw = S.nw ∧ X.vb = S.vb ∧ X.last = S.last ∧ X.ns ≤ 5 := by rw [hXX]; exact ⟨rfl, rfl, rfl, rfl, sdN_le (S := S) (m := m) (a := a)⟩
  rw [← hXX] at hGX huX hX2
  have eXL : stL (smelledS S m a u) wv vv X' = stL X wv vv X' := by rw [hXX]
  rw [eXL] at e2
  obtain ⟨xv, xw, xb, xl, xn⟩ := hX1
  have hTX : ThinS X := ⟨by rw [xw]; exact hth.1, by rw [xv]; exact hth.2.1, by omega⟩
  have hfx := fault_of hGX
  have hzx : truthsS X ≠ [] := List.ne_nil_of_mem huX
  have hlx := leave_cons hGX hzx
  have hffx := first_free huX
  have r2 := hx1.row.mono (AHeap.subOf o2)
  simp only [rn0, rn1, rn2, reduceIte, Nat.reduceEqDiff, Nat.reduceAdd, Nat.reduceMul, Nat.reduceSub, Nat.reduceLeDiff, Nat.reduceLT, x1, er, e2, ex0, ex1]
  refine step_row (cs := zr7) (by omega) rfl rfl fun g3 hx3 => ?_
  have n3 := hx3.next
  have f3 := hx3.floor
  simp only [rn0, rn1, rn2, reduceIte, Nat.reduceEqDiff, Nat.reduceAdd, Nat.reduceMul, Nat.reduceSub, Nat.reduceLeDiff, Nat.reduceLT]
  refine step_row (cs := zr3) (by omega) rfl rfl fun g4 hx4 => ?_
  have n4 := hx4.next
  have f4 := hx4.floor
  simp only [rn0, rn1, rn2, reduceIte, Nat.reduceEqDiff, Nat.reduceAdd, Nat.reduceMul, Nat.reduceSub, Nat.reduceLeDiff, Nat.reduceLT]
  refine step_store (b := g2.next) (off := 0) (vs := stL X wv vv X') rfl (by rw [hx4.old _ (by omega)]; exact hx3.get) (by omega) (by omega) rfl hX2.one rfl (by simp [zr7]) fun g5 hs5 => ?_
  have es5 : splice zr7 0 (stL X wv vv X') = stL X wv vv X' := rfl
  rw [es5] at hs5
  have n5 := hs5.next
  have f5 := hs5.floor
  simp only [rn0, rn1, rn2, reduceIte, Nat.reduceEqDiff, Nat.reduceAdd, Nat.reduceMul, Nat.reduceSub, Nat.reduceLeDiff, Nat.reduceLT]
  refine step_store (b := g3.next) (off := 0) (vs := trL tw tf (u S.nw)) rfl (by rw [hs5.old _ (by omega)]; exact hx4.get) (by omega) (by omega) rfl hT2.one rfl (by simp [zr3]) fun g6 hs6 => ?_
  have es6 : splice zr3 0 (trL tw tf (u S.nw)) = trL tw tf (u S.nw) := rfl
  rw [es6] at hs6
  have n6 := hs6.next
  have f6 := hs6.floor
  have s26 : Sub All g2 g6 := AHeap.subOf fun i hi => by rw [hs6.old i (by omega), hs5.old i (by omega), hx4.old i (by omega), hx3.old i hi]
  have hX6 := hX2.mono s26
  have hT6 := hT2.mono s26
  have r6 := r2.mono s26
  have hy6 := hy1.mono ((AHeap.subOf o2).trans s26)
  obtain ⟨A7, hA7⟩ : ∃ q, q = g2.next := ⟨_, rfl⟩
  obtain ⟨A8, hA8⟩ : ∃ q, q = g3.next := ⟨_, rfl⟩
  rw [← hA7, ← hA8]
  rw [← hA7] at hs5
  rw [← hA8] at hs6
  have t6 : Row g6 A7 (stL X wv vv X') := by
    obtain ⟨w, gr, e⟩ := hs5.row
    exact ⟨w, gr, by rw [hs6.old _ (by omega)]; exact e⟩
  have v6 : Row g6 A8 (trL tw tf (u S.nw)) := hs6.row
  have b6 : g6.next ≤ h.next + 400 ∧ g6.floor ≤ g6.next := by omega
  clear hx1 hx3 hx4 hs5 hs6 s26 r2 hX2 hT2 e2 o2 hy1 x1
  obtain ⟨b61, b62⟩ := b6
  clear n1 f1 u2 m2 f2 n3 f3 n4 f4 n5 f5 n6 f6
  obtain ⟨w7, v7, s7, g7, e7, hy7, o7, u7, m7, f7⟩ := steepL_c (n := n) (h := g6) (by omega) (by omega) (by omega) hX6 hTX
  obtain ⟨l8, g8, e8, o8, u8, m8, f8, hL1⟩ := leaveP_c (n := n) (h := g7) (by omega) (by omega) (by omega) hy7 hTX
  have s8 : Sub All g6 g8 := (AHeap.subOf o7).trans (AHeap.subOf o8)
  rcases hL1 with ⟨h0, _⟩ | ⟨_, l1, rfl, hl1, ol1⟩
  · exact absurd hfx h0
  rw [hlx] at hl1
  obtain ⟨w9, v9, s9', g9, e9, hy9, o9, u9, m9, f9⟩ := steepL_c (n := n) (h := g8) (by omega) (by omega) (by omega) (hX6.mono s8) hTX
  have ef := firstP_c (n := n) (h := g9) (by omega) (by omega) hy9 hTX
  have q1 : firstE X = 7 := by unfold firstE; rw [if_pos hfx, if_pos hffx]
  have q2 : firstV X = 0 := by unfold firstV; rw [if_pos hfx, hffx]; rfl
  rw [q1, q2] at ef
  have s9 : Sub All g6 g9 := s8.trans (AHeap.subOf o9)
  have hl9 := Cells.mono hl1 (AHeap.subOf o9)
  have hX9 := hX6.mono s9
  have hT9 := hT6.mono s9
  have t9 := t6.mono s9
  have v9' := v6.mono s9
  obtain ⟨w10, v10, s10', g10, e10, hy10, o10, u10, m10, f10⟩ := steepL_c (n := n) (h := g9) (by omega) (by omega) (by omega) hX9 hTX
  have s10 : Sub All g9 g10 := AHeap.subOf o10
  have hT10 : TruR g10 tw tf X u := by
    have := hT9.mono s10
    rw [← xw, ← xv] at this
    exact this
  obtain ⟨tw', tf', g11, e11, hT11, o11, u11, m11, f11⟩ := truthL_c (n := n) (h := g10) (by omega) (by omega) (by omega) (sp := u X.nw) hT10 ⟨by omega, by omega⟩
  have s11 : Sub All g10 g11 := AHeap.subOf o11
  have epr := proveTruth_c (n := n) (h := g11) (by omega) (by omega) (sp := u X.nw) (hy10.mono s11) hTX hT11 ⟨by omega, by omega⟩
  rw [decide_eq_true (show faultS X = 0 ∧ TruthL X X.nw u (u X.nw) X.nv (fun v => u (X.nw + 1 + v)) from ⟨hfx, truth_listed hGX huX⟩)] at epr
  rw [xw] at e11 epr
  have s911 := s10.trans s11
  have s611 := s9.trans s911
  have z07 : ¬ (7 : Int) = 0 := by decide
  simp only [rn0, rn1, rn2, reduceIte, Nat.reduceEqDiff, Nat.reduceAdd, Nat.reduceMul, Nat.reduceSub, Nat.reduceLeDiff, Nat.reduceLT, t6.whole (n := 7) rfl, e7, e8, ex0, ex1, (t6.mono s8).whole (n := 7) rfl, e9, ef]
  refine W_draw All ?_
  simp only [rn0, rn1, rn2, reduceIte, Nat.reduceEqDiff, Nat.reduceAdd, Nat.reduceMul, Nat.reduceSub, Nat.reduceLeDiff, Nat.reduceLT, g_un, dg_un, d_guard, dg_tt, dg_tf, dg_ft, dg_ff, Cells.len hl9, List.length_nil, Int.natCast_zero, t9.whole (n := 7) rfl, (v9'.mono s10).whole (n := 3) rfl, v9'.whole (n := 3) rfl, hX9.self, hT9.self, e10, (hT9.mono s10).self, e11, epr]
  refine ⟨⟨u10, s10⟩, u11, ?_⟩
  have r11 := r6.mono s611
  have t11 := t6.mono s611
  have v11 := v6.mono s611
  have hy11 := hy6.mono s611
  have hX11 := hX6.mono s611
  have hT11' := hT6.mono s611
  have b11 : g11.next ≤ h.next + 1002000 ∧ g11.floor ≤ g11.next := by omega
  obtain ⟨b111, b112⟩ := b11
  clear e7 e8 e9 ef e10 e11 epr hl1 hl9 hX9 hT9 t9 v9' hT10 hT11 s911 s10 s11 s9 s8 hy7 hy9 hy10 er r6 t6 v6 hX6 hT6 hy6 o7 o8 o9 o10 o11 m7 m8 m9 m10 m11 u7 u8 u9 f7 f8 f9 f10 f11
  have haw := fun g => awake_c (n := n) (h := g) (by omega)
  refine W_loop S.nv (fun i f g ms => (Sub All g11 g ∧ g11.next ≤ g.next ∧ g.next ≤ g11.next + bN i ∧ g.floor = g11.floor) ∧ ms = [] ∧ f 3 = .pointer (some ⟨h.next, 0, none⟩) ∧ f 7 = .pointer (some ⟨A7, 0, none⟩) ∧ f 8 = .pointer (some ⟨A8, 0, none⟩) ∧ f 13 = .int .i64 (i : Int)) (by simp; omega) ?_ ?_ ?_
  · simp only [rn0, rn1, rn2, reduceIte, Nat.reduceEqDiff, Nat.reduceAdd, Nat.reduceMul, Nat.reduceSub, Nat.reduceLeDiff, Nat.reduceLT]
    first | exact ⟨⟨Sub.refl, Nat.le_refl _, Nat.le_add_right _ _, rfl⟩, rfl⟩ | exact ⟨Nat.le_add_right _ _, rfl⟩ | exact ⟨⟨Nat.le_refl _, Nat.le_add_right _ _⟩, rfl⟩ | exact ⟨Sub.refl, Nat.le_refl _, Nat.le_add_right _ _, rfl⟩
  · rintro i f g ms hi ⟨⟨sg, ug, mg, fg⟩, rfl, p3, p7, p8, p13⟩
    have hi' : (i : Int) < (S.nv : Int) := by omega
    have hwi : wrapF .i64 ((i : Int) + 1) = ((i + 1 : Nat) : Int) := by rw [wrap_in (by omega) (by omega)]; rfl
    have hbi := bN_le (i := i) (by omega)
    have hbs := bN_succ (i := i)
    have rg := r11.mono sg
    have tg := t11.mono sg
    have hyg := hy11.mono sg
    have hXg := hX11.mono sg
    obtain ⟨w12, v12, s12, g12, e12, hy12, o12, u12, m12, f12⟩ := steepL_c (n := n) (h := g) (by omega) (by omega) (by omega) hXg hTX
    obtain ⟨t13, g13, e13, s13, u13, m13, f13, hO⟩ := out_c (n := n) (h := g12) (by omega) (by omega) (by omega) hy12 hTX (i : Int)
    have sub13 : Sub All g g13 := (AHeap.subOf o12).trans s13
    have hiX : InV X (i : Int) := by unfold InV; rw [xv]; omega
    rcases hO with ⟨h0, _⟩ | ⟨_, h0, _⟩ | ⟨_, _, h0, _⟩ | ⟨_, _, _, rr, rfl, hr13⟩
    · exact absurd hfx h0
    · exact absurd hiX h0
    · exact absurd h0 hzx
    simp only [Int.toNat_natCast] at hr13
    have egw := goodW_c (n := n) (h := g13) (by omega) (by omega) (hXg.mono sub13) hTX (i : Int)
    rw [gB_ok hGX (by rw [xv]; exact hi) hzx] at egw
    obtain ⟨GL, hGL⟩ : ∃ x, x = gL X (i : Int) := ⟨_, rfl⟩
    obtain ⟨GH, hGH⟩ : ∃ x, x = gH X (i : Int) := ⟨_, rfl⟩
    rw [← hGL, ← hGH] at egw
    have ho : hoursN X i = hoursN S i := by unfold hoursN; rw [xl, xb]
    rw [ho] at hr13
    obtain ⟨hh1, hh2, hh3⟩ := hoursN_ok hG hi
    have hvb := (hG.args.vat i hi).1
    have wa1 : wrapF .i64 (S.last - S.vb i) = S.last - S.vb i := wrap_in (by omega) (by omega)
    have wa2 : wrapF .i64 (S.last - S.vb i + 1) = (hoursN S i : Int) := by rw [wrap_in (by omega) (by omega)]; omega
    simp only [rn0, rn1, rn2, reduceIte, Nat.reduceEqDiff, Nat.reduceAdd, Nat.reduceMul, Nat.reduceSub, Nat.reduceLeDiff, Nat.reduceLT, p3, p7, p8, p13, rg.ld, stg, Nat.zero_add, Cells.len hyg.v, hi', tg.whole (n := 7) rfl, e12, e13, ex0, ex1, (tg.mono sub13).whole (n := 7) rfl, egw]
    refine step_new (vs := [.int .i64 GL, .int .i64 GH]) (by omega) (by omega) rfl (by simp only [rn0, rn1, rn2, reduceIte, Nat.reduceEqDiff, Nat.reduceAdd, Nat.reduceMul, Nat.reduceSub, Nat.reduceLeDiff, Nat.reduceLT]; rfl) rfl rfl rfl fun g14 hx14 => ?_
    have n14 := hx14.next
    have f14 := hx14.floor
    have sub14 : Sub All g g14 := sub13.trans hx14.sub
    obtain ⟨A16, hA16⟩ : ∃ q, q = g13.next := ⟨_, rfl⟩
    have q14 := hx14.row
    rw [← hA16] at q14
    rw [← hA16]
    have rg14 := rg.mono sub14
    have tg14 := tg.mono sub14
    have vg14 := (v11.mono sg).mono sub14
    have hy14 := hyg.mono sub14
    have hX14 := hXg.mono sub14
    have hT14 := (hT11'.mono sg).mono sub14
    have hr14 := Cells.mono hr13 hx14.sub
    have hlen14 : g14.next ≤ g.next + 700401 ∧ g.next ≤ g14.next ∧ g14.floor = g.floor := by omega
    obtain ⟨k1, k2, k3⟩ := hlen14
    simp only [rn0, rn1, rn2, reduceIte, Nat.reduceEqDiff, Nat.reduceAdd, Nat.reduceMul, Nat.reduceSub, Nat.reduceLeDiff, Nat.reduceLT, p3, p7, p8, p13, rg14.ld, stg, Nat.zero_add, Cells.idx hy14.v hi, Cells.fld hy14.v hi, begin_ld hy14 hi, g_un, Cells.len hr14, wa1, wa2]
    refine W_loop (hoursN S i) (fun k f g' ms => (Sub All g14 g' ∧ g14.next ≤ g'.next ∧ g'.next ≤ g14.next + 401 * k ∧ g'.floor = g14.floor) ∧ ms = [] ∧ f 3 = .pointer (some ⟨h.next, 0, none⟩) ∧ f 7 = .pointer (some ⟨A7, 0, none⟩) ∧ f 8 = .pointer (some ⟨A8, 0, none⟩) ∧ f 13 = .int .i64 (i : Int) ∧ f 14 = rr ∧ f 16 = .pointer (some ⟨A16, 0, none⟩) ∧ f 18 = .int .i64 (S.vb i) ∧ f 19 = .int .i64 (S.vb i + (k : Int))) (by simp; omega) ?_ ?_ ?_
    · simp only [rn0, rn1, rn2, reduceIte, Nat.reduceEqDiff, Nat.reduceAdd, Nat.reduceMul, Nat.reduceSub, Nat.reduceLeDiff, Nat.reduceLT, p3, p7, p8, p13, Int.natCast_zero, Int.add_zero]
      first | exact ⟨⟨Sub.refl, Nat.le_refl _, Nat.le_add_right _ _, rfl⟩, rfl⟩ | exact ⟨Nat.le_add_right _ _, rfl⟩ | exact ⟨⟨Nat.le_refl _, Nat.le_add_right _ _⟩, rfl⟩ | exact ⟨Sub.refl, Nat.le_refl _, Nat.le_add_right _ _, rfl⟩ | exact Nat.le_add_right _ _
    · rintro k f g' ms hk ⟨⟨sg', ug', mg', fg'⟩, rfl, p3, p7, p8, p13, p14, p16, p18, p19⟩
      have hk' : S.vb i + (k : Int) ≤ S.last := by omega
      have hwk : wrapF .i64 (S.vb i + (k : Int) + 1) = S.vb i + ((k + 1 : Nat) : Int) := by rw [wrap_in (by omega) (by omega)]; omega
      have hwd : wrapF .i64 (S.vb i + (k : Int) - S.vb i) = (k : Int) := by rw [wrap_in (by omega) (by omega)]; omega
      have rg' := rg14.mono sg'
      have tg' := tg14.mono sg'
      have vg' := vg14.mono sg'
      obtain ⟨w15, v15, s15, g15, e15, hy15, o15, u15, m15, f15⟩ := steepL_c (n := n) (h := g') (by omega) (by omega) (by omega) (hX14.mono sg') hTX
      have er15 := rightP_c (n := n) (h := g15) (by omega) (by omega) hy15 hTX (i : Int) (S.vb i + (k : Int))
      have s15' : Sub All g14 g15 := sg'.trans (AHeap.subOf o15)
      have hin : InH X (i : Int) (S.vb i + (k : Int)) := ⟨hiX, by rw [Int.toNat_natCast, xb]; omega, by rw [xl]; omega⟩
      have q3 := errH_0 hfx hin hzx
      have q4 : rightV X (i : Int) (S.vb i + (k : Int)) = verdS X i (S.vb i + (k : Int)) 1 (truthsS X) := by unfold rightV; rw [if_pos q3, Int.toNat_natCast]
      rw [q3, q4] at er15
      have rg15 := rg14.mono s15'
      have tg15 := tg14.mono s15'
      have vg15 := vg14.mono s15'
      have hy15' := hy14.mono s15'
      have hT15 := hT14.mono s15'
      have hr15 := Cells.mono hr14 s15'
      have q15 := q14.mono s15'
      have hho : HourOk S i (S.vb i + (k : Int)) := ⟨hi, by omega, hk'⟩
      have hui : InU S u := (allE_mem.1 hu).1
      have ek := kind_c (n := n) (h := g15) (by omega) (by omega) hy15' hT15 hG hui hho
      have eb := blue_c (n := n) (h := g15) (sp := u S.nw) (by omega) (by omega) hy15' hT15 hG hui hho
      have lr := ranges_ld hr15 hk
      have hlo : loB X i (truthsS X) ((truthsS X).length - 1) k ≤ blueS S u i (S.vb i + (k : Int)) := by
        have e1 : loB X i (truthsS X) ((truthsS X).length - 1) k = loN (fun t => blueS X t i (X.vb i + (k : Int))) (truthsS X) := rfl
        have := (le_loN hzx (val := fun t => blueS X t i (X.vb i + (k : Int)))).1 (Int.le_refl _) u huX
        rw [e1, bX, ← xb]; exact this
      have hhi : blueS S u i (S.vb i + (k : Int)) ≤ hiB X i (truthsS X) ((truthsS X).length - 1) k := by
        have e1 : hiB X i (truthsS X) ((truthsS X).length - 1) k = hiN (fun t => blueS X t i (X.vb i + (k : Int))) (truthsS X) := rfl
        have := (hiN_le hzx (val := fun t => blueS X t i (X.vb i + (k : Int)))).1 (Int.le_refl _) u huX
        rw [e1, bX, ← xb]; exact this
      have ein := inL_c (n := n) (h := g15) (by omega) (by omega) (blueS S u i (S.vb i + (k : Int))) (loB X i (truthsS X) ((truthsS X).length - 1) k) (hiB X i (truthsS X) ((truthsS X).length - 1) k)
      rw [decide_eq_true ⟨hlo, hhi⟩] at ein
      have eih := inL_c (n := n) (h := g15) (by omega) (by omega) (S.vb i + (k : Int)) GL GH
      have hgi := good_in hGX (w := i) (k := k) (by rw [xv]; exact hi) (by rw [ho]; exact hk) hzx
      rw [← hGL, ← hGH, xb] at hgi
      have hgd : decide (GL ≤ S.vb i + (k : Int) ∧ S.vb i + (k : Int) ≤ GH) = decide (verdS X i (S.vb i + (k : Int)) 1 (truthsS X) = 1) := decide_eq_decide.2 hgi
      rw [hgd] at eih
      have u4 : Try.prog.underlying 4 = some .bool := Try.underlying4
      have hv1 : verdS X i (S.vb i + (k : Int)) 1 (truthsS X) = 1 → kindS S u i (S.vb i + (k : Int)) = 1 := fun h1 => by rw [kX]; exact (verd_1 hzx).1 h1 u huX
      have hv2 : verdS X i (S.vb i + (k : Int)) 1 (truthsS X) = 2 → ¬ kindS S u i (S.vb i + (k : Int)) = 1 := fun h1 => by rw [kX]; exact verd_2 h1 u huX
      have hvv := verd_vals (S := X) (v := i) (x := S.vb i + (k : Int)) (L := truthsS X)
      generalize verdS X i (S.vb i + (k : Int)) 1 (truthsS X) = V at *
      have einV := in_c (n := n) (h := g15) (by omega) V 1 3
      rw [decide_eq_true (show 1 ≤ V ∧ V ≤ 3 by omega)] at einV
      simp only [rn0, rn1, rn2, reduceIte, Nat.reduceEqDiff, Nat.reduceAdd, Nat.reduceMul, Nat.reduceSub, Nat.reduceLeDiff, Nat.reduceLT, p3, p7, p8, p13, p14, p16, p18, p19, rg'.ld, stg, Nat.zero_add, hk', tg'.whole (n := 7) rfl, e15, er15, ex0, ex1, rg15.whole (n := 7) rfl, vg15.whole (n := 3) rfl, ek]
      refine W_draw All ?_
      have hk3 : (V = 1 ∧ kindS S u i (S.vb i + (k : Int)) = 1) ∨ (V = 2 ∧ ¬ kindS S u i (S.vb i + (k : Int)) = 1) ∨ (V = 3 ∧ ¬ (1 : Int) < 0) := by
        rcases hvv with e | e | e
        · exact .inl ⟨e, hv1 e⟩
        · exact .inr (.inl ⟨e, hv2 e⟩)
        · exact .inr (.inr ⟨e, by decide⟩)
      rcases hk3 with ⟨rfl, hk1⟩ | ⟨rfl, hk1⟩ | ⟨rfl, hk1⟩
      all_goals
        simp only [rn0, rn1, rn2, reduceIte, Nat.reduceEqDiff, Nat.reduceAdd, Nat.reduceMul, Nat.reduceSub, Nat.reduceLeDiff, Nat.reduceLT, d_guard, dg_tt, dg_tf, dg_ft, dg_ff, dg_un, g_un, p3, p7, p8, p13, p14, p16, p18, p19, rg15.whole (n := 7) rfl, vg15.whole (n := 3) rfl, hy15'.self, hT15.self, eb, hwd, Cells.idx hr15 hk, lr, self_two, ein, einV, hk1, Int.reduceEq, q15.whole (n := 2) rfl, eih, x_binA, binA_neqB, p_neqB u4, valN_tmp, rBB, neq_self, hwk]
        exact ⟨s15', by omega, by omega, by omega⟩
    · rintro f g' ms ⟨⟨sg', ug', mg', fg'⟩, rfl, p3, p7, p8, p13, p14, p16, p18, p19⟩
      have hk' : ¬ S.vb i + ((hoursN S i : Nat) : Int) ≤ S.last := by omega
      have rg' := rg14.mono sg'
      simp only [rn0, rn1, rn2, reduceIte, Nat.reduceEqDiff, Nat.reduceAdd, Nat.reduceMul, Nat.reduceSub, Nat.reduceLeDiff, Nat.reduceLT, p3, p7, p8, p13, p14, p16, p18, p19, rg'.ld, stg, Nat.zero_add, hk', hwi]
      have mm : g'.next ≤ g11.next + bN (i + 1) := by omega
      first | exact ⟨⟨sg.trans (sub14.trans sg'), by omega, mm, by omega⟩, rfl⟩ | exact ⟨sg.trans (sub14.trans sg'), by omega, mm, by omega⟩ | trace_state
  · rintro f g ms ⟨⟨sg, ug, mg, fg⟩, rfl, p3, p7, p8, p13⟩
    have rg := r11.mono sg
    have hyg := hy11.mono sg
    simp only [rn0, rn1, rn2, reduceIte, Nat.reduceEqDiff, Nat.reduceAdd, Nat.reduceMul, Nat.reduceSub, Nat.reduceLeDiff, Nat.reduceLT, p3, p7, p8, p13, rg.ld, stg, Nat.zero_add, Cells.len hyg.v, Int.lt_irrefl, haw]
theorem truthLaw_c (hn : 3200 ≤ n) (hr : h.next + 12000000 < far) (hfl : h.floor ≤ h.next) {wv vv sv ws : Value} {S : MS} (hy : SteepR h wv vv sv S) (a1 : Int) (wf1 : (Lit.int .u16 a1).wf = true) {m : Nat} {a : Nat → Nat} (hw : Words h ws m a) :
    ∃ v h', call n (.func (.func 11) #[] #[]) [.agg ⟨stL S wv vv sv⟩, .int .u16 a1, ws] h = some (v, h') ∧ v = .bool true := by
  obtain ⟨k1, rfl, h1⟩ := wf16 wf1
  by_cases c1 : ThinS S ∧ faultS S = 0
  · exact truthT_m (by omega) hr hfl hy c1.1 c1.2 h1 hw
  obtain ⟨n, rfl⟩ : ∃ p, n = p + 1 := ⟨n - 1, by omega⟩
  refine call_any0 fok11 rfl rfl (by simp) ?_
  simp only [s11, W_seq, W_ops]
  refine ops_box (cs := stL S wv vv sv) (by omega) rfl hy.one fun g1 hx1 => ?_
  have n1 := hx1.next
  have hy1 := hy.mono hx1.sub
  have er := ready_c (n := n) (h := g1) (by omega) (by omega) hy1
  rw [decide_eq_false c1] at er
  simp only [rn0, rn1, rn2, reduceIte, Nat.reduceEqDiff, Nat.reduceAdd, Nat.reduceMul, Nat.reduceSub, Nat.reduceLeDiff, Nat.reduceLT, hx1.row.whole (n := 7) rfl, er, awake_c (n := n) (h := g1) (by omega)]
end Go.Vm.St
