/- Texts of the proofs of this seat, put together: StStay, StLess, StWarmer, StAskedL, VmSets, VmSetR, StSets, StSetsI, StWrong, StSmall. -/
import Derived.Test.YtffgdpkogokdhaaPk15

namespace Go.Vm.St
open Go.Proofs Go.Vm.Vat
set_option linter.unusedSimpArgs false
set_option linter.unusedVariables false
set_option maxRecDepth 10000
variable {n : Nat} {h : AHeap}
noncomputable def gL (S : MS) (w : Int) : Int := if goodE S w = 10 then 9 else goodLo S w
noncomputable def gH (S : MS) (w : Int) : Int := if goodE S w = 10 then 0 else goodHi S w
noncomputable def gB (S : MS) (w : Int) : Bool := decide (goodE S w = 10 ∨ goodE S w = 0 ∧ goodLo S w ≤ goodHi S w)
theorem rd_1' {S : Nat → Prop} {f : Go.Vm.Fr} {x : Operand} : readsIn S f (.load1 x) = ∀ ad, val f x = .pointer (some ad) → S ad.block := id rfl
def s61 : SCode := (.seq (.ops [⟨(some 2), none, .box (T 0)⟩, ⟨(some 4), none, .alloc [(.int .i64 (0)), (.int .i64 (0))]⟩, ⟨(some 5), none, .mov (.const (.bool false))⟩]) (.seq (.ops [⟨(some 9), none, .loadN 7 (T 2)⟩, ⟨(some 10), none, .call (.func 26) [(T 9)]⟩, ⟨(some 11), none, .mov (T 1)⟩, ⟨(some 12), none, .call (.func 44) [(T 10), (T 11)]⟩, ⟨(some 8), none, .mov (T 12)⟩, ⟨(some 13), none, .extract 0 (T 8)⟩, ⟨(some 14), none, .extract 1 (T 8)⟩, ⟨(some 6), none, .alloc [(.int .i64 (0)), (.int .i64 (0))]⟩, ⟨none, none, .store 2 (T 6) (T 13)⟩, ⟨(some 7), none, .mov (T 14)⟩]) (.seq (.seq (.ops [⟨(some 15), none, .mov (T 7)⟩, ⟨(some 16), none, .int2 .eql (T 15) (.const (.int .i64 (10)))⟩]) (.cond (T 16) (.seq (.ops [⟨(some 17), none, .call (.func 46) [(.const (.int .i64 (9))), (.const (.int .i64 (0)))]⟩, ⟨none, none, .store 2 (T 4) (T 17)⟩, ⟨(some 5), none, .mov (.const (.bool true))⟩]) .ret) .skip)) (.seq (.draw [⟨.rd1, ⟨(some 18), none, .loadN 2 (T 6)⟩⟩, ⟨.free, ⟨(some 19), none, .mov (T 7)⟩⟩, ⟨.free, ⟨(some 20), none, .int2 .eql (T 19) (.const (.int .i64 (0)))⟩⟩, ⟨.free, ⟨(some 21), none, .mov (T 20)⟩⟩, ⟨.free, ⟨(some 22), (some (21, true)), .fieldAddr 0 (T 6)⟩⟩, ⟨.rd, ⟨(some 23), (some (21, true)), .load1 (T 22)⟩⟩, ⟨.free, ⟨(some 24), (some (21, true)), .fieldAddr 1 (T 6)⟩⟩, ⟨.rd, ⟨(some 25), (some (21, true)), .load1 (T 24)⟩⟩, ⟨.free, ⟨(some 26), (some (21, true)), .int2 .leq (T 23) (T 25)⟩⟩, ⟨.free, ⟨(some 27), none, .pick (T 21) (T 26) (.const (.bool false))⟩⟩, ⟨.up, ⟨none, none, .store 2 (T 4) (T 18)⟩⟩, ⟨.free, ⟨(some 5), none, .mov (T 27)⟩⟩]) .ret))))
theorem fok61 : FnOk Try.prog 61 28 s61 [.cellN 4 2, .tmp 5] := ⟨Try.f61, _, Try.func61, rfl, Try.ntmps61, by kernel_rfl, by kernel_rfl⟩
set_option maxHeartbeats 2000000 in
theorem goodW_c (hn : 2600 ≤ n) (hr : h.next + 2000000 < far) {wv vv sv : Value} {S : MS} (hy : SteepR h wv vv sv S) (hT : ThinS S) (w : Int) :
    call n (.func (.func 61) #[] #[]) [.agg ⟨stL S wv vv sv⟩, .int .i64 w] h = some (.tuple ⟨[.agg ⟨[.int .i64 (gL S w), .int .i64 (gH S w)]⟩, .bool (gB S w)]⟩, h) := by
  obtain ⟨n, rfl⟩ : ∃ p, n = p + 1 := ⟨n - 1, by omega⟩
  refine call_plain0 fok61 rfl rfl (by simp) rfl ?_
  have hy := hy.shut
  have hr : h.shutAll.next + 2000000 < far := hr
  have hfl : h.shutAll.floor ≤ h.shutAll.next := Nat.le_refl _
  generalize h.shutAll = h at hy hr hfl
  simp only [s61, W_seq, W_ops]
  refine ops_box (cs := stL S wv vv sv) (by omega) rfl hy.one fun g1 hx1 => ?_
  have n1 := hx1.next
  have f1 := hx1.floor
  refine ops_alloc (cs := [.int .i64 0, .int .i64 0]) (by omega) rfl fun g2 hx2 => ?_
  have n2 := hx2.next
  have f2 := hx2.floor
  have sub2 : Sub All h g2 := hx1.sub.trans hx2.sub
  have hy2 := hy.mono sub2
  have w2 := (hx1.row.mono hx2.sub).whole (n := 7) rfl
  obtain ⟨w3, v3, s3, g3, e3, hy3, o3, u3, m3, f3⟩ := steepL_c (n := n) (h := g2) (by omega) (by omega) (by omega) hy2 hT
  have eg := goodP_c (n := n) (h := g3) (by omega) (by omega) hy3 hT w
  have q3 : g3.get g1.next = some (.row [.int .i64 0, .int .i64 0] true 0) := by rw [o3 _ (by omega)]; exact hx2.get
  simp only [rn0, rn1, rn2, rn3, rn4, rn5, rn6, rn7, rn8, if_true, if_false, Nat.le_refl, true_and, and_true, decide_true, decide_false, Bool.not_true, Bool.not_false, reduceIte, Nat.reduceEqDiff, Nat.reduceAdd, Nat.reduceMul, Nat.reduceSub, Nat.reduceLeDiff, Nat.reduceLT, w2, e3, eg, ex0, ex1]
  refine step_new (vs := [.int .i64 (goodLo S w), .int .i64 (goodHi S w)]) (by omega) (by omega) rfl (by simp only [rn0, rn1, rn2, rn3, rn4, rn5, rn6, rn7, rn8, if_true, if_false, Nat.le_refl, true_and, and_true, decide_true, decide_false, Bool.not_true, Bool.not_false, reduceIte, Nat.reduceEqDiff, Nat.reduceAdd, Nat.reduceMul, Nat.reduceSub, Nat.reduceLeDiff, Nat.reduceLT]; rfl) rfl rfl rfl fun g4 hx4 => ?_
  have n4 := hx4.next
  have f4 := hx4.floor
  have q4 : g4.get g1.next = some (.row [.int .i64 0, .int .i64 0] true 0) := by rw [hx4.old _ (by omega)]; exact q3
  by_cases c : goodE S w = 10
  · have e1 : gL S w = 9 := if_pos c
    have e2 : gH S w = 0 := if_pos c
    have e3 : gB S w = true := decide_eq_true (.inl c)
    rw [e1, e2, e3]
    have eb := between_c (n := n) (h := g4) (by omega) (by omega) 9 0
    simp only [rn0, rn1, rn2, rn3, rn4, rn5, rn6, rn7, rn8, if_true, if_false, Nat.le_refl, true_and, and_true, decide_true, decide_false, Bool.not_true, Bool.not_false, reduceIte, Nat.reduceEqDiff, Nat.reduceAdd, Nat.reduceMul, Nat.reduceSub, Nat.reduceLeDiff, Nat.reduceLT, c, eb]
    refine step_store (b := g1.next) (off := 0) (vs := [.int .i64 9, .int .i64 0]) rfl q4 (by omega) (by omega) rfl rfl rfl (by simp) fun g5 hs5 => ?_
    rw [splice_all (by rfl)] at hs5
    simp only [rn0, rn1, rn2, rn3, rn4, rn5, rn6, rn7, rn8, if_true, if_false, Nat.le_refl, true_and, and_true, decide_true, decide_false, Bool.not_true, Bool.not_false, reduceIte, Nat.reduceEqDiff, Nat.reduceAdd, Nat.reduceMul, Nat.reduceSub, Nat.reduceLeDiff, Nat.reduceLT, res_two, hs5.row.whole (n := 2) rfl]
  · have e1 : gL S w = goodLo S w := if_neg c
    have e2 : gH S w = goodHi S w := if_neg c
    have nb : (g3.next = g1.next) = False := eq_false (by omega)
    have t4 := hx4.row
    rw [e1, e2]
    by_cases c0 : goodE S w = 0
    · have e3 : gB S w = decide (goodLo S w ≤ goodHi S w) := by
        unfold gB
        exact decide_eq_decide.2 ⟨fun q => q.elim (fun q => absurd q c) fun q => q.2, fun q => .inr ⟨c0, q⟩⟩
      rw [e3]
      have z10 : ¬ (0 : Int) = 10 := by decide
      simp only [rn0, rn1, rn2, rn3, rn4, rn5, rn6, rn7, rn8, if_true, if_false, Nat.le_refl, true_and, and_true, decide_true, decide_false, Bool.not_true, Bool.not_false, reduceIte, Nat.reduceEqDiff, Nat.reduceAdd, Nat.reduceMul, Nat.reduceSub, Nat.reduceLeDiff, Nat.reduceLT, c0, z10]
      refine W_draw (fun i => i ≠ g1.next) ?_
      simp only [rn0, rn1, rn2, rn3, rn4, rn5, rn6, rn7, rn8, if_true, if_false, Nat.le_refl, true_and, and_true, decide_true, decide_false, Bool.not_true, Bool.not_false, reduceIte, Nat.reduceEqDiff, Nat.reduceAdd, Nat.reduceMul, Nat.reduceSub, Nat.reduceLeDiff, Nat.reduceLT, rd_1', rd_N, rd_ne, t4.whole (n := 2) rfl, t4.ld, Nat.zero_add, List.getElem?_cons_zero, List.getElem?_cons_succ, d_guard, dg_tt, dg_tf, dg_ft, dg_ff, ne_eq, nb, not_false_eq_true]
      refine up_store (b := g1.next) (off := 0) (vs := [.int .i64 (goodLo S w), .int .i64 (goodHi S w)]) rfl q4 (by omega) (by omega) rfl rfl rfl (by simp) (fun g hs => fun i cs w gr hi hg => by rw [hs.old i hi]; exact hg) fun g5 hs5 => ?_
      rw [splice_all (by rfl)] at hs5
      simp only [rn0, rn1, rn2, rn3, rn4, rn5, rn6, rn7, rn8, if_true, if_false, Nat.le_refl, true_and, and_true, decide_true, decide_false, Bool.not_true, Bool.not_false, reduceIte, Nat.reduceEqDiff, Nat.reduceAdd, Nat.reduceMul, Nat.reduceSub, Nat.reduceLeDiff, Nat.reduceLT, res_two, hs5.row.whole (n := 2) rfl]
    · have e3 : gB S w = false := decide_eq_false fun q => q.elim (fun q => c q) fun q => c0 q.1
      rw [e3]
      simp only [rn0, rn1, rn2, rn3, rn4, rn5, rn6, rn7, rn8, if_true, if_false, Nat.le_refl, true_and, and_true, decide_true, decide_false, Bool.not_true, Bool.not_false, reduceIte, Nat.reduceEqDiff, Nat.reduceAdd, Nat.reduceMul, Nat.reduceSub, Nat.reduceLeDiff, Nat.reduceLT, c]
      refine W_draw (fun i => i ≠ g1.next) ?_
      simp only [rn0, rn1, rn2, rn3, rn4, rn5, rn6, rn7, rn8, if_true, if_false, Nat.le_refl, true_and, and_true, decide_true, decide_false, Bool.not_true, Bool.not_false, reduceIte, Nat.reduceEqDiff, Nat.reduceAdd, Nat.reduceMul, Nat.reduceSub, Nat.reduceLeDiff, Nat.reduceLT, rd_1', rd_N, rd_ne, t4.whole (n := 2) rfl, t4.ld, Nat.zero_add, List.getElem?_cons_zero, List.getElem?_cons_succ, d_guard, dg_tt, dg_tf, dg_ft, dg_ff, ne_eq, nb, not_false_eq_true, c0]
      refine up_store (b := g1.next) (off := 0) (vs := [.int .i64 (goodLo S w), .int .i64 (goodHi S w)]) rfl q4 (by omega) (by omega) rfl rfl rfl (by simp) (fun g hs => fun i cs w gr hi hg => by rw [hs.old i hi]; exact hg) fun g5 hs5 => ?_
      rw [splice_all (by rfl)] at hs5
      simp only [rn0, rn1, rn2, rn3, rn4, rn5, rn6, rn7, rn8, if_true, if_false, Nat.le_refl, true_and, and_true, decide_true, decide_false, Bool.not_true, Bool.not_false, reduceIte, Nat.reduceEqDiff, Nat.reduceAdd, Nat.reduceMul, Nat.reduceSub, Nat.reduceLeDiff, Nat.reduceLT, res_two, hs5.row.whole (n := 2) rfl]
theorem g_un {X : Cx} {d : Option Nat} {want : Bool} {op : SOp} {L : List SI} {Q : WPost} {f : Go.Vm.Fr} {m : List Nat} : gW X undef want d op L Q f h m = opsW X L Q (putF f d undef) h m := by
  have : isB want undef = false := rfl
  simp [gW, this]
noncomputable def stayB (S X : MS) (w : Int) : Bool := gB S w && (gB X w && (decide (gH S w < gL S w) || (decide (gL X w ≤ gL S w) && decide (gH S w ≤ gH X w))))
def s67 : SCode := (.seq (.ops [⟨(some 3), none, .box (T 0)⟩, ⟨(some 4), none, .box (T 1)⟩, ⟨(some 6), none, .mov (.const (.bool false))⟩]) (.seq (.ops [⟨(some 12), none, .loadN 7 (T 3)⟩, ⟨(some 13), none, .mov (T 2)⟩, ⟨(some 14), none, .call (.func 61) [(T 12), (T 13)]⟩, ⟨(some 11), none, .mov (T 14)⟩, ⟨(some 15), none, .extract 0 (T 11)⟩, ⟨(some 16), none, .extract 1 (T 11)⟩, ⟨(some 7), none, .alloc [(.int .i64 (0)), (.int .i64 (0))]⟩, ⟨none, none, .store 2 (T 7) (T 15)⟩, ⟨(some 8), none, .mov (T 16)⟩]) (.seq (.ops [⟨(some 18), none, .loadN 7 (T 4)⟩, ⟨(some 19), none, .mov (T 2)⟩, ⟨(some 20), none, .call (.func 61) [(T 18), (T 19)]⟩, ⟨(some 17), none, .mov (T 20)⟩, ⟨(some 21), none, .extract 0 (T 17)⟩, ⟨(some 22), none, .extract 1 (T 17)⟩, ⟨(some 9), none, .alloc [(.int .i64 (0)), (.int .i64 (0))]⟩, ⟨none, none, .store 2 (T 9) (T 21)⟩, ⟨(some 10), none, .mov (T 22)⟩]) (.seq (.ops [⟨(some 23), none, .mov (T 8)⟩, ⟨(some 24), none, .mov (T 23)⟩, ⟨(some 25), (some (24, true)), .mov (T 10)⟩, ⟨(some 26), none, .pick (T 24) (T 25) (.const (.bool false))⟩, ⟨(some 27), none, .mov (T 26)⟩, ⟨(some 28), (some (27, true)), .fieldAddr 0 (T 7)⟩, ⟨(some 29), (some (27, true)), .load1 (T 28)⟩, ⟨(some 30), (some (27, true)), .fieldAddr 1 (T 7)⟩, ⟨(some 31), (some (27, true)), .load1 (T 30)⟩, ⟨(some 32), (some (27, true)), .int2 .gtr (T 29) (T 31)⟩, ⟨(some 33), (some (27, true)), .mov (T 32)⟩, ⟨(some 34), (some (33, false)), .fieldAddr 0 (T 7)⟩, ⟨(some 35), (some (33, false)), .load1 (T 34)⟩, ⟨(some 36), (some (33, false)), .fieldAddr 0 (T 9)⟩, ⟨(some 37), (some (33, false)), .load1 (T 36)⟩, ⟨(some 38), (some (33, false)), .int2 .geq (T 35) (T 37)⟩, ⟨(some 39), (some (33, false)), .mov (T 38)⟩, ⟨(some 40), (some (39, true)), .fieldAddr 1 (T 7)⟩, ⟨(some 41), (some (39, true)), .load1 (T 40)⟩, ⟨(some 42), (some (39, true)), .fieldAddr 1 (T 9)⟩, ⟨(some 43), (some (39, true)), .load1 (T 42)⟩, ⟨(some 44), (some (39, true)), .int2 .leq (T 41) (T 43)⟩, ⟨(some 45), (some (33, false)), .pick (T 39) (T 44) (.const (.bool false))⟩, ⟨(some 46), (some (27, true)), .pick (T 33) (.const (.bool true)) (T 45)⟩, ⟨(some 47), none, .pick (T 27) (T 46) (.const (.bool false))⟩, ⟨(some 6), none, .mov (T 47)⟩]) .ret))))
theorem fok67 : FnOk Try.prog 67 48 s67 [.tmp 6] := ⟨Try.f67, _, Try.func67, rfl, Try.ntmps67, by kernel_rfl, by kernel_rfl⟩
set_option maxHeartbeats 2000000 in
theorem stay_c (hn : 2700 ≤ n) (hr : h.next + 2100000 < far) {wv vv sv wv' vv' sv' : Value} {S X : MS} (hy : SteepR h wv vv sv S) (hT : ThinS S) (hx : SteepR h wv' vv' sv' X) (hT' : ThinS X) (w : Int) :
    call n (.func (.func 67) #[] #[]) [.agg ⟨stL S wv vv sv⟩, .agg ⟨stL X wv' vv' sv'⟩, .int .i64 w] h = some (.bool (stayB S X w), h) := by
  obtain ⟨n, rfl⟩ : ∃ p, n = p + 1 := ⟨n - 1, by omega⟩
  refine call_plain0 fok67 rfl rfl (by simp) rfl ?_
  have hy := hy.shut
  have hx := hx.shut
  have hr : h.shutAll.next + 2100000 < far := hr
  have hfl : h.shutAll.floor ≤ h.shutAll.next := Nat.le_refl _
  generalize h.shutAll = h at hy hx hr hfl
  simp only [s67, W_seq, W_ops]
  refine ops_box (cs := stL S wv vv sv) (by omega) rfl hy.one fun g1 hx1 => ?_
  have n1 := hx1.next
  have f1 := hx1.floor
  refine ops_box (cs := stL X wv' vv' sv') (by omega) rfl hx.one fun g2 hx2 => ?_
  have n2 := hx2.next
  have f2 := hx2.floor
  have sub2 : Sub All h g2 := hx1.sub.trans hx2.sub
  have eg := goodW_c (n := n) (h := g2) (by omega) (by omega) (hy.mono sub2) hT w
  simp only [rn0, rn1, rn2, rn3, rn4, rn5, rn6, rn7, rn8, if_true, if_false, Nat.le_refl, true_and, and_true, decide_true, decide_false, Bool.not_true, Bool.not_false, reduceIte, Nat.reduceEqDiff, Nat.reduceAdd, Nat.reduceMul, Nat.reduceSub, Nat.reduceLeDiff, Nat.reduceLT, (hx1.row.mono hx2.sub).whole (n := 7) rfl, eg, ex0, ex1]
  refine step_new (vs := [.int .i64 (gL S w), .int .i64 (gH S w)]) (by omega) (by omega) rfl (by simp only [rn0, rn1, rn2, rn3, rn4, rn5, rn6, rn7, rn8, if_true, if_false, Nat.le_refl, true_and, and_true, decide_true, decide_false, Bool.not_true, Bool.not_false, reduceIte, Nat.reduceEqDiff, Nat.reduceAdd, Nat.reduceMul, Nat.reduceSub, Nat.reduceLeDiff, Nat.reduceLT]; rfl) rfl rfl rfl fun g3 hx3 => ?_
  have n3 := hx3.next
  have f3 := hx3.floor
  have sub3 := sub2.trans hx3.sub
  have eg3 := goodW_c (n := n) (h := g3) (by omega) (by omega) (hx.mono sub3) hT' w
  simp only [rn0, rn1, rn2, rn3, rn4, rn5, rn6, rn7, rn8, if_true, if_false, Nat.le_refl, true_and, and_true, decide_true, decide_false, Bool.not_true, Bool.not_false, reduceIte, Nat.reduceEqDiff, Nat.reduceAdd, Nat.reduceMul, Nat.reduceSub, Nat.reduceLeDiff, Nat.reduceLT, (hx2.row.mono hx3.sub).whole (n := 7) rfl, eg3, ex0, ex1]
  refine step_new (vs := [.int .i64 (gL X w), .int .i64 (gH X w)]) (by omega) (by omega) rfl (by simp only [rn0, rn1, rn2, rn3, rn4, rn5, rn6, rn7, rn8, if_true, if_false, Nat.le_refl, true_and, and_true, decide_true, decide_false, Bool.not_true, Bool.not_false, reduceIte, Nat.reduceEqDiff, Nat.reduceAdd, Nat.reduceMul, Nat.reduceSub, Nat.reduceLeDiff, Nat.reduceLT]; rfl) rfl rfl rfl fun g4 hx4 => ?_
  have ta := hx3.row.mono hx4.sub
  have tb := hx4.row
  unfold stayB
  generalize gL S w = aL at *
  generalize gH S w = aH at *
  generalize gL X w = bL at *
  generalize gH X w = bH at *
  cases gB S w with
  | false => simp only [rn0, rn1, rn2, rn3, rn4, rn5, rn6, rn7, rn8, if_true, if_false, Nat.le_refl, true_and, and_true, decide_true, decide_false, Bool.not_true, Bool.not_false, reduceIte, Nat.reduceEqDiff, Nat.reduceAdd, Nat.reduceMul, Nat.reduceSub, Nat.reduceLeDiff, Nat.reduceLT, Bool.false_and, g_un]
  | true =>
    cases gB X w with
    | false => simp only [rn0, rn1, rn2, rn3, rn4, rn5, rn6, rn7, rn8, if_true, if_false, Nat.le_refl, true_and, and_true, decide_true, decide_false, Bool.not_true, Bool.not_false, reduceIte, Nat.reduceEqDiff, Nat.reduceAdd, Nat.reduceMul, Nat.reduceSub, Nat.reduceLeDiff, Nat.reduceLT, Bool.false_and, Bool.and_false, g_un]
    | true =>
      by_cases c1 : aH < aL
      · simp only [rn0, rn1, rn2, rn3, rn4, rn5, rn6, rn7, rn8, if_true, if_false, Nat.le_refl, true_and, and_true, decide_true, decide_false, Bool.not_true, Bool.not_false, reduceIte, Nat.reduceEqDiff, Nat.reduceAdd, Nat.reduceMul, Nat.reduceSub, Nat.reduceLeDiff, Nat.reduceLT, ta.ld, tb.ld, Nat.zero_add, List.getElem?_cons_zero, List.getElem?_cons_succ, g_un, c1, Bool.true_and, Bool.true_or]
      · by_cases c2 : bL ≤ aL
        · simp only [rn0, rn1, rn2, rn3, rn4, rn5, rn6, rn7, rn8, if_true, if_false, Nat.le_refl, true_and, and_true, decide_true, decide_false, Bool.not_true, Bool.not_false, reduceIte, Nat.reduceEqDiff, Nat.reduceAdd, Nat.reduceMul, Nat.reduceSub, Nat.reduceLeDiff, Nat.reduceLT, ta.ld, tb.ld, Nat.zero_add, List.getElem?_cons_zero, List.getElem?_cons_succ, g_un, c1, c2, Bool.true_and, Bool.false_or]
        · simp only [rn0, rn1, rn2, rn3, rn4, rn5, rn6, rn7, rn8, if_true, if_false, Nat.le_refl, true_and, and_true, decide_true, decide_false, Bool.not_true, Bool.not_false, reduceIte, Nat.reduceEqDiff, Nat.reduceAdd, Nat.reduceMul, Nat.reduceSub, Nat.reduceLeDiff, Nat.reduceLT, ta.ld, tb.ld, Nat.zero_add, List.getElem?_cons_zero, List.getElem?_cons_succ, g_un, c1, c2, Bool.true_and, Bool.false_or, Bool.false_and]
theorem gAll_nil {S : MS} {v : Nat} : gAll S v = [] ↔ ∀ x, x < hoursN S v → ¬ verdS S v (S.vb v + (x : Int)) 1 (truthsS S) = 1 := by
  constructor
  · intro e x hx hp
    obtain ⟨i, i1, _⟩ := pick_has (p := fun i => verdS S v (S.vb v + (i : Int)) 1 (truthsS S) = 1) hx hp
    have i1 : i < (gAll S v).length := i1
    rw [e] at i1
    exact absurd i1 (Nat.not_lt_zero _)
  · intro hn
    apply Classical.byContradiction
    intro he
    have hpos : 0 < (gAll S v).length := List.length_pos_iff.2 he
    obtain ⟨j, j1, _, j3⟩ := pick_at (p := fun i => verdS S v (S.vb v + (i : Int)) 1 (truthsS S) = 1) (k := hoursN S v) (i := 0) hpos
    exact hn j j1 j3
theorem stay_of {S X : MS} (hG : Good S) (hX : Good X) {w : Nat} (hw : w < S.nv) (hw' : w < X.nv) (hz : truthsS S ≠ []) (hz' : truthsS X ≠ []) (hb : X.vb w = S.vb w) (hl : hoursN X w = hoursN S w)
    (hs : ∀ x : Nat, x < hoursN S w → verdS S w (S.vb w + (x : Int)) 1 (truthsS S) = 1 → verdS X w (S.vb w + (x : Int)) 1 (truthsS X) = 1) : stayB S X (w : Int) = true := by
  have hv : InV S (w : Int) := by unfold InV; omega
  have hv' : InV X (w : Int) := by unfold InV; omega
  obtain ⟨a1, a2, a3⟩ := good_ok (errV_4 (fault_of hG) hv hz)
  obtain ⟨b1, b2, b3⟩ := good_ok (errV_4 (fault_of hX) hv' hz')
  simp only [Int.toNat_natCast] at a1 a2 a3 b1 b2 b3
  have z10 : ¬ (0 : Int) = 10 := by decide
  have hB : ∀ {Y : MS}, Good Y → w < Y.nv → truthsS Y ≠ [] → gB Y (w : Int) = true := fun {Y} hY hwY hzY => by
    obtain ⟨a1, a2, a3⟩ := good_ok (S := Y) (at_ := (w : Int)) (errV_4 (fault_of hY) (by unfold InV; omega) hzY)
    simp only [Int.toNat_natCast] at a1 a2 a3
    refine decide_eq_true ?_
    by_cases c : gAll Y w = []
    · left; rw [a1, if_pos c]
    · right
      obtain ⟨a, l1, l2, l3, l4, _⟩ := gAll_run hY hwY hzY c
      rw [a1, if_neg c, a2, a3, l3, l4]
      exact ⟨rfl, by omega⟩
  unfold stayB
  rw [hB hG hw hz, hB hX hw' hz', Bool.true_and, Bool.true_and]
  by_cases c : gAll S w = []
  · have e : goodE S (w : Int) = 10 := by rw [a1, if_pos c]
    have e1 : gL S (w : Int) = 9 := if_pos e
    have e2 : gH S (w : Int) = 0 := if_pos e
    rw [e1, e2]
    rfl
  · obtain ⟨a, l1, l2, l3, l4, l5⟩ := gAll_run hG hw hz c
    have e : ¬ goodE S (w : Int) = 10 := by rw [a1, if_neg c]; exact z10
    have e1 : gL S (w : Int) = S.vb w + (a : Int) := by unfold gL; rw [if_neg e, a2, l3]
    have e2 : gH S (w : Int) = S.vb w + ((a + (gAll S w).length - 1 : Nat) : Int) := by unfold gH; rw [if_neg e, a3, l4]
    have x1 := hs a (by omega) ((l5 a (by omega)).2 ⟨Nat.le_refl _, by omega⟩)
    have x2 := hs (a + (gAll S w).length - 1) (by omega) ((l5 _ (by omega)).2 ⟨by omega, by omega⟩)
    have c' : gAll X w ≠ [] := fun q => gAll_nil.1 q a (by omega) (by rw [hb]; exact x1)
    obtain ⟨a', m1, m2, m3, m4, m5⟩ := gAll_run hX hw' hz' c'
    have y1 := (m5 a (by omega)).1 (by rw [hb]; exact x1)
    have y2 := (m5 (a + (gAll S w).length - 1) (by omega)).1 (by rw [hb]; exact x2)
    have e' : ¬ goodE X (w : Int) = 10 := by rw [b1, if_neg c']; exact z10
    have f1 : gL X (w : Int) = S.vb w + (a' : Int) := by unfold gL; rw [if_neg e', b2, m3, hb]
    have f2 : gH X (w : Int) = S.vb w + ((a' + (gAll X w).length - 1 : Nat) : Int) := by unfold gH; rw [if_neg e', b3, m4, hb]
    rw [e1, e2, f1, f2]
    have d2 : decide (S.vb w + (a' : Int) ≤ S.vb w + (a : Int)) = true := decide_eq_true (by omega)
    have d3 : decide (S.vb w + ((a + (gAll S w).length - 1 : Nat) : Int) ≤ S.vb w + ((a' + (gAll X w).length - 1 : Nat) : Int)) = true := decide_eq_true (by omega)
    rw [d2, d3, Bool.true_and, Bool.or_true]
end Go.Vm.St

namespace Go.Vm.St
open Go.Proofs Go.Vm.Vat
set_option linter.unusedSimpArgs false
set_option linter.unusedVariables false
set_option maxRecDepth 10000
variable {n : Nat} {h : AHeap}
theorem vats_row {S : MS} {b gr cap : Nat} {w : Bool} (hg : h.get b = some (.row (flatL 4 S.nv (vatC S)) w gr)) : Cells h (.slice (some ⟨b, 0, none⟩) S.nv cap) 4 S.nv (vatC S) := cells_row ⟨w, gr, hg⟩ fun k j hk hj => flatL_get (c := vatC S) hk hj
end Go.Vm.St

namespace Go.Vm.St
open Go.Proofs Go.Vm.Vat
set_option linter.unusedSimpArgs false
set_option linter.unusedVariables false
set_option maxRecDepth 10000
variable {n : Nat} {h : AHeap}
theorem dg_un {X : Cx} {S : Nat → Prop} {h0 h : AHeap} {k : Kd} {d : Option Nat} {want : Bool} {op : SOp} {L : List DI} {Q : WPost} {f : Go.Vm.Fr} {m : List Nat} : dgW X S h0 undef want k d op L Q f h m = dW X S h0 L Q (putF f d undef) h m := by
  have : isB want undef = false := rfl
  simp [dgW, this]
theorem rowI_congr {m : Nat} {a b : Nat → Int} (he : ∀ i, i < m → a i = b i) : rowI m a = rowI m b := by
  unfold rowI
  refine List.map_congr_left fun i hi => ?_
  rw [he i (List.mem_range.1 hi)]
structure WarmM (g : AHeap) (S : MS) (p b1 b2 c1 : Nat) (v2 : Value) (u : Nat → Int) : Prop where
  row : g.get p = some (.row (trL (.slice (some ⟨b1, 0, none⟩) S.nw c1) v2 (u S.nw)) true 0)
  w : g.get b1 = some (.row (rowI S.nw u) true 1)
  f : S.nv = 0 ∨ ∃ c2, v2 = .slice (some ⟨b2, 0, none⟩) S.nv c2 ∧ g.get b2 = some (.row (rowI S.nv fun v => u (S.nw + 1 + v)) true 1)
theorem WarmM.congr {g : AHeap} {S : MS} {p b1 b2 c1 : Nat} {v2 : Value} {u u' : Nat → Int} (hm : WarmM g S p b1 b2 c1 v2 u) (he : ∀ i, i < numU S → u i = u' i) : WarmM g S p b1 b2 c1 v2 u' := by
  refine ⟨?_, ?_, ?_⟩
  · rw [← he S.nw (by unfold numU; omega)]; exact hm.row
  · rw [← rowI_congr fun i hi => he i (by unfold numU; omega)]; exact hm.w
  · rcases hm.f with h0 | ⟨c2, e, q⟩
    · exact .inl h0
    · exact .inr ⟨c2, e, by rw [← rowI_congr (a := fun v => u (S.nw + 1 + v)) fun i hi => he (S.nw + 1 + i) (by unfold numU; omega)]; exact q⟩
theorem WarmM.tru {g : AHeap} {S : MS} {p b1 b2 c1 : Nat} {x2 : Option Addr} {c2 : Nat} {u : Nat → Int} (hm : WarmM g S p b1 b2 c1 (.slice x2 S.nv c2) u) (h0 : ∀ x, x2 = some x → x.spot = none) : TruR g (.slice (some ⟨b1, 0, none⟩) S.nw c1) (.slice x2 S.nv c2) S u := by
  refine ⟨ints_row hm.w, ?_⟩
  rcases hm.f with h | ⟨c', e, q⟩
  · refine ⟨x2, c2, rfl, h0, .inl h⟩
  · cases e
    exact ints_row q
def s14 : SCode := (.seq (.ops [⟨(some 4), none, .box (T 0)⟩, ⟨(some 8), none, .mov (.const (.bool false))⟩]) (.seq (.seq (.ops [⟨(some 24), none, .loadN 7 (T 4)⟩, ⟨(some 25), none, .call (.func 59) [(T 24)]⟩, ⟨(some 26), none, .not (T 25)⟩]) (.cond (T 26) (.seq (.ops [⟨(some 27), none, .call (.func 24) []⟩, ⟨(some 8), none, .mov (T 27)⟩]) .ret) .skip)) (.seq (.draw [⟨.rd, ⟨(some 28), none, .loadN 7 (T 4)⟩⟩, ⟨.free, ⟨(some 29), none, .mov (T 1)⟩⟩, ⟨.free, ⟨(some 30), none, .plain (.convert 90 3 (T 29)) 3⟩⟩, ⟨.rd1, ⟨(some 31), none, .loadN 7 (T 4)⟩⟩, ⟨.up, ⟨(some 32), none, .call (.func 64) [(T 31)]⟩⟩, ⟨.free, ⟨(some 33), none, .plain (.binOp .rem 3 (T 30) (T 32) 3) 3⟩⟩, ⟨.up, ⟨(some 34), none, .call (.func 63) [(T 28), (T 33)]⟩⟩, ⟨.rd, ⟨(some 35), none, .loadN 7 (T 4)⟩⟩, ⟨.free, ⟨(some 36), none, .mov (T 2)⟩⟩, ⟨.free, ⟨(some 37), none, .plain (.convert 90 3 (T 36)) 3⟩⟩, ⟨.rd, ⟨(some 38), none, .loadN 7 (T 4)⟩⟩, ⟨.up, ⟨(some 39), none, .call (.func 64) [(T 38)]⟩⟩, ⟨.free, ⟨(some 40), none, .plain (.binOp .rem 3 (T 37) (T 39) 3) 3⟩⟩, ⟨.any, ⟨(some 41), none, .call (.func 63) [(T 35), (T 40)]⟩⟩, ⟨.any, ⟨(some 9), none, .alloc [(.slice none 0 0), (.int .i64 (0)), (.slice none 0 0)]⟩⟩, ⟨.any, ⟨(some 10), none, .alloc [(.slice none 0 0), (.int .i64 (0)), (.slice none 0 0)]⟩⟩, ⟨.any, ⟨none, none, .store 3 (T 9) (T 34)⟩⟩, ⟨.any, ⟨none, none, .store 3 (T 10) (T 41)⟩⟩]) (.seq (.draw [⟨.free, ⟨(some 42), none, .fieldAddr 0 (T 9)⟩⟩, ⟨.rd1, ⟨(some 43), none, .load1 (T 42)⟩⟩, ⟨.up, ⟨(some 44), none, .call (.func 65) [(T 43)]⟩⟩, ⟨.free, ⟨(some 45), none, .fieldAddr 1 (T 9)⟩⟩, ⟨.rd, ⟨(some 46), none, .load1 (T 45)⟩⟩, ⟨.free, ⟨(some 47), none, .fieldAddr 2 (T 9)⟩⟩, ⟨.rd, ⟨(some 48), none, .load1 (T 47)⟩⟩, ⟨.up, ⟨(some 49), none, .call (.func 65) [(T 48)]⟩⟩, ⟨.free, ⟨(some 50), none, .build #[(0, 1), (1, 1), (2, 1)] [(.slice none 0 0), (.int .i64 (0)), (.slice none 0 0)] [0, 1, 2] [(T 44), (T 46), (T 49)]⟩⟩, ⟨.up, ⟨(some 11), none, .alloc [(.slice none 0 0), (.int .i64 (0)), (.slice none 0 0)]⟩⟩, ⟨.any, ⟨none, none, .store 3 (T 11) (T 50)⟩⟩]) (.seq (.ops [⟨(some 51), none, .mov (T 3)⟩, ⟨(some 52), none, .plain (.convert 5 3 (T 51)) 3⟩, ⟨(some 53), none, .plain (.binOp .rem 3 (T 52) (.const (.int .i64 (3))) 3) 3⟩, ⟨(some 12), none, .mov (T 53)⟩]) (.seq (.seq (.ops [⟨(some 13), none, .mov (.const (.int .i64 (0)))⟩]) (.block 0 (.loop (.seq (.seq (.ops [⟨(some 54), none, .mov (T 13)⟩, ⟨(some 55), none, .fieldAddr 0 (T 10)⟩, ⟨(some 56), none, .load1 (T 55)⟩, ⟨(some 57), none, .len (T 56)⟩, ⟨(some 58), none, .int2 .lss (T 54) (T 57)⟩, ⟨(some 59), none, .mov (T 58)⟩, ⟨(some 60), (some (59, true)), .mov (T 12)⟩, ⟨(some 61), (some (59, true)), .int2 .eql (T 60) (.const (.int .i64 (0)))⟩, ⟨(some 62), none, .pick (T 59) (T 61) (.const (.bool false))⟩]) (.cond (T 62) .skip (.exit 0))) (.seq (.block 1 (.draw [⟨.free, ⟨(some 65), none, .fieldAddr 0 (T 11)⟩⟩, ⟨.rd1, ⟨(some 66), none, .load1 (T 65)⟩⟩, ⟨.free, ⟨(some 67), none, .mov (T 13)⟩⟩, ⟨.free, ⟨(some 68), none, .fieldAddr 0 (T 9)⟩⟩, ⟨.rd1, ⟨(some 69), none, .load1 (T 68)⟩⟩, ⟨.free, ⟨(some 70), none, .mov (T 13)⟩⟩, ⟨.free, ⟨(some 71), none, .idxSl 1 (T 69) (T 70)⟩⟩, ⟨.rd1, ⟨(some 72), none, .load1 (T 71)⟩⟩, ⟨.free, ⟨(some 73), none, .fieldAddr 0 (T 10)⟩⟩, ⟨.rd1, ⟨(some 74), none, .load1 (T 73)⟩⟩, ⟨.free, ⟨(some 75), none, .mov (T 13)⟩⟩, ⟨.free, ⟨(some 76), none, .idxSl 1 (T 74) (T 75)⟩⟩, ⟨.rd1, ⟨(some 77), none, .load1 (T 76)⟩⟩, ⟨.free, ⟨(some 78), none, .plain (.call { callee := .builtin .max, args := #[(T 72), (T 77)], argTypes := #[3, 3] }) 3⟩⟩, ⟨.free, ⟨(some 79), none, .idxSl 1 (T 66) (T 67)⟩⟩, ⟨.any, ⟨none, none, .store 1 (T 79) (T 78)⟩⟩])) (.ops [⟨(some 63), none, .mov (T 13)⟩, ⟨(some 64), none, .int2 .add (T 63) (.const (.int .i64 (1)))⟩, ⟨(some 13), none, .mov (T 64)⟩])))))) (.seq (.seq (.ops [⟨(some 14), none, .mov (.const (.int .i64 (0)))⟩]) (.block 2 (.loop (.seq (.seq (.ops [⟨(some 80), none, .mov (T 14)⟩, ⟨(some 81), none, .fieldAddr 2 (T 10)⟩, ⟨(some 82), none, .load1 (T 81)⟩, ⟨(some 83), none, .len (T 82)⟩, ⟨(some 84), none, .int2 .lss (T 80) (T 83)⟩, ⟨(some 85), none, .mov (T 84)⟩, ⟨(some 86), (some (85, true)), .mov (T 12)⟩, ⟨(some 87), (some (85, true)), .int2 .eql (T 86) (.const (.int .i64 (2)))⟩, ⟨(some 88), none, .pick (T 85) (T 87) (.const (.bool false))⟩]) (.cond (T 88) .skip (.exit 2))) (.seq (.block 3 (.draw [⟨.free, ⟨(some 91), none, .fieldAddr 2 (T 11)⟩⟩, ⟨.rd1, ⟨(some 92), none, .load1 (T 91)⟩⟩, ⟨.free, ⟨(some 93), none, .mov (T 14)⟩⟩, ⟨.free, ⟨(some 94), none, .fieldAddr 2 (T 9)⟩⟩, ⟨.rd1, ⟨(some 95), none, .load1 (T 94)⟩⟩, ⟨.free, ⟨(some 96), none, .mov (T 14)⟩⟩, ⟨.free, ⟨(some 97), none, .idxSl 1 (T 95) (T 96)⟩⟩, ⟨.rd1, ⟨(some 98), none, .load1 (T 97)⟩⟩, ⟨.free, ⟨(some 99), none, .fieldAddr 2 (T 10)⟩⟩, ⟨.rd1, ⟨(some 100), none, .load1 (T 99)⟩⟩, ⟨.free, ⟨(some 101), none, .mov (T 14)⟩⟩, ⟨.free, ⟨(some 102), none, .idxSl 1 (T 100) (T 101)⟩⟩, ⟨.rd1, ⟨(some 103), none, .load1 (T 102)⟩⟩, ⟨.free, ⟨(some 104), none, .plain (.call { callee := .builtin .max, args := #[(T 98), (T 103)], argTypes := #[3, 3] }) 3⟩⟩, ⟨.free, ⟨(some 105), none, .idxSl 1 (T 92) (T 93)⟩⟩, ⟨.any, ⟨none, none, .store 1 (T 105) (T 104)⟩⟩])) (.ops [⟨(some 89), none, .mov (T 14)⟩, ⟨(some 90), none, .int2 .add (T 89) (.const (.int .i64 (1)))⟩, ⟨(some 14), none, .mov (T 90)⟩])))))) (.seq (.seq (.ops [⟨(some 106), none, .mov (T 12)⟩, ⟨(some 107), none, .int2 .eql (T 106) (.const (.int .i64 (1)))⟩]) (.cond (T 107) (.ops [⟨(some 108), none, .fieldAddr 1 (T 9)⟩, ⟨(some 109), none, .load1 (T 108)⟩, ⟨(some 110), none, .fieldAddr 1 (T 10)⟩, ⟨(some 111), none, .load1 (T 110)⟩, ⟨(some 112), none, .plain (.call { callee := .builtin .max, args := #[(T 109), (T 111)], argTypes := #[3, 3] }) 3⟩, ⟨(some 113), none, .fieldAddr 1 (T 11)⟩, ⟨none, none, .store 1 (T 113) (T 112)⟩]) .skip)) (.seq (.draw [⟨.rd1, ⟨(some 115), none, .loadN 7 (T 4)⟩⟩, ⟨.up, ⟨(some 116), none, .call (.func 26) [(T 115)]⟩⟩, ⟨.rd, ⟨(some 117), none, .loadN 3 (T 9)⟩⟩, ⟨.any, ⟨(some 118), none, .call (.func 27) [(T 117)]⟩⟩, ⟨.any, ⟨(some 119), none, .call (.func 25) [(T 116), (T 118)]⟩⟩, ⟨.free, ⟨(some 114), none, .mov (T 119)⟩⟩, ⟨.free, ⟨(some 120), none, .extract 0 (T 114)⟩⟩, ⟨.free, ⟨(some 121), none, .extract 1 (T 114)⟩⟩, ⟨.free, ⟨(some 122), none, .extract 2 (T 114)⟩⟩, ⟨.free, ⟨(some 15), none, .mov (T 120)⟩⟩, ⟨.free, ⟨(some 16), none, .mov (T 121)⟩⟩, ⟨.free, ⟨(some 17), none, .mov (T 122)⟩⟩]) (.seq (.draw [⟨.rd1, ⟨(some 124), none, .loadN 7 (T 4)⟩⟩, ⟨.up, ⟨(some 125), none, .call (.func 26) [(T 124)]⟩⟩, ⟨.rd, ⟨(some 126), none, .loadN 3 (T 11)⟩⟩, ⟨.any, ⟨(some 127), none, .call (.func 27) [(T 126)]⟩⟩, ⟨.any, ⟨(some 128), none, .call (.func 25) [(T 125), (T 127)]⟩⟩, ⟨.free, ⟨(some 123), none, .mov (T 128)⟩⟩, ⟨.free, ⟨(some 129), none, .extract 0 (T 123)⟩⟩, ⟨.free, ⟨(some 130), none, .extract 1 (T 123)⟩⟩, ⟨.free, ⟨(some 131), none, .extract 2 (T 123)⟩⟩, ⟨.free, ⟨(some 18), none, .mov (T 129)⟩⟩, ⟨.free, ⟨(some 19), none, .mov (T 130)⟩⟩, ⟨.free, ⟨(some 20), none, .mov (T 131)⟩⟩]) (.seq (.seq (.ops [⟨(some 132), none, .mov (T 17)⟩, ⟨(some 133), none, .int2 .neq (T 132) (.const (.int .i64 (0)))⟩, ⟨(some 134), none, .mov (T 133)⟩, ⟨(some 135), (some (134, false)), .mov (T 20)⟩, ⟨(some 136), (some (134, false)), .int2 .neq (T 135) (.const (.int .i64 (0)))⟩, ⟨(some 137), none, .pick (T 134) (.const (.bool true)) (T 136)⟩, ⟨(some 138), none, .mov (T 137)⟩, ⟨(some 139), (some (138, false)), .mov (T 15)⟩, ⟨(some 140), (some (138, false)), .len (T 139)⟩, ⟨(some 141), (some (138, false)), .fieldAddr 5 (T 4)⟩, ⟨(some 142), (some (138, false)), .load1 (T 141)⟩, ⟨(some 143), (some (138, false)), .len (T 142)⟩, ⟨(some 144), (some (138, false)), .int2 .neq (T 140) (T 143)⟩, ⟨(some 145), none, .pick (T 138) (.const (.bool true)) (T 144)⟩, ⟨(some 146), none, .mov (T 145)⟩, ⟨(some 147), (some (146, false)), .mov (T 18)⟩, ⟨(some 148), (some (146, false)), .len (T 147)⟩, ⟨(some 149), (some (146, false)), .mov (T 15)⟩, ⟨(some 150), (some (146, false)), .len (T 149)⟩, ⟨(some 151), (some (146, false)), .int2 .neq (T 148) (T 150)⟩, ⟨(some 152), none, .pick (T 146) (.const (.bool true)) (T 151)⟩, ⟨(some 153), none, .mov (T 152)⟩, ⟨(some 154), (some (153, false)), .mov (T 16)⟩, ⟨(some 155), (some (153, false)), .len (T 154)⟩, ⟨(some 156), (some (153, false)), .mov (T 15)⟩, ⟨(some 157), (some (153, false)), .len (T 156)⟩, ⟨(some 158), (some (153, false)), .int2 .neq (T 155) (T 157)⟩, ⟨(some 159), none, .pick (T 153) (.const (.bool true)) (T 158)⟩, ⟨(some 160), none, .mov (T 159)⟩, ⟨(some 161), (some (160, false)), .mov (T 19)⟩, ⟨(some 162), (some (160, false)), .len (T 161)⟩, ⟨(some 163), (some (160, false)), .mov (T 15)⟩, ⟨(some 164), (some (160, false)), .len (T 163)⟩, ⟨(some 165), (some (160, false)), .int2 .neq (T 162) (T 164)⟩, ⟨(some 166), none, .pick (T 160) (.const (.bool true)) (T 165)⟩]) (.cond (T 166) (.seq (.ops [⟨(some 8), none, .mov (.const (.bool false))⟩]) .ret) .skip)) (.seq (.seq (.ops [⟨(some 21), none, .mov (.const (.int .i64 (0)))⟩]) (.block 4 (.loop (.seq (.seq (.ops [⟨(some 167), none, .mov (T 21)⟩, ⟨(some 168), none, .mov (T 15)⟩, ⟨(some 169), none, .len (T 168)⟩, ⟨(some 170), none, .int2 .lss (T 167) (T 169)⟩]) (.cond (T 170) .skip (.exit 4))) (.seq (.block 5 (.seq (.draw [⟨.free, ⟨(some 173), none, .fieldAddr 0 (T 4)⟩⟩, ⟨.rd1, ⟨(some 174), none, .load1 (T 173)⟩⟩, ⟨.free, ⟨(some 175), none, .fieldAddr 5 (T 4)⟩⟩, ⟨.rd1, ⟨(some 176), none, .load1 (T 175)⟩⟩, ⟨.free, ⟨(some 177), none, .mov (T 21)⟩⟩, ⟨.free, ⟨(some 178), none, .idxSl 4 (T 176) (T 177)⟩⟩, ⟨.free, ⟨(some 179), none, .fieldAddr 0 (T 178)⟩⟩, ⟨.rd1, ⟨(some 180), none, .load1 (T 179)⟩⟩, ⟨.free, ⟨(some 181), none, .int2 .sub (T 174) (T 180)⟩⟩, ⟨.free, ⟨(some 182), none, .int2 .add (T 181) (.const (.int .i64 (1)))⟩⟩, ⟨.free, ⟨(some 22), none, .mov (T 182)⟩⟩]) (.seq (.seq (.ops [⟨(some 183), none, .mov (T 15)⟩, ⟨(some 184), none, .mov (T 21)⟩, ⟨(some 185), none, .idxSl 1 (T 183) (T 184)⟩, ⟨(some 186), none, .load1 (T 185)⟩, ⟨(some 187), none, .len (T 186)⟩, ⟨(some 188), none, .mov (T 22)⟩, ⟨(some 189), none, .int2 .neq (T 187) (T 188)⟩, ⟨(some 190), none, .mov (T 189)⟩, ⟨(some 191), (some (190, false)), .mov (T 18)⟩, ⟨(some 192), (some (190, false)), .mov (T 21)⟩, ⟨(some 193), (some (190, false)), .idxSl 1 (T 191) (T 192)⟩, ⟨(some 194), (some (190, false)), .load1 (T 193)⟩, ⟨(some 195), (some (190, false)), .len (T 194)⟩, ⟨(some 196), (some (190, false)), .mov (T 22)⟩, ⟨(some 197), (some (190, false)), .int2 .neq (T 195) (T 196)⟩, ⟨(some 198), none, .pick (T 190) (.const (.bool true)) (T 197)⟩, ⟨(some 199), none, .mov (T 198)⟩, ⟨(some 200), (some (199, false)), .mov (T 16)⟩, ⟨(some 201), (some (199, false)), .mov (T 21)⟩, ⟨(some 202), (some (199, false)), .idxSl 1 (T 200) (T 201)⟩, ⟨(some 203), (some (199, false)), .load1 (T 202)⟩, ⟨(some 204), (some (199, false)), .len (T 203)⟩, ⟨(some 205), (some (199, false)), .mov (T 22)⟩, ⟨(some 206), (some (199, false)), .int2 .neq (T 204) (T 205)⟩, ⟨(some 207), none, .pick (T 199) (.const (.bool true)) (T 206)⟩, ⟨(some 208), none, .mov (T 207)⟩, ⟨(some 209), (some (208, false)), .mov (T 19)⟩, ⟨(some 210), (some (208, false)), .mov (T 21)⟩, ⟨(some 211), (some (208, false)), .idxSl 1 (T 209) (T 210)⟩, ⟨(some 212), (some (208, false)), .load1 (T 211)⟩, ⟨(some 213), (some (208, false)), .len (T 212)⟩, ⟨(some 214), (some (208, false)), .mov (T 22)⟩, ⟨(some 215), (some (208, false)), .int2 .neq (T 213) (T 214)⟩, ⟨(some 216), none, .pick (T 208) (.const (.bool true)) (T 215)⟩]) (.cond (T 216) (.seq (.ops [⟨(some 8), none, .mov (.const (.bool false))⟩]) .ret) .skip)) (.seq (.ops [⟨(some 23), none, .mov (.const (.int .i64 (0)))⟩]) (.block 6 (.loop (.seq (.seq (.ops [⟨(some 217), none, .mov (T 23)⟩, ⟨(some 218), none, .mov (T 22)⟩, ⟨(some 219), none, .int2 .lss (T 217) (T 218)⟩]) (.cond (T 219) .skip (.exit 6))) (.seq (.block 7 (.seq (.draw [⟨.free, ⟨(some 222), none, .mov (T 18)⟩⟩, ⟨.free, ⟨(some 223), none, .mov (T 21)⟩⟩, ⟨.free, ⟨(some 224), none, .idxSl 1 (T 222) (T 223)⟩⟩, ⟨.rd1, ⟨(some 225), none, .load1 (T 224)⟩⟩, ⟨.free, ⟨(some 226), none, .mov (T 23)⟩⟩, ⟨.free, ⟨(some 227), none, .idxSl 1 (T 225) (T 226)⟩⟩, ⟨.rd1, ⟨(some 228), none, .load1 (T 227)⟩⟩, ⟨.free, ⟨(some 229), none, .mov (T 15)⟩⟩, ⟨.free, ⟨(some 230), none, .mov (T 21)⟩⟩, ⟨.free, ⟨(some 231), none, .idxSl 1 (T 229) (T 230)⟩⟩, ⟨.rd1, ⟨(some 232), none, .load1 (T 231)⟩⟩, ⟨.free, ⟨(some 233), none, .mov (T 23)⟩⟩, ⟨.free, ⟨(some 234), none, .idxSl 1 (T 232) (T 233)⟩⟩, ⟨.rd1, ⟨(some 235), none, .load1 (T 234)⟩⟩, ⟨.free, ⟨(some 236), none, .int2 .lss (T 228) (T 235)⟩⟩, ⟨.free, ⟨(some 237), none, .mov (T 236)⟩⟩, ⟨.free, ⟨(some 238), (some (237, false)), .mov (T 12)⟩⟩, ⟨.free, ⟨(some 239), (some (237, false)), .int2 .eql (T 238) (.const (.int .i64 (0)))⟩⟩, ⟨.free, ⟨(some 240), (some (237, false)), .mov (T 239)⟩⟩, ⟨.free, ⟨(some 241), (some (240, true)), .mov (T 19)⟩⟩, ⟨.free, ⟨(some 242), (some (240, true)), .mov (T 21)⟩⟩, ⟨.free, ⟨(some 243), (some (240, true)), .idxSl 1 (T 241) (T 242)⟩⟩, ⟨.rd1, ⟨(some 244), (some (240, true)), .load1 (T 243)⟩⟩, ⟨.free, ⟨(some 245), (some (240, true)), .mov (T 23)⟩⟩, ⟨.free, ⟨(some 246), (some (240, true)), .idxSl 1 (T 244) (T 245)⟩⟩, ⟨.rd1, ⟨(some 247), (some (240, true)), .load1 (T 246)⟩⟩, ⟨.free, ⟨(some 248), (some (240, true)), .mov (T 16)⟩⟩, ⟨.free, ⟨(some 249), (some (240, true)), .mov (T 21)⟩⟩, ⟨.free, ⟨(some 250), (some (240, true)), .idxSl 1 (T 248) (T 249)⟩⟩, ⟨.rd1, ⟨(some 251), (some (240, true)), .load1 (T 250)⟩⟩, ⟨.free, ⟨(some 252), (some (240, true)), .mov (T 23)⟩⟩, ⟨.free, ⟨(some 253), (some (240, true)), .idxSl 1 (T 251) (T 252)⟩⟩, ⟨.rd1, ⟨(some 254), (some (240, true)), .load1 (T 253)⟩⟩, ⟨.free, ⟨(some 255), (some (240, true)), .int2 .lss (T 247) (T 254)⟩⟩, ⟨.free, ⟨(some 256), (some (237, false)), .pick (T 240) (T 255) (.const (.bool false))⟩⟩, ⟨.free, ⟨(some 257), none, .pick (T 237) (.const (.bool true)) (T 256)⟩⟩, ⟨.free, ⟨(some 258), none, .mov (T 257)⟩⟩, ⟨.free, ⟨(some 259), (some (258, false)), .mov (T 12)⟩⟩, ⟨.free, ⟨(some 260), (some (258, false)), .int2 .eql (T 259) (.const (.int .i64 (1)))⟩⟩, ⟨.free, ⟨(some 261), (some (258, false)), .mov (T 260)⟩⟩, ⟨.free, ⟨(some 262), (some (261, true)), .mov (T 19)⟩⟩, ⟨.free, ⟨(some 263), (some (261, true)), .mov (T 21)⟩⟩, ⟨.free, ⟨(some 264), (some (261, true)), .idxSl 1 (T 262) (T 263)⟩⟩, ⟨.rd1, ⟨(some 265), (some (261, true)), .load1 (T 264)⟩⟩, ⟨.free, ⟨(some 266), (some (261, true)), .mov (T 23)⟩⟩, ⟨.free, ⟨(some 267), (some (261, true)), .idxSl 1 (T 265) (T 266)⟩⟩, ⟨.rd1, ⟨(some 268), (some (261, true)), .load1 (T 267)⟩⟩, ⟨.free, ⟨(some 269), (some (261, true)), .mov (T 16)⟩⟩, ⟨.free, ⟨(some 270), (some (261, true)), .mov (T 21)⟩⟩, ⟨.free, ⟨(some 271), (some (261, true)), .idxSl 1 (T 269) (T 270)⟩⟩, ⟨.rd1, ⟨(some 272), (some (261, true)), .load1 (T 271)⟩⟩, ⟨.free, ⟨(some 273), (some (261, true)), .mov (T 23)⟩⟩, ⟨.free, ⟨(some 274), (some (261, true)), .idxSl 1 (T 272) (T 273)⟩⟩, ⟨.rd1, ⟨(some 275), (some (261, true)), .load1 (T 274)⟩⟩, ⟨.free, ⟨(some 276), (some (261, true)), .int2 .gtr (T 268) (T 275)⟩⟩, ⟨.free, ⟨(some 277), (some (261, true)), .mov (T 276)⟩⟩, ⟨.free, ⟨(some 278), (some (277, false)), .mov (T 18)⟩⟩, ⟨.free, ⟨(some 279), (some (277, false)), .mov (T 21)⟩⟩, ⟨.free, ⟨(some 280), (some (277, false)), .idxSl 1 (T 278) (T 279)⟩⟩, ⟨.rd1, ⟨(some 281), (some (277, false)), .load1 (T 280)⟩⟩, ⟨.free, ⟨(some 282), (some (277, false)), .mov (T 23)⟩⟩, ⟨.free, ⟨(some 283), (some (277, false)), .idxSl 1 (T 281) (T 282)⟩⟩, ⟨.rd1, ⟨(some 284), (some (277, false)), .load1 (T 283)⟩⟩, ⟨.free, ⟨(some 285), (some (277, false)), .mov (T 15)⟩⟩, ⟨.free, ⟨(some 286), (some (277, false)), .mov (T 21)⟩⟩, ⟨.free, ⟨(some 287), (some (277, false)), .idxSl 1 (T 285) (T 286)⟩⟩, ⟨.rd1, ⟨(some 288), (some (277, false)), .load1 (T 287)⟩⟩, ⟨.free, ⟨(some 289), (some (277, false)), .mov (T 23)⟩⟩, ⟨.free, ⟨(some 290), (some (277, false)), .idxSl 1 (T 288) (T 289)⟩⟩, ⟨.rd1, ⟨(some 291), (some (277, false)), .load1 (T 290)⟩⟩, ⟨.free, ⟨(some 292), (some (277, false)), .int2 .neq (T 284) (T 291)⟩⟩, ⟨.free, ⟨(some 293), (some (261, true)), .pick (T 277) (.const (.bool true)) (T 292)⟩⟩, ⟨.free, ⟨(some 294), (some (258, false)), .pick (T 261) (T 293) (.const (.bool false))⟩⟩, ⟨.free, ⟨(some 295), none, .pick (T 258) (.const (.bool true)) (T 294)⟩⟩]) (.cond (T 295) (.seq (.ops [⟨(some 8), none, .mov (.const (.bool false))⟩]) .ret) .skip))) (.ops [⟨(some 220), none, .mov (T 23)⟩, ⟨(some 221), none, .int2 .add (T 220) (.const (.int .i64 (1)))⟩, ⟨(some 23), none, .mov (T 221)⟩]))))))))) (.ops [⟨(some 171), none, .mov (T 21)⟩, ⟨(some 172), none, .int2 .add (T 171) (.const (.int .i64 (1)))⟩, ⟨(some 21), none, .mov (T 172)⟩])))))) (.seq (.ops [⟨(some 296), none, .call (.func 24) []⟩, ⟨(some 8), none, .mov (T 296)⟩]) .ret)))))))))))))
end Go.Vm.St

namespace Go.Vm.St
open Go.Proofs Go.Vm.Vat
set_option linter.unusedSimpArgs false
set_option linter.unusedVariables false
set_option maxRecDepth 10000
variable {n : Nat} {h : AHeap}
def moreS (S : MS) (v hh kk : Int) : MS := { S with ns := S.ns + 1, sv := fun i => if i = S.ns then v else S.sv i, sh := fun i => if i = S.ns then hh else S.sh i, sk := fun i => if i = S.ns then kk else S.sk i }
structure SmOk (S : MS) (L : List (Nat → Int)) (st : Sm) : Prop where
  at_ : ∃ v0 : Nat, st.v = (v0 : Int) ∧ HourOk S v0 st.h ∧ st.l = lvS S v0 st.h L
end Go.Vm.St

namespace Go.Vm
open Go.Vm.Vat
set_option linter.unusedSimpArgs false
set_option linter.unusedVariables false
def combs (N : Nat) : Nat → Nat → List (List Int)
  | 0, _ => [[]]
  | d + 1, a => (List.range (N - a)).flatMap fun (k : Nat) => (combs N d (a + k + 1)).map fun l => ((a + k : Nat) : Int) :: l
theorem combs_len {N : Nat} : ∀ {d a : Nat} {l : List Int}, l ∈ combs N d a → l.length = d
  | 0, a, l, h => by
    have : l = [] := by simpa [combs] using h
    rw [this]; rfl
  | d + 1, a, l, h => by
    simp only [combs, List.mem_flatMap, List.mem_map] at h
    obtain ⟨k, _, l', h1, rfl⟩ := h
    rw [List.length_cons, combs_len h1]
theorem combs_inc {N : Nat} : ∀ {d a : Nat} {l : List Int}, l ∈ combs N d a → l.Pairwise (fun x y => x < y) ∧ ∀ x, x ∈ l → (a : Int) ≤ x ∧ x < N
  | 0, a, l, h => by
    have : l = [] := by simpa [combs] using h
    rw [this]
    exact ⟨List.Pairwise.nil, fun x hx => by cases hx⟩
  | d + 1, a, l, h => by
    simp only [combs, List.mem_flatMap, List.mem_map, List.mem_range] at h
    obtain ⟨k, hk, l', h1, rfl⟩ := h
    obtain ⟨h2, h3⟩ := combs_inc h1
    refine ⟨List.Pairwise.cons (fun y hy => ?_) h2, fun x hx => ?_⟩
    · have := h3 y hy
      omega
    · rcases List.mem_cons.1 hx with rfl | hx
      · omega
      · have := h3 x hx
        omega
theorem lex_cons {x : Int} {l l' : List Int} {d : Nat} (h : LexLt (atL l) (atL l') d) : LexLt (atL (x :: l)) (atL (x :: l')) (d + 1) := by
  obtain ⟨j, h1, h2, h3⟩ := h
  refine ⟨j + 1, by omega, fun i hi => ?_, h3⟩
  cases i with
  | zero => rfl
  | succ i => exact h2 i (by omega)
theorem lex_head {x y : Int} {l l' : List Int} {d : Nat} (h : x < y) : LexLt (atL (x :: l)) (atL (y :: l')) (d + 1) := ⟨0, by omega, fun i hi => by omega, h⟩
theorem combs_lex {N : Nat} : ∀ {d a : Nat}, (combs N d a).Pairwise fun l l' => LexLt (atL l) (atL l') d
  | 0, a => by simp [combs]
  | d + 1, a => by
    simp only [combs]
    rw [List.pairwise_flatMap]
    refine ⟨fun k _ => ?_, ?_⟩
    · rw [List.pairwise_map]
      exact combs_lex.imp fun h => lex_cons h
    · refine List.pairwise_lt_range.imp fun {k k'} hk x hx y hy => ?_
      obtain ⟨l, _, rfl⟩ := List.mem_map.1 hx
      obtain ⟨l', _, rfl⟩ := List.mem_map.1 hy
      exact lex_head (by omega)
open Classical in
noncomputable def selF (p : Nat → Prop) : Nat → Nat → List Int
  | _, 0 => []
  | a, k + 1 => if p a then (a : Int) :: selF p (a + 1) k else selF p (a + 1) k
theorem sel_snoc {p : Nat → Prop} : ∀ {k a : Nat}, (p (a + k) → selF p a (k + 1) = selF p a k ++ [((a + k : Nat) : Int)]) ∧ (¬ p (a + k) → selF p a (k + 1) = selF p a k)
  | 0, a => by
    constructor
    · intro h
      simp only [selF]
      rw [if_pos (show p a from h)]; rfl
    · intro h
      simp only [selF]
      rw [if_neg (show ¬ p a from h)]
  | k + 1, a => by
    obtain ⟨h1, h2⟩ := sel_snoc (p := p) (k := k) (a := a + 1)
    have e : a + 1 + k = a + (k + 1) := by omega
    rw [e] at h1 h2
    constructor
    · intro h
      rw [selF, h1 h]
      conv => rhs; rw [selF]
      by_cases c : p a
      · rw [if_pos c, if_pos c, List.cons_append]
      · rw [if_neg c, if_neg c]
    · intro h
      rw [selF, h2 h]
      conv => rhs; rw [selF]
theorem pick_sel {p : Nat → Prop} : ∀ k, pickL p k = selF p 0 k
  | 0 => rfl
  | k + 1 => by
    obtain ⟨h1, h2⟩ := sel_snoc (p := p) (k := k) (a := 0)
    rw [Nat.zero_add] at h1 h2
    by_cases c : p k
    · rw [pick_yes c, h1 c, pick_sel k]
    · rw [pick_no c, h2 c, pick_sel k]
theorem combs_up {N d a : Nat} {l : List Int} (h : l ∈ combs N d (a + 1)) : l ∈ combs N d a := by
  cases d with
  | zero => exact h
  | succ d =>
    simp only [combs, List.mem_flatMap, List.mem_map, List.mem_range] at h ⊢
    obtain ⟨k, hk, l', h1, rfl⟩ := h
    refine ⟨k + 1, by omega, l', ?_, ?_⟩
    · rw [show a + (k + 1) + 1 = a + 1 + k + 1 by omega]; exact h1
    · rw [show a + (k + 1) = a + 1 + k by omega]
theorem sel_combs {p : Nat → Prop} : ∀ {k a : Nat}, selF p a k ∈ combs (a + k) (selF p a k).length a
  | 0, a => by simp [selF, combs]
  | k + 1, a => by
    have ih := sel_combs (p := p) (k := k) (a := a + 1)
    have e : a + 1 + k = a + (k + 1) := by omega
    rw [e] at ih
    by_cases c : p a
    · have e1 : selF p a (k + 1) = (a : Int) :: selF p (a + 1) k := by rw [selF, if_pos c]
      rw [e1, List.length_cons]
      simp only [combs, List.mem_flatMap, List.mem_map, List.mem_range]
      exact ⟨0, by omega, _, ih, rfl⟩
    · have e1 : selF p a (k + 1) = selF p (a + 1) k := by rw [selF, if_neg c]
      rw [e1]
      exact combs_up ih
theorem pick_combs {p : Nat → Prop} {N : Nat} : pickL p N ∈ combs N (pickL p N).length 0 := by
  have := sel_combs (p := p) (k := N) (a := 0)
  rw [Nat.zero_add] at this
  rw [pick_sel]
  exact this
theorem pick_mem {p : Nat → Prop} {N : Nat} {x : Int} : x ∈ pickL p N ↔ ∃ j : Nat, j < N ∧ x = (j : Int) ∧ p j := by
  constructor
  · intro hx
    obtain ⟨i, hi, e⟩ := List.getElem_of_mem hx
    obtain ⟨j, j1, j2, j3⟩ := pick_at (p := p) (k := N) hi
    refine ⟨j, j1, ?_, j3⟩
    rw [← j2, ← e]
    unfold atL
    rw [List.getD_eq_getElem?_getD, List.getElem?_eq_getElem hi]; rfl
  · rintro ⟨j, j1, rfl, j3⟩
    obtain ⟨i, i1, i2⟩ := pick_has (p := p) j1 j3
    rw [← i2]
    unfold atL
    rw [List.getD_eq_getElem?_getD, List.getElem?_eq_getElem i1]
    exact List.getElem_mem i1
open Classical in
noncomputable def leaveN (N : Nat) (P : List Int → Prop) : Nat → Option (List Int)
  | 0 => none
  | m + 1 => match leaveN N P m with
    | some l => some l
    | none => (combs N m 0).find? fun l => decide (P l)
section
variable {N : Nat} {P : List Int → Prop}
open Classical in
theorem leaveN_none : ∀ {m : Nat}, leaveN N P m = none → ∀ j, j < m → ∀ l, l ∈ combs N j 0 → ¬ P l
  | 0, _, j, hj => by omega
  | m + 1, h, j, hj => by
    rw [leaveN] at h
    cases e : leaveN N P m with
    | some l => rw [e] at h; cases h
    | none =>
      rw [e] at h
      by_cases c : j = m
      · subst c
        intro l hl hp
        exact List.find?_eq_none.1 h l hl (decide_eq_true hp)
      · exact leaveN_none e j (by omega)
open Classical in
theorem leaveN_some : ∀ {m : Nat} {l : List Int}, leaveN N P m = some l → P l ∧ l ∈ combs N l.length 0 ∧ ∀ l', l' ∈ combs N l'.length 0 → P l' → ¬ SL l' l
  | 0, l, h => by cases h
  | m + 1, l, h => by
    rw [leaveN] at h
    cases e : leaveN N P m with
    | some l0 =>
      rw [e] at h
      have : l0 = l := Option.some.inj h
      subst this
      exact leaveN_some e
    | none =>
      rw [e] at h
      obtain ⟨h1, us, ws, h2, h3⟩ := List.find?_eq_some_iff_append.1 h
      have hl : l ∈ combs N m 0 := by rw [h2]; simp
      have hm := combs_len hl
      refine ⟨of_decide_eq_true h1, by rw [hm]; exact hl, fun l' hl' hp hs => ?_⟩
      rcases hs with hs | ⟨hs1, hs2⟩
      · exact leaveN_none e l'.length (by omega) l' hl' hp
      · rw [hs1, hm] at hl'
        have hpw := combs_lex (N := N) (d := m) (a := 0)
        rw [h2] at hl' hpw
        rw [List.pairwise_append, List.pairwise_cons] at hpw
        rw [hs1, hm] at hs2
        rcases List.mem_append.1 hl' with q | q
        · have := h3 l' q
          rw [decide_eq_true hp] at this
          cases this
        · rcases List.mem_cons.1 q with rfl | q
          · exact lex_irr hs2
          · exact lex_irr (lex_trans hs2 (hpw.2.1.1 l' q))
end
def CovP {τ : Type} (E : List τ) (wr : τ → Nat → Prop) (N : Nat) (l : List Int) : Prop := ∃ t, t ∈ E ∧ ∀ i, i < N → wr t i → (i : Int) ∈ l
theorem pick_pair {p : Nat → Prop} {N : Nat} : (pickL p N).Pairwise fun x y => x < y := (combs_inc pick_combs).1
theorem leave_min {τ : Type} {E : List τ} {wr : τ → Nat → Prop} {N m : Nat} {l : List Int} (h : leaveN N (CovP E wr N) m = some l) :
    (∃ t, t ∈ E ∧ l = pickL (wr t) N) ∧ ∀ t, t ∈ E → ¬ SL (pickL (wr t) N) l := by
  obtain ⟨⟨t, ht, hc⟩, h2, h3⟩ := leaveN_some h
  have hmin : ∀ t, t ∈ E → ¬ SL (pickL (wr t) N) l := fun t ht => h3 _ pick_combs ⟨t, ht, fun i hi hw => pick_mem.2 ⟨i, hi, rfl, hw⟩⟩
  refine ⟨⟨t, ht, ?_⟩, hmin⟩
  have hsub : ∀ x, x ∈ pickL (wr t) N → x ∈ l := fun x hx => by
    obtain ⟨j, j1, rfl, j3⟩ := pick_mem.1 hx
    exact hc j j1 j3
  have hnd : (pickL (wr t) N).Nodup := pick_pair.imp fun {a b} h => by omega
  have hle : l.length ≤ (pickL (wr t) N).length := by
    apply Classical.byContradiction
    intro hn
    exact hmin t ht (.inl (by omega))
  have hp := perm_of_sub _ _ hnd hsub hle
  exact (hp.eq_of_pairwise (fun a b _ _ h1 h2 => absurd h1 (by omega)) pick_pair (combs_inc h2).1).symm
theorem leave_ex {τ : Type} {E : List τ} {wr : τ → Nat → Prop} {N : Nat} (hE : E ≠ []) : ∃ l, leaveN N (CovP E wr N) (N + 1) = some l := by
  obtain ⟨t, ht⟩ := List.exists_mem_of_ne_nil _ hE
  cases e : leaveN N (CovP E wr N) (N + 1) with
  | some l => exact ⟨l, rfl⟩
  | none =>
    have hl := pick_len (p := wr t) N
    exact absurd ⟨t, ht, fun i hi hw => pick_mem.2 ⟨i, hi, rfl, hw⟩⟩ (leaveN_none e (pickL (wr t) N).length (by omega) _ pick_combs)
end Go.Vm

namespace Go.Vm
open Go.Vm.Vat
set_option linter.unusedSimpArgs false
set_option linter.unusedVariables false
variable {h g : AHeap}
def NoB (v : Value) (i : Nat) : Prop := ∀ b m c, v = .slice (some b) m c → i ≠ b.block
def SetR (B : Nat) (g : AHeap) (v : Value) (cur : List Int) : Prop :=
  (v = .slice none 0 0 ∧ cur = []) ∨ ∃ b cs, v = .slice (some ⟨b, 0, none⟩) cur.length unk ∧ g.get b = some (.row cs true 1) ∧ cur.length ≤ cs.length ∧ (∀ i, i < cur.length → cs[i]? = some (.int .i64 (atL cur i))) ∧ allB oneCell cs = true ∧ B ≤ b
theorem SetR.old {B : Nat} {v : Value} {cur : List Int} (hs : SetR B h v cur) (ho : ∀ a k c, v = .slice (some a) k c → a.block < h.next → g.get a.block = h.get a.block) : SetR B g v cur := by
  rcases hs with q | ⟨b, cs, rfl, h1, h2, h3, h4, h5⟩
  · exact .inl q
  · exact .inr ⟨b, cs, rfl, by rw [ho _ _ _ rfl (AHeap.lt_of_get h1)]; exact h1, h2, h3, h4, h5⟩
theorem SetR.ints {B : Nat} {v : Value} {cur : List Int} (hs : SetR B h v cur) : Ints h v cur.length (atL cur) := by
  rcases hs with ⟨rfl, rfl⟩ | ⟨b, cs, rfl, h1, h2, h3, h4, h5⟩
  · exact ⟨none, 0, rfl, fun x e => (by cases e), .inl rfl⟩
  · exact ⟨_, _, rfl, fun x e => (by cases e; rfl), .inr ⟨b, 0, cs, true, 1, rfl, h1, fun k j hk hj => by
      obtain rfl : j = 0 := by omega
      rw [Nat.zero_add, Nat.mul_one, Nat.add_zero]
      exact h3 k hk⟩⟩
theorem SetR.one {B : Nat} {v : Value} {cur : List Int} (hs : SetR B h v cur) : oneCell v = true := by
  rcases hs with ⟨rfl, rfl⟩ | ⟨b, cs, rfl, _⟩ <;> rfl
theorem SetR.block {B : Nat} {v : Value} {cur : List Int} (hs : SetR B h v cur) {a : Addr} {k c : Nat} (e : v = .slice (some a) k c) : B ≤ a.block ∧ a.block < h.next := by
  rcases hs with ⟨rfl, rfl⟩ | ⟨b, cs, rfl, h1, h2, h3, h4, h5⟩
  · cases e
  · cases e; exact ⟨h5, AHeap.lt_of_get h1⟩
theorem SetR.cut {B : Nat} {v : Value} {cur : List Int} {x : Int} (hs : SetR B h v (cur ++ [x])) : ∃ v', sliceA 1 true h v none (some (.int .i64 (cur.length : Int))) none = some (v', h) ∧ SetR B h v' cur ∧ oneCell v' = true := by
  rcases hs with ⟨rfl, e⟩ | ⟨b, cs, rfl, h1, h2, h3, h4, h5⟩
  · simp at e
  · have hl : (cur ++ [x]).length = cur.length + 1 := by simp
    refine ⟨.slice (some ⟨b, 0, none⟩) cur.length unk, ?_, .inr ⟨b, cs, rfl, h1, by omega, fun i hi => by rw [h3 i (by omega), at_append hi], h4, h5⟩, rfl⟩
    unfold sliceA
    have e1 : boundA 0 none = some 0 := rfl
    have e2 : boundA (cur ++ [x]).length (some (.int .i64 (cur.length : Int))) = some cur.length := rfl
    have e3 : Nat.ble 0 cur.length = true := ble_iff.2 (Nat.zero_le _)
    have e4 : Nat.ble cur.length (cur ++ [x]).length = true := ble_iff.2 (by omega)
    have e5 : Nat.blt unk unk = false := rfl
    have e6 : Nat.beq 0 0 = true := rfl
    simp only [e1, e2, e3, e4, e5, e6, Bool.and_self, cond_true, cond_false]
theorem SetR.push {B : Nat} {v : Value} {cur : List Int} {x : Int} {g1 : AHeap} (hs : SetR B h v cur) (hB : h.floor ≤ B) (hf : h.next + 2 < far) (hBn : B ≤ h.next) (hx : New h g1 [.int .i64 x] 0) (hl : cur.length ≤ 1000) :
    ∃ v' g2, appendA 1 8 g1 v (.slice (some ⟨h.next, 0, none⟩) 1 1) = some (v', g2) ∧ SetR B g2 v' (cur ++ [x]) ∧ oneCell v' = true ∧ h.next ≤ g2.next ∧ g2.next ≤ h.next + 2 ∧ g2.floor = h.floor ∧ (∀ i, i < h.next → NoB v i → g2.get i = h.get i) ∧
      ∀ i, i < h.next → NoB v i → NoB v' i := by
  have n1 := hx.next
  have f1 := hx.floor
  have hlen : (cur ++ [x]).length = cur.length + 1 := by simp
  have hnewc : cellsOfSlice g1 1 (.slice (some ⟨h.next, 0, none⟩) 1 1) = some [.int .i64 x] := one_cells hx.get rfl
  have full : ∀ cs, Grow B h v 1 cur.length cs → allB oneCell cs = true → (∀ i, i < cur.length → cs[i]? = some (.int .i64 (atL cur i))) →
      ∃ v' g2, appendA 1 8 g1 v (.slice (some ⟨h.next, 0, none⟩) 1 1) = some (v', g2) ∧ SetR B g2 v' (cur ++ [x]) ∧ oneCell v' = true ∧ h.next ≤ g2.next ∧ g2.next ≤ h.next + 2 ∧ g2.floor = h.floor ∧ (∀ i, i < h.next → NoB v i → g2.get i = h.get i) ∧ ∀ i, i < h.next → NoB v i → NoB v' i := fun cs hg hc hv => by
    have hg1 : Grow B g1 v 1 cur.length cs := hg.keep fun b e hb => hx.old b hb
    obtain ⟨g2, e2, hg2, hk2⟩ := append_run (bytes := 8) hg1 (by omega) (by omega) ⟨_, _, rfl⟩ hnewc rfl rfl hc (by omega) (by omega) (by simp [maxBytes]; omega) (by simp [maxBytes]; omega)
    have n2 := hk2.next
    have f2 := hk2.floor
    have hcl := hg.len
    refine ⟨_, g2, e2, ?_, rfl, by omega, by omega, by omega, fun i hi hne => by rw [hk2.old i (by omega) fun b k c e => hne b k c e, hx.old i hi], fun i hi _ b k c e => by cases e; show i ≠ g1.next; omega⟩
    rcases hg2 with ⟨e, _⟩ | ⟨b, e, k1, k2, k3⟩
    · cases e
    · cases e
      refine .inr ⟨_, _, by rw [hlen], k1, by rw [k2, hlen]; omega, fun i hi => ?_, ?_, k3⟩
      · rw [hlen] at hi
        by_cases c : i < cur.length
        · rw [List.getElem?_append_left (by omega), hv i c, at_append c]
        · obtain rfl : i = cur.length := by omega
          rw [List.getElem?_append_right (by omega), hcl, Nat.mul_one, Nat.sub_self, at_last]
          rfl
      · rw [allB_iff] at *
        intro u hu
        rcases List.mem_append.1 hu with hu | hu
        · exact hc u hu
        · simp only [List.mem_singleton] at hu; subst hu; rfl
  rcases hs with ⟨rfl, rfl⟩ | ⟨b, cs, rfl, h1, h2, h3, h4, h5⟩
  · exact full [] .nil rfl fun i hi => absurd hi (Nat.not_lt_zero _)
  · by_cases hc : cs.length = cur.length
    · exact full cs (.inr ⟨b, rfl, h1, by rw [hc, Nat.mul_one], h5⟩) h4 h3
    · have hlt := AHeap.lt_of_get h1
      have h1' : g1.get b = some (.row cs true 1) := by rw [hx.old b hlt]; exact h1
      obtain ⟨g2, e2, hs2⟩ := storeRow_run (off := cur.length * 1) (vs := [.int .i64 x]) h1' (by omega) (by omega) rfl (by simp; omega)
      have hs2' := hs2
      rw [Nat.mul_one] at hs2'
      have n2 := hs2.next
      have f2 := hs2.floor
      have hold : cellsOfSlice g1 1 (.slice (some ⟨b, 0, none⟩) cur.length unk) = some (cs.take cur.length) := by
        show (bif Nat.beq cur.length 0 then some [] else match g1.get b with
          | some (.row cs _ _) => dropK cs 0 fun r => takeK r (cur.length * 1) fun l => some l
          | _ => none) = some (cs.take cur.length)
        by_cases hn0 : cur.length = 0
        · rw [hn0]; rfl
        · have hb : Nat.beq cur.length 0 = false := by
            cases hb : Nat.beq cur.length 0 with
            | false => rfl
            | true => exact absurd (beq_iff.1 hb) hn0
          rw [hb, cond_false, h1']
          simp only [dropK_eq, takeK_eq, Nat.zero_le, if_true, List.drop_zero, Nat.mul_one]
          rw [if_pos h2]
      have b1 : ∀ n, Nat.beq n n = true := fun n => beq_iff.2 rfl
      have b2 : Nat.beq (cur.length * 1) (len cs) = false := by
        cases hb : Nat.beq (cur.length * 1) (len cs) with
        | false => rfl
        | true => have := beq_iff.1 hb; rw [len_eq] at this; omega
      have b3 : Nat.ble ((cur.length + 1) * 1) (len cs) = true := ble_iff.2 (by rw [len_eq]; omega)
      have b4 : Nat.ble ((cur.length + 1) * 8) maxBytes = true := ble_iff.2 (by simp [maxBytes]; omega)
      have b5 : Nat.ble (cur.length + 1) maxBytes = true := ble_iff.2 (by simp [maxBytes]; omega)
      have b6 : Nat.beq (len [Value.int .i64 x]) (1 * 1) = true := rfl
      have b7 : Nat.blt unk unk = false := rfl
      refine ⟨.slice (some ⟨b, 0, none⟩) (cur.length + 1) unk, g2, ?_, .inr ⟨b, _, by rw [hlen], hs2'.get, ?_, fun i hi => ?_, ?_, h5⟩, rfl, by omega, by omega, by omega, fun i hi hne => by rw [hs2.old i (hne _ _ _ rfl), hx.old i hi], fun i hi hne b' k c e => by cases e; exact hne _ _ _ rfl⟩
      · unfold appendA
        simp only [hnewc, b4, b5, b6, Bool.and_self, cond_true, b7, Bool.and_false, cond_false]
        unfold appendGrow
        simp only [hold, b7, cond_false, h1', b1, b2, b3, Bool.and_self, Bool.and_true, Bool.and_false, Bool.true_and, Bool.false_and, cond_true, cond_false, e2]
      · rw [hlen]
        simp only [splice, List.length_append, List.length_take, List.length_cons, List.length_nil, List.length_drop]
        omega
      · rw [hlen] at hi
        simp only [splice]
        by_cases c : i < cur.length
        · rw [List.getElem?_append_left (by rw [List.length_take]; omega), List.getElem?_take, if_pos c, h3 i c, at_append c]
        · obtain rfl : i = cur.length := by omega
          have e0 : cur.length - (List.take cur.length cs).length = 0 := by rw [List.length_take]; omega
          rw [List.getElem?_append_right (by rw [List.length_take]; omega), e0, at_last]
          rfl
      · refine allB_iff.2 fun u hu => ?_
        simp only [splice] at hu
        rcases List.mem_append.1 hu with hu | hu
        · exact allB_iff.1 h4 u (List.mem_of_mem_take hu)
        · rcases List.mem_append.1 hu with hu | hu
          · simp only [List.mem_singleton] at hu; subst hu; rfl
          · exact allB_iff.1 h4 u (List.mem_of_mem_drop hu)
end Go.Vm

namespace Go.Vm.St
open Go.Proofs Go.Vm.Vat
set_option linter.unusedSimpArgs false
set_option linter.unusedVariables false
set_option maxRecDepth 10000
variable {n : Nat} {h : AHeap}
theorem build_none1 {a : Value} : buildSl 1 0 [a] [] h [] = newSlice h [] 0 0 0 := id rfl
def s132 : SCode := (.seq (.ops [⟨(some 2), none, .mov (.const (.slice none 0 0))⟩]) (.seq (.seq (.ops [⟨(some 3), none, .mov (T 0)⟩, ⟨(some 4), none, .eqNil true (T 3) (.const (.slice none 0 0))⟩]) (.cond (T 4) (.seq (.ops [⟨(some 2), none, .mov (.const (.slice none 0 0))⟩]) .ret) .skip)) (.seq (.ops [⟨(some 5), none, .bslice 1 0 [(.int .i64 (0))] [] []⟩, ⟨(some 6), none, .mov (T 0)⟩, ⟨(some 7), none, .append 1 8 (T 5) (T 6)⟩, ⟨(some 2), none, .mov (T 7)⟩]) .ret)))
theorem fok132 : FnOk Try.prog 132 8 s132 [.tmp 2] := ⟨Try.f132, _, Try.func132, rfl, Try.ntmps132, by kernel_rfl, by kernel_rfl⟩
theorem clone_c (hn : 1 ≤ n) (hr : h.next + 3 < far) {v : Value} {m : Nat} {a : Nat → Int} (hv : Ints h v m a) (hm : m ≤ 1000) :
    ∃ v' h', call n (.func (.func 132) #[] #[]) [v] h = some (v', h') ∧ Ints h' v' m a ∧ oneCell v' = true ∧ (∀ i, i < h.next → h'.get i = h.get i) ∧ h.next ≤ h'.next ∧ h'.next ≤ h.next + 2 ∧ h'.floor = h.floor ∧ ∀ x k c, v' = .slice (some x) k c → h.next ≤ x.block ∧ x.block < h'.next := by
  obtain ⟨n, rfl⟩ : ∃ p, n = p + 1 := ⟨n - 1, by omega⟩
  refine call_any0 fok132 rfl rfl (by simp) ?_
  obtain ⟨xv, kv, ev, lv⟩ := Cells.list (by omega) hv
  subst ev
  cases xv with
  | none =>
    obtain ⟨a', cap, e, hsp, h0 | ⟨b, o, cs, w, gr, e2, _⟩⟩ := hv
    · subst h0
      simp only [rn0, rn1, rn2, rn3, rn4, rn5, rn6, rn7, rn8, if_true, if_false, Nat.le_refl, true_and, and_true, decide_true, decide_false, Bool.not_true, Bool.not_false, reduceIte, Nat.reduceEqDiff, Nat.reduceAdd, Nat.reduceMul, Nat.reduceSub, Nat.reduceLeDiff, Nat.reduceLT, s132, x_eqNil, eqNil_yes]
      exact ⟨⟨none, 0, rfl, fun x e => (by cases e), .inl rfl⟩, rfl, (fun _ _ => by first | trivial | rfl), by omega, fun x k c e => by cases e⟩
    · subst e2; cases e
  | some xa =>
    simp only [rn0, rn1, rn2, rn3, rn4, rn5, rn6, rn7, rn8, if_true, if_false, Nat.le_refl, true_and, and_true, decide_true, decide_false, Bool.not_true, Bool.not_false, reduceIte, Nat.reduceEqDiff, Nat.reduceAdd, Nat.reduceMul, Nat.reduceSub, Nat.reduceLeDiff, Nat.reduceLT, s132, x_eqNil, eqNil_no, build_none1]
    refine step_slice (by omega) rfl fun g1 hx1 => ?_
    have n1 := hx1.next
    have f1 := hx1.floor
    have hap := append_none (h := g1) (s := 1) (bytes := 8) (b := h.next) ⟨_, _, rfl⟩ (cells_sub hx1.sub hv (by omega) lv) flatL_len (by simp [maxBytes]; omega) (by simp [maxBytes]; omega)
    by_cases hm0 : m = 0
    · rw [if_pos hm0] at hap
      subst hm0
      simp only [rn0, rn1, rn2, rn3, rn4, rn5, rn6, rn7, rn8, if_true, if_false, Nat.le_refl, true_and, and_true, decide_true, decide_false, Bool.not_true, Bool.not_false, reduceIte, Nat.reduceEqDiff, Nat.reduceAdd, Nat.reduceMul, Nat.reduceSub, Nat.reduceLeDiff, Nat.reduceLT, hap]
      exact ⟨⟨some ⟨h.next, 0, none⟩, 0, rfl, fun x e => (by cases e; rfl), .inl rfl⟩, rfl, fun i hi => hx1.old i hi, by omega, by omega, by omega, fun x k c e => by cases e; exact ⟨Nat.le_refl _, by show h.next < g1.next; omega⟩⟩
    · rw [if_neg hm0] at hap
      simp only [rn0, rn1, rn2, rn3, rn4, rn5, rn6, rn7, rn8, if_true, if_false, Nat.le_refl, true_and, and_true, decide_true, decide_false, Bool.not_true, Bool.not_false, reduceIte, Nat.reduceEqDiff, Nat.reduceAdd, Nat.reduceMul, Nat.reduceSub, Nat.reduceLeDiff, Nat.reduceLT, hap]
      refine step_slice (by omega) flatL_one fun g2 hx2 => ?_
      have n2 := hx2.next
      have f2 := hx2.floor
      simp only [rn0, rn1, rn2, rn3, rn4, rn5, rn6, rn7, rn8, if_true, if_false, Nat.le_refl, true_and, and_true, decide_true, decide_false, Bool.not_true, Bool.not_false, reduceIte, Nat.reduceEqDiff, Nat.reduceAdd, Nat.reduceMul, Nat.reduceSub, Nat.reduceLeDiff, Nat.reduceLT]
      refine ⟨cells_row hx2.row fun k j hk hj => flatL_get (c := fun k _ => .int .i64 (a k)) hk hj, rfl, fun i hi => by rw [hx2.old i (by omega), hx1.old i hi], by omega, by omega, by omega, fun x k c e => by cases e; exact ⟨by show h.next ≤ g1.next; omega, by show g1.next < g2.next; omega⟩⟩
def chooseSV (ps pm py pn pc : Nat) : Value := .func (.func 131) ⟨[]⟩ ⟨[.pointer (some ⟨ps, 0, none⟩), .pointer (some ⟨pm, 0, none⟩), .pointer (some ⟨py, 0, none⟩), .pointer (some ⟨pn, 0, none⟩), .pointer (some ⟨pc, 0, none⟩)]⟩
structure SetS (ps pm py pn pc N M : Nat) (yv : Value) (g : AHeap) : Prop where
  y : Row g py [yv]
  m : Row g pm [.int .i64 (M : Int)]
  n : Row g pn [.int .i64 (N : Int)]
  c : Row g pc [chooseSV ps pm py pn pc]
theorem rowAt {g g' : AHeap} {q : Nat} {cs : List Value} (hr : Row g q cs) (he : g'.get q = g.get q) : Row g' q cs := by
  obtain ⟨w, gr, e⟩ := hr
  exact ⟨w, gr, by rw [he]; exact e⟩
theorem row_lt {g : AHeap} {q : Nat} {cs : List Value} (hr : Row g q cs) : q < g.next := by
  obtain ⟨w, gr, e⟩ := hr
  exact AHeap.lt_of_get e
theorem SetS.same {ps pm py pn pc N M : Nat} {yv : Value} {g g' : AHeap} (hs : SetS ps pm py pn pc N M yv g) (hy : g'.get py = g.get py) (hm : g'.get pm = g.get pm) (hn : g'.get pn = g.get pn) (hc : g'.get pc = g.get pc) : SetS ps pm py pn pc N M yv g' :=
  ⟨rowAt hs.y hy, rowAt hs.m hm, rowAt hs.n hn, rowAt hs.c hc⟩
def bndS (K : Nat) : Nat → Nat
  | 0 => K + 4
  | d + 1 => 5 * (bndS K d + 3)
open Classical in
theorem find_map {N d : Nat} {P : List Int → Prop} {cur : List Int} {x : Int} {l : List (List Int)} : (l.map fun q => x :: q).find? (fun q => decide (P (cur ++ q))) = (l.find? fun q => decide (P ((cur ++ [x]) ++ q))).map fun q => x :: q := by
  rw [List.find?_map]
  congr 2
  funext q
  simp
def s131 : SCode := (.seq (.ops [⟨(some 7), none, .mov (.const (.bool false))⟩]) (.seq (.seq (.ops [⟨(some 9), none, .load1 (T 1)⟩, ⟨(some 10), none, .len (T 9)⟩, ⟨(some 11), none, .load1 (T 2)⟩, ⟨(some 12), none, .int2 .eql (T 10) (T 11)⟩]) (.cond (T 12) (.seq (.draw [⟨.rd, ⟨(some 13), none, .load1 (T 3)⟩⟩, ⟨.rd1, ⟨(some 14), none, .load1 (T 1)⟩⟩, ⟨.up, ⟨(some 15), none, .call (.func 132) [(T 14)]⟩⟩, ⟨.any, ⟨(some 16), none, .call (T 13) [(T 15)]⟩⟩, ⟨.free, ⟨(some 7), none, .mov (T 16)⟩⟩]) .ret) .skip)) (.seq (.seq (.ops [⟨(some 17), none, .mov (T 0)⟩, ⟨(some 8), none, .mov (T 17)⟩]) (.block 0 (.loop (.seq (.seq (.ops [⟨(some 18), none, .mov (T 8)⟩, ⟨(some 19), none, .load1 (T 4)⟩, ⟨(some 20), none, .int2 .lss (T 18) (T 19)⟩]) (.cond (T 20) .skip (.exit 0))) (.seq (.block 1 (.seq (.ops [⟨(some 23), none, .load1 (T 1)⟩, ⟨(some 24), none, .mov (T 8)⟩, ⟨(some 25), none, .bslice 1 1 [(.int .i64 (0))] [0] [(T 24)]⟩, ⟨(some 26), none, .append 1 8 (T 23) (T 25)⟩, ⟨none, none, .store 1 (T 1) (T 26)⟩]) (.seq (.seq (.ops [⟨(some 27), none, .load1 (T 5)⟩, ⟨(some 28), none, .mov (T 8)⟩, ⟨(some 29), none, .int2 .add (T 28) (.const (.int .i64 (1)))⟩, ⟨(some 30), none, .call (T 27) [(T 29)]⟩, ⟨(some 31), none, .not (T 30)⟩]) (.cond (T 31) (.seq (.ops [⟨(some 7), none, .mov (.const (.bool false))⟩]) .ret) .skip)) (.ops [⟨(some 32), none, .load1 (T 1)⟩, ⟨(some 33), none, .load1 (T 1)⟩, ⟨(some 34), none, .len (T 33)⟩, ⟨(some 35), none, .int2 .sub (T 34) (.const (.int .i64 (1)))⟩, ⟨(some 36), none, .slice 1 (T 32) none (some (T 35)) none⟩, ⟨none, none, .store 1 (T 1) (T 36)⟩])))) (.ops [⟨(some 21), none, .mov (T 8)⟩, ⟨(some 22), none, .int2 .add (T 21) (.const (.int .i64 (1)))⟩, ⟨(some 8), none, .mov (T 22)⟩])))))) (.seq (.ops [⟨(some 7), none, .mov (.const (.bool true))⟩]) .ret))))
theorem fok131 : FnOk Try.prog 131 37 s131 [.tmp 7] := ⟨Try.f131, _, Try.func131, rfl, Try.ntmps131, by kernel_rfl, by kernel_rfl⟩
open Classical in
set_option maxHeartbeats 2000000 in
theorem chooseS_c {P : List Int → Prop} {N M K N0 fl B B3 ps pm py pn pc : Nat} {yv : Value} {g0 : AHeap} (Kf : List Int → AHeap → Prop)
    (hN : N ≤ 5) (hM : M ≤ 5) (hfl : fl ≤ B) (hps : B ≤ ps ∧ ps < B3) (hpy : B ≤ py ∧ py < B3 ∧ py ≠ ps) (hpc : B ≤ pc ∧ pc < B3 ∧ pc ≠ ps) (hpm : pm < B) (hpn : pn < B) (hyv : eqV yv yv = true) (hN0 : 10 ≤ N0)
    (hY : ∀ n g l v, N0 ≤ n → Ints g v l.length (atL l) → oneCell v = true → (∀ x k c, v = .slice (some x) k c → B3 ≤ x.block ∧ x.block < g.next) → l.length = M → (∀ i, i < B → g.get i = g0.get i) → B3 ≤ g.next → g.floor = fl → g.next + K < far →
      (P l → ∃ g', call n yv [v] g = some (.bool false, g') ∧ Kf l g' ∧ g'.floor = fl ∧ g.next ≤ g'.next ∧ g'.next ≤ g.next + K) ∧
      (¬ P l → ∃ g', call n yv [v] g = some (.bool true, g') ∧ (∀ i, i < g.next → g'.get i = g.get i) ∧ g'.floor = fl ∧ g.next ≤ g'.next ∧ g'.next ≤ g.next + K)) :
    ∀ (d a n : Nat) (g : AHeap) (v : Value) (cur : List Int) (r : Option (List Int)), r = (combs N d a).find? (fun l => decide (P (cur ++ l))) → cur.length + d = M → N0 + d + 1 ≤ n → SetS ps pm py pn pc N M yv g → g.get ps = some (.row [v] true 0) → SetR B3 g v cur → (∀ i, i < B → g.get i = g0.get i) → B3 ≤ g.next → g.floor = fl → g.next + bndS K d < far →
      ∃ g', call n (chooseSV ps pm py pn pc) [.int .i64 (a : Int)] g = some (.bool r.isNone, g') ∧ g'.floor = fl ∧ g.next ≤ g'.next ∧ g'.next ≤ g.next + bndS K d ∧
        (∀ l, r = some l → Kf (cur ++ l) g') ∧ (r = none → (∀ i, i < B → g'.get i = g0.get i) ∧ SetS ps pm py pn pc N M yv g' ∧ ∃ v', g'.get ps = some (.row [v'] true 0) ∧ SetR B3 g' v' cur) := by
  intro d
  induction d with
  | zero =>
    intro a n g v cur r hr0 hlen hn hit hsg hset hbase hB3 hfg hr
    obtain ⟨n, rfl⟩ : ∃ p, n = p + 1 := ⟨n - 1, by omega⟩
    have hbn : bndS K 0 = K + 4 := rfl
    rw [hbn] at hr ⊢
    have hcM : (cur.length : Int) = (M : Int) := by omega
    have hi := hset.ints
    have rps : Row g ps [v] := ⟨_, _, hsg⟩
    obtain ⟨v1, g1, e1, i1, o1, old1, u1, m1, f1, b1⟩ := clone_c (n := n) (h := g) (by omega) (by omega) hi (by omega)
    have sub1 : Sub All g g1 := AHeap.subOf old1
    have hr1 : r = if P cur then some [] else none := by
      rw [hr0]
      simp only [combs, List.find?_cons, List.find?_nil, List.append_nil]
      by_cases c : P cur
      · rw [decide_eq_true c, if_pos c]
      · rw [decide_eq_false c, if_neg c]
    obtain ⟨y1, y2⟩ := hY n g1 cur v1 (by omega) i1 o1 (fun x k c e => ⟨by have := (b1 x k c e).1; omega, (b1 x k c e).2⟩) (by omega) (fun i hi => by rw [old1 i (by omega)]; exact hbase i hi) (by omega) (by omega) (by omega)
    by_cases c : P cur
    · obtain ⟨g2, e2, k2, f2, u2, m2⟩ := y1 c
      rw [if_pos c] at hr1
      suffices hs : ∃ v' g', call (n + 1) (chooseSV ps pm py pn pc) [.int .i64 (a : Int)] g = some (v', g') ∧ v' = .bool false ∧ g' = g2 by
        obtain ⟨_, _, e, rfl, rfl⟩ := hs
        rw [hr1]
        exact ⟨_, e, f2, by omega, by omega, fun l hl => by cases hl; rw [List.append_nil]; exact k2, fun hl => by cases hl⟩
      refine call_any (xs := []) (ys := [.pointer (some ⟨ps, 0, none⟩), .pointer (some ⟨pm, 0, none⟩), .pointer (some ⟨py, 0, none⟩), .pointer (some ⟨pn, 0, none⟩), .pointer (some ⟨pc, 0, none⟩)]) fok131 rfl rfl (by simp) ?_
      simp only [rn0, rn1, rn2, rn3, rn4, rn5, rn6, rn7, rn8, if_true, if_false, Nat.le_refl, true_and, and_true, decide_true, decide_false, Bool.not_true, Bool.not_false, reduceIte, Nat.reduceEqDiff, Nat.reduceAdd, Nat.reduceMul, Nat.reduceSub, Nat.reduceLeDiff, Nat.reduceLT, s131, List.cons_append, List.nil_append, rps.ld, hit.m.ld, Nat.zero_add, List.getElem?_cons_zero, Cells.len hi, hcM]
      refine W_draw All ?_
      simp only [rn0, rn1, rn2, rn3, rn4, rn5, rn6, rn7, rn8, if_true, if_false, Nat.le_refl, true_and, and_true, decide_true, decide_false, Bool.not_true, Bool.not_false, reduceIte, Nat.reduceEqDiff, Nat.reduceAdd, Nat.reduceMul, Nat.reduceSub, Nat.reduceLeDiff, Nat.reduceLT, rps.ld, hit.y.ld, Nat.zero_add, List.getElem?_cons_zero, hyv, e1, e2]
      exact ⟨⟨u1, sub1⟩, u2⟩
    · obtain ⟨g2, e2, k2, f2, u2, m2⟩ := y2 c
      rw [if_neg c] at hr1
      suffices hs : ∃ v' g', call (n + 1) (chooseSV ps pm py pn pc) [.int .i64 (a : Int)] g = some (v', g') ∧ v' = .bool true ∧ g' = g2 by
        obtain ⟨_, _, e, rfl, rfl⟩ := hs
        rw [hr1]
        have hold : ∀ i, i < g.next → _ := fun i hi => (k2 i (by omega)).trans (old1 i hi)
        refine ⟨_, e, f2, by omega, by omega, fun l hl => (by cases hl), fun _ => ⟨fun i hi => by rw [hold i (by omega)]; exact hbase i hi, hit.same (hold _ (by omega)) (hold _ (by omega)) (hold _ (by omega)) (hold _ (by omega)), v, by rw [hold _ (by omega)]; exact hsg, hset.old fun x k c e hlt => hold _ hlt⟩⟩
      refine call_any (xs := []) (ys := [.pointer (some ⟨ps, 0, none⟩), .pointer (some ⟨pm, 0, none⟩), .pointer (some ⟨py, 0, none⟩), .pointer (some ⟨pn, 0, none⟩), .pointer (some ⟨pc, 0, none⟩)]) fok131 rfl rfl (by simp) ?_
      simp only [rn0, rn1, rn2, rn3, rn4, rn5, rn6, rn7, rn8, if_true, if_false, Nat.le_refl, true_and, and_true, decide_true, decide_false, Bool.not_true, Bool.not_false, reduceIte, Nat.reduceEqDiff, Nat.reduceAdd, Nat.reduceMul, Nat.reduceSub, Nat.reduceLeDiff, Nat.reduceLT, s131, List.cons_append, List.nil_append, rps.ld, hit.m.ld, Nat.zero_add, List.getElem?_cons_zero, Cells.len hi, hcM]
      refine W_draw All ?_
      simp only [rn0, rn1, rn2, rn3, rn4, rn5, rn6, rn7, rn8, if_true, if_false, Nat.le_refl, true_and, and_true, decide_true, decide_false, Bool.not_true, Bool.not_false, reduceIte, Nat.reduceEqDiff, Nat.reduceAdd, Nat.reduceMul, Nat.reduceSub, Nat.reduceLeDiff, Nat.reduceLT, rps.ld, hit.y.ld, Nat.zero_add, List.getElem?_cons_zero, hyv, e1, e2]
      exact ⟨⟨u1, sub1⟩, u2⟩
  | succ d ih =>
    intro a n g v cur r hr0 hlen hn hit hsg hset hbase hB3 hfg hr
    obtain ⟨n, rfl⟩ : ∃ p, n = p + 1 := ⟨n - 1, by omega⟩
    have hbn : bndS K (d + 1) = 5 * (bndS K d + 3) := rfl
    rw [hbn] at hr ⊢
    obtain ⟨X, hX⟩ : ∃ X, X = bndS K d := ⟨_, rfl⟩
    rw [← hX] at hr ih ⊢
    have hcM : ¬ (cur.length : Int) = (M : Int) := by omega
    let part : Nat → List (List Int) := fun k => (combs N d (a + k + 1)).map fun l => ((a + k : Nat) : Int) :: l
    have hpart : combs N (d + 1) a = (List.range (N - a)).flatMap part := rfl
    obtain ⟨m, hm⟩ : ∃ m, m = N - a := ⟨_, rfl⟩
    rw [hpart, ← hm] at hr0
    suffices hs : ∃ v' g', call (n + 1) (chooseSV ps pm py pn pc) [.int .i64 (a : Int)] g = some (v', g') ∧ v' = .bool r.isNone ∧ g'.floor = fl ∧ g.next ≤ g'.next ∧ g'.next ≤ g.next + 5 * (X + 3) ∧
        (∀ l, r = some l → Kf (cur ++ l) g') ∧ (r = none → (∀ i, i < B → g'.get i = g0.get i) ∧ SetS ps pm py pn pc N M yv g' ∧ ∃ v', g'.get ps = some (.row [v'] true 0) ∧ SetR B3 g' v' cur) by
      obtain ⟨_, g', e, rfl, q⟩ := hs
      exact ⟨g', e, q⟩
    have hi := hset.ints
    have rps : Row g ps [v] := ⟨_, _, hsg⟩
    refine call_any (xs := []) (ys := [.pointer (some ⟨ps, 0, none⟩), .pointer (some ⟨pm, 0, none⟩), .pointer (some ⟨py, 0, none⟩), .pointer (some ⟨pn, 0, none⟩), .pointer (some ⟨pc, 0, none⟩)]) fok131 rfl rfl (by simp) ?_
    simp only [rn0, rn1, rn2, rn3, rn4, rn5, rn6, rn7, rn8, if_true, if_false, Nat.le_refl, true_and, and_true, decide_true, decide_false, Bool.not_true, Bool.not_false, reduceIte, Nat.reduceEqDiff, Nat.reduceAdd, Nat.reduceMul, Nat.reduceSub, Nat.reduceLeDiff, Nat.reduceLT, s131, List.cons_append, List.nil_append, rps.ld, hit.m.ld, Nat.zero_add, List.getElem?_cons_zero, Cells.len hi, hcM]
    refine W_loop m (fun k f g1 ms => ((∃ v1, g1.get ps = some (.row [v1] true 0) ∧ SetR B3 g1 v1 cur) ∧ SetS ps pm py pn pc N M yv g1 ∧ (∀ i, i < B → g1.get i = g0.get i) ∧ g1.floor = fl ∧ g.next ≤ g1.next ∧ g1.next ≤ g.next + k * (X + 3) ∧ ((List.range k).flatMap part).find? (fun l => decide (P (cur ++ l))) = none) ∧ ms = [] ∧ f 1 = .pointer (some ⟨ps, 0, none⟩) ∧ f 4 = .pointer (some ⟨pn, 0, none⟩) ∧ f 5 = .pointer (some ⟨pc, 0, none⟩) ∧ f 8 = .int .i64 ((a + k : Nat) : Int)) (by simp; omega) ?_ ?_ ?_
    · simp only [rn0, rn1, rn2, rn3, rn4, rn5, rn6, rn7, rn8, if_true, if_false, Nat.le_refl, true_and, and_true, decide_true, decide_false, Bool.not_true, Bool.not_false, reduceIte, Nat.reduceEqDiff, Nat.reduceAdd, Nat.reduceMul, Nat.reduceSub, Nat.reduceLeDiff, Nat.reduceLT, Nat.add_zero]
      exact ⟨⟨v, hsg, hset⟩, hit, hbase, hfg, by rw [Nat.zero_mul]; exact Nat.le_refl _, by simp⟩
    · rintro k f g1 ms hk ⟨⟨⟨v1, hs1, hset1⟩, it1, hb1, fl1, up1, nx1, hno⟩, rfl, p1, p4, p5, p8⟩
      have hlt : ((a + k : Nat) : Int) < (N : Int) := by omega
      have hw : wrapF .i64 (((a + k : Nat) : Int) + 1) = ((a + k + 1 : Nat) : Int) := by rw [wrap_in (by omega) (by omega)]; rfl
      have hk5 : k * (X + 3) + (X + 3) ≤ 5 * (X + 3) := by
        rw [← Nat.succ_mul]
        exact Nat.mul_le_mul_right _ (by omega)
      generalize hkx : k * (X + 3) = kx at nx1 hk5
      have rp1 : Row g1 ps [v1] := ⟨_, _, hs1⟩
      simp only [rn0, rn1, rn2, rn3, rn4, rn5, rn6, rn7, rn8, if_true, if_false, Nat.le_refl, true_and, and_true, decide_true, decide_false, Bool.not_true, Bool.not_false, reduceIte, Nat.reduceEqDiff, Nat.reduceAdd, Nat.reduceMul, Nat.reduceSub, Nat.reduceLeDiff, Nat.reduceLT, p1, p4, p5, p8, rp1.ld, it1.n.ld, Nat.zero_add, List.getElem?_cons_zero, hlt, sl_int]
      refine step_slice (by omega) rfl fun g2 hx2 => ?_
      have n2 := hx2.next
      have f2 := hx2.floor
      obtain ⟨v3, g3, e3, hset3, o3, u3, m3, f3, old3, nb3⟩ := hset1.push (g1 := g2) (x := ((a + k : Nat) : Int)) (by omega) (by omega) (by omega) hx2 (by omega)
      have nob : ∀ i, i < B3 → NoB v1 i := fun i hi b k c e => by have := (hset1.block e).1; omega
      have nob3 : ∀ i, i < B3 → NoB v3 i := fun i hi b k c e => by have := (hset3.block e).1; omega
      have s3 : g3.get ps = some (.row [v1] true 0) := by rw [old3 _ (by omega) (nob _ hps.2)]; exact hs1
      simp only [rn0, rn1, rn2, rn3, rn4, rn5, rn6, rn7, rn8, if_true, if_false, Nat.le_refl, true_and, and_true, decide_true, decide_false, Bool.not_true, Bool.not_false, reduceIte, Nat.reduceEqDiff, Nat.reduceAdd, Nat.reduceMul, Nat.reduceSub, Nat.reduceLeDiff, Nat.reduceLT, p1, p4, p5, p8, e3]
      refine step_store (b := ps) (off := 0) (vs := [v3]) rfl s3 (by omega) (by omega) (by cases v3 <;> first | rfl | cases o3) (by simp [allB, o3]) rfl (by simp) fun g4 hs4 => ?_
      rw [splice1] at hs4
      have n4 := hs4.next
      have f4 := hs4.floor
      have low4 : ∀ i, i < B3 → i ≠ ps → g4.get i = g1.get i := fun i hi hne => by rw [hs4.old i hne, old3 i (by omega) (nob i hi)]
      have it4 : SetS ps pm py pn pc N M yv g4 := it1.same (low4 _ hpy.2.1 hpy.2.2) (low4 _ (by omega) (by omega)) (low4 _ (by omega) (by omega)) (low4 _ hpc.2.1 hpc.2.2)
      have hset4 : SetR B3 g4 v3 (cur ++ [((a + k : Nat) : Int)]) := hset3.old fun x k c e hl => hs4.old _ (by have := (hset3.block e).1; omega)
      have hb4 : ∀ i, i < B → g4.get i = g0.get i := fun i hi => by rw [low4 i (by omega) (by omega)]; exact hb1 i hi
      obtain ⟨r', hr'⟩ : ∃ r', r' = (combs N d (a + k + 1)).find? (fun l => decide (P ((cur ++ [((a + k : Nat) : Int)]) ++ l))) := ⟨_, rfl⟩
      obtain ⟨g5, e5, f5, u5, m5, kf5, hn5⟩ := ih (a + k + 1) n g4 v3 _ r' hr' (by simp; omega) (by omega) it4 hs4.get hset4 hb4 (by omega) (by omega) (by omega)
      have hfp : (part k).find? (fun l => decide (P (cur ++ l))) = r'.map fun q => ((a + k : Nat) : Int) :: q := by rw [hr']; exact find_map (N := N) (d := d)
      have hrow4 : Row g4 pc [chooseSV ps pm py pn pc] := it4.c
      cases hrr : r' with
      | some l =>
        rw [hrr] at e5 hfp
        obtain ⟨rest, hrest⟩ := part_flat part hk
        have hfind : r = some (((a + k : Nat) : Int) :: l) := by
          rw [hr0, hrest, List.find?_append, hno, List.find?_append, hfp]
          rfl
        have hz : Option.isNone (some l) = false := rfl
        rw [hz] at e5
        have hz' : r.isNone = false := by rw [hfind]; rfl
        simp only [rn0, rn1, rn2, rn3, rn4, rn5, rn6, rn7, rn8, if_true, if_false, Nat.le_refl, true_and, and_true, decide_true, decide_false, Bool.not_true, Bool.not_false, reduceIte, Nat.reduceEqDiff, Nat.reduceAdd, Nat.reduceMul, Nat.reduceSub, Nat.reduceLeDiff, Nat.reduceLT, p1, p4, p5, p8, hrow4.ld, Nat.zero_add, List.getElem?_cons_zero, hw, e5]
        rw [hz']
        refine ⟨rfl, by omega, by omega, by omega, fun q hq => ?_, fun q => by rw [hfind] at q; cases q⟩
        rw [hfind] at hq
        cases hq
        have := kf5 l hrr
        rw [List.append_assoc] at this
        exact this
      | none =>
        rw [hrr] at e5 hfp
        obtain ⟨b5, it5, v5, s5, set5⟩ := hn5 hrr
        have hz : Option.isNone (none : Option (List Int)) = true := rfl
        rw [hz] at e5
        obtain ⟨v6, e6, set6, o6⟩ := set5.cut
        have rp5 : Row g5 ps [v5] := ⟨_, _, s5⟩
        have hl5 : (cur ++ [((a + k : Nat) : Int)]).length = cur.length + 1 := by simp
        have i5 := set5.ints
        rw [hl5] at i5
        have hw5 : wrapF .i64 (((cur.length + 1 : Nat) : Int) - 1) = (cur.length : Int) := by rw [wrap_in (by omega) (by omega)]; omega
        have e6' : sliceA 1 (Option.isSome (some (T 35))) g5 v5 none (some (.int .i64 (cur.length : Int))) none = some (v6, g5) := e6
        simp only [rn0, rn1, rn2, rn3, rn4, rn5, rn6, rn7, rn8, if_true, if_false, Nat.le_refl, true_and, and_true, decide_true, decide_false, Bool.not_true, Bool.not_false, reduceIte, Nat.reduceEqDiff, Nat.reduceAdd, Nat.reduceMul, Nat.reduceSub, Nat.reduceLeDiff, Nat.reduceLT, p1, p4, p5, p8, hrow4.ld, Nat.zero_add, List.getElem?_cons_zero, hw, e5, rp5.ld, Cells.len i5, hw5, Option.map_none, Option.map_some, e6']
        refine step_store (b := ps) (off := 0) (vs := [v6]) rfl s5 (by omega) (by omega) (by cases v6 <;> first | rfl | cases o6) (by simp [allB, o6]) rfl (by simp) fun g7 hs7 => ?_
        rw [splice1] at hs7
        have n7 := hs7.next
        have f7 := hs7.floor
        simp only [rn0, rn1, rn2, rn3, rn4, rn5, rn6, rn7, rn8, if_true, if_false, Nat.le_refl, true_and, and_true, decide_true, decide_false, Bool.not_true, Bool.not_false, reduceIte, Nat.reduceEqDiff, Nat.reduceAdd, Nat.reduceMul, Nat.reduceSub, Nat.reduceLeDiff, Nat.reduceLT, p1, p4, p5, p8, hw]
        have hk1 : (k + 1) * (X + 3) = kx + (X + 3) := by rw [Nat.succ_mul, hkx]
        rw [hk1]
        refine ⟨⟨⟨v6, hs7.get, set6.old fun x k c e hl => hs7.old _ (by have := (set6.block e).1; omega)⟩, it5.same (hs7.old _ hpy.2.2) (hs7.old _ (by omega)) (hs7.old _ (by omega)) (hs7.old _ hpc.2.2), fun i hi => by rw [hs7.old i (by omega)]; exact b5 i hi, by omega, by omega, by omega, ?_⟩, rfl⟩
        rw [List.range_succ, List.flatMap_append, List.find?_append, hno]
        show Option.or none ((([k] : List Nat).flatMap part).find? _) = none
        rw [show ([k] : List Nat).flatMap part = part k by simp, hfp]
        rfl
    · rintro f g1 ms ⟨⟨⟨v1, hs1, hset1⟩, it1, hb1, fl1, up1, nx1, hno⟩, rfl, p1, p4, p5, p8⟩
      have hlt : ¬ ((a + m : Nat) : Int) < (N : Int) := by omega
      have hk5 : m * (X + 3) ≤ 5 * (X + 3) := Nat.mul_le_mul_right _ (by omega)
      have hrn : r = none := by rw [hr0]; exact hno
      have hz : r.isNone = true := by rw [hrn]; rfl
      simp only [rn0, rn1, rn2, rn3, rn4, rn5, rn6, rn7, rn8, if_true, if_false, Nat.le_refl, true_and, and_true, decide_true, decide_false, Bool.not_true, Bool.not_false, reduceIte, Nat.reduceEqDiff, Nat.reduceAdd, Nat.reduceMul, Nat.reduceSub, Nat.reduceLeDiff, Nat.reduceLT, p1, p4, p5, p8, it1.n.ld, Nat.zero_add, List.getElem?_cons_zero, hlt]
      rw [hz]
      have hA := And.intro fl1 (And.intro up1 (And.intro (show g1.next ≤ g.next + 5 * (X + 3) by omega) (And.intro (show ∀ l, r = some l → Kf (cur ++ l) g1 from fun l hl => by rw [hrn] at hl; cases hl) (show r = none → _ from fun _ => And.intro hb1 (And.intro it1 (show ∃ v', g1.get ps = some (.row [v'] true 0) ∧ SetR B3 g1 v' cur from ⟨v1, hs1, hset1⟩))))))
      first | exact hA | exact ⟨rfl, hA⟩
end Go.Vm.St

namespace Go.Vm.St
open Go.Proofs Go.Vm.Vat
set_option linter.unusedSimpArgs false
set_option linter.unusedVariables false
set_option maxRecDepth 10000
variable {n : Nat} {h : AHeap}
def s130 : SCode := (.seq (.ops [⟨(some 3), none, .box (T 0)⟩]) (.seq (.ops [⟨(some 4), none, .alloc [(.slice none 0 0)]⟩]) (.seq (.ops [⟨(some 5), none, .alloc [.nilFunc]⟩]) (.seq (.ops [⟨(some 6), none, .mkfunc 131 [] [(T 4), (T 1), (T 3), (T 2), (T 5)]⟩, ⟨none, none, .store 1 (T 5) (T 6)⟩]) (.ops [⟨(some 7), none, .load1 (T 5)⟩, ⟨(some 8), none, .call (T 7) [(.const (.int .i64 (0)))]⟩])))))
theorem fok130 : FnOk Try.prog 130 9 s130 [] := ⟨Try.f130, _, Try.func130, rfl, Try.ntmps130, by kernel_rfl, by kernel_rfl⟩
open Classical in
set_option maxHeartbeats 1000000 in
theorem setsIter_c {P : List Int → Prop} {N M K N0 pm pn : Nat} {yv : Value} {g : AHeap} {r : Option (List Int)} (Kf : List Int → AHeap → Prop) (hr0 : r = (combs N M 0).find? (fun l => decide (P l)))
    (hN : N ≤ 5) (hM : M ≤ 5) (hm : Row g pm [.int .i64 (M : Int)]) (hnr : Row g pn [.int .i64 (N : Int)]) (hyo : oneCell yv = true) (hyv : eqV yv yv = true) (hfl : g.floor ≤ g.next) (hN0 : 10 ≤ N0) (hn : N0 + 10 ≤ n)
    (hY : ∀ n g1 l v, N0 ≤ n → Ints g1 v l.length (atL l) → oneCell v = true → (∀ x k c, v = .slice (some x) k c → g.next + 3 ≤ x.block ∧ x.block < g1.next) → l.length = M → (∀ i, i < g.next → g1.get i = g.get i) → g.next + 3 ≤ g1.next → g1.floor = g.floor → g1.next + K < far →
      (P l → ∃ g', call n yv [v] g1 = some (.bool false, g') ∧ Kf l g' ∧ g'.floor = g.floor ∧ g1.next ≤ g'.next ∧ g'.next ≤ g1.next + K) ∧
      (¬ P l → ∃ g', call n yv [v] g1 = some (.bool true, g') ∧ (∀ i, i < g1.next → g'.get i = g1.get i) ∧ g'.floor = g.floor ∧ g1.next ≤ g'.next ∧ g'.next ≤ g1.next + K))
    (hr : g.next + 10 + bndS K M < far) :
    ∃ v g', call n (.func (.func 130) ⟨[]⟩ ⟨[.pointer (some ⟨pm, 0, none⟩), .pointer (some ⟨pn, 0, none⟩)]⟩) [yv] g = some (v, g') ∧ g'.floor = g.floor ∧ g.next ≤ g'.next ∧ g'.next ≤ g.next + 3 + bndS K M ∧
      (∀ l, r = some l → Kf l g') ∧ (r = none → ∀ i, i < g.next → g'.get i = g.get i) := by
  obtain ⟨n, rfl⟩ : ∃ p, n = p + 1 := ⟨n - 1, by omega⟩
  have lpm := row_lt hm
  have lpn := row_lt hnr
  refine call_any (xs := []) (ys := [.pointer (some ⟨pm, 0, none⟩), .pointer (some ⟨pn, 0, none⟩)]) fok130 rfl rfl (by simp) ?_
  simp only [s130, List.cons_append, List.nil_append, W_seq, W_ops]
  refine ops_box (cs := [yv]) (by omega) (by simp only [rn0, rn1, rn2, rn3, rn4, rn5, rn6, rn7, rn8, if_true, if_false, Nat.le_refl, true_and, and_true, decide_true, decide_false, Bool.not_true, Bool.not_false, reduceIte, Nat.reduceEqDiff, Nat.reduceAdd, Nat.reduceMul, Nat.reduceSub, Nat.reduceLeDiff, Nat.reduceLT]; cases yv <;> first | rfl | cases hyo) (by simp [allB, hyo]) fun g1 hx1 => ?_
  have n1 := hx1.next
  have f1 := hx1.floor
  simp only [rn0, rn1, rn2, rn3, rn4, rn5, rn6, rn7, rn8, if_true, if_false, Nat.le_refl, true_and, and_true, decide_true, decide_false, Bool.not_true, Bool.not_false, reduceIte, Nat.reduceEqDiff, Nat.reduceAdd, Nat.reduceMul, Nat.reduceSub, Nat.reduceLeDiff, Nat.reduceLT]
  refine step_row (cs := [nilS]) (by omega) rfl rfl fun g2 hx2 => ?_
  have n2 := hx2.next
  have f2 := hx2.floor
  simp only [rn0, rn1, rn2, rn3, rn4, rn5, rn6, rn7, rn8, if_true, if_false, Nat.le_refl, true_and, and_true, decide_true, decide_false, Bool.not_true, Bool.not_false, reduceIte, Nat.reduceEqDiff, Nat.reduceAdd, Nat.reduceMul, Nat.reduceSub, Nat.reduceLeDiff, Nat.reduceLT]
  refine step_row (cs := [.nilFunc]) (by omega) rfl rfl fun g3 hx3 => ?_
  have n3 := hx3.next
  have f3 := hx3.floor
  have e1 : g1.next = g.next + 1 := n1
  have e2 : g2.next = g.next + 2 := by omega
  simp only [rn0, rn1, rn2, rn3, rn4, rn5, rn6, rn7, rn8, if_true, if_false, Nat.le_refl, true_and, and_true, decide_true, decide_false, Bool.not_true, Bool.not_false, reduceIte, Nat.reduceEqDiff, Nat.reduceAdd, Nat.reduceMul, Nat.reduceSub, Nat.reduceLeDiff, Nat.reduceLT]
  refine step_store (b := g2.next) (gr := 0) (vs := [chooseSV g1.next pm g.next pn g2.next]) rfl hx3.get (by omega) (by omega) rfl rfl rfl (by simp) fun g4 hs => ?_
  have n4 := hs.next
  have f4 := hs.floor
  have es : splice [Value.nilFunc] 0 [chooseSV g1.next pm g.next pn g2.next] = [chooseSV g1.next pm g.next pn g2.next] := rfl
  rw [es] at hs
  have old4 : ∀ i, i < g.next → g4.get i = g.get i := fun i hi => by rw [hs.old i (by omega), hx3.old i (by omega), hx2.old i (by omega), hx1.old i hi]
  have hit : SetS g1.next pm g.next pn g2.next N M yv g4 := ⟨⟨true, 0, by rw [hs.old _ (by omega), hx3.old _ (by omega), hx2.old _ (by omega)]; exact hx1.get⟩, rowAt hm (old4 _ lpm), rowAt hnr (old4 _ lpn), ⟨true, 0, hs.get⟩⟩
  have hsg : g4.get g1.next = some (.row [nilS] true 0) := by rw [hs.old _ (by omega), hx3.old _ (by omega)]; exact hx2.get
  have hr0' : r = (combs N M 0).find? (fun l => decide (P ([] ++ l))) := hr0
  obtain ⟨g5, e5, f5, u5, m5, k5, q5⟩ := chooseS_c (P := P) (N := N) (M := M) (K := K) (N0 := N0) (fl := g.floor) (B := g.next) (B3 := g.next + 3) (ps := g1.next) (pm := pm) (py := g.next) (pn := pn) (pc := g2.next) (yv := yv) (g0 := g) Kf hN hM hfl (by omega) (by omega) (by omega) lpm lpn hyv hN0
    hY M 0 n g4 nilS [] r hr0' (by simp) (by omega) hit hsg (.inl ⟨rfl, rfl⟩) old4 (by omega) (by omega) (by omega)
  have hl : loadCell g4 (.pointer (some ⟨g2.next, 0, none⟩)) = some (chooseSV g1.next pm g.next pn g2.next) := by rw [hs.row.ld]; rfl
  have e5' : call n (chooseSV g1.next pm g.next pn g2.next) [.int .i64 0] g4 = some (.bool r.isNone, g5) := e5
  simp only [rn0, rn1, rn2, rn3, rn4, rn5, rn6, rn7, rn8, if_true, if_false, Nat.le_refl, true_and, and_true, decide_true, decide_false, Bool.not_true, Bool.not_false, reduceIte, Nat.reduceEqDiff, Nat.reduceAdd, Nat.reduceMul, Nat.reduceSub, Nat.reduceLeDiff, Nat.reduceLT, hl, e5']
  exact ⟨_, rfl, f5, by omega, by omega, fun l h => k5 l h, fun h => (q5 h).1⟩
def s124 : SCode := (.seq (.ops [⟨(some 2), none, .box (T 0)⟩, ⟨(some 3), none, .box (T 1)⟩, ⟨(some 4), none, .mov (.const .nilFunc)⟩]) (.seq (.ops [⟨(some 5), none, .mkfunc 130 [] [(T 3), (T 2)]⟩, ⟨(some 4), none, .mov (T 5)⟩]) .ret))
theorem fok124 : FnOk Try.prog 124 6 s124 [.tmp 4] := ⟨Try.f124, _, Try.func124, rfl, Try.ntmps124, by kernel_rfl, by kernel_rfl⟩
theorem allSets_c (hn : 1 ≤ n) (hr : h.next + 3 < far) (a b : Int) :
    ∃ h', call n (.func (.func 124) #[] #[]) [.int .i64 a, .int .i64 b] h = some (.func (.func 130) ⟨[]⟩ ⟨[.pointer (some ⟨h.next + 1, 0, none⟩), .pointer (some ⟨h.next, 0, none⟩)]⟩, h') ∧ Row h' h.next [.int .i64 a] ∧ Row h' (h.next + 1) [.int .i64 b] ∧ (∀ i, i < h.next → h'.get i = h.get i) ∧ h'.next = h.next + 2 ∧ h'.floor = h.floor := by
  obtain ⟨n, rfl⟩ : ∃ p, n = p + 1 := ⟨n - 1, by omega⟩
  suffices hs : ∃ v h', call (n + 1) (.func (.func 124) #[] #[]) [.int .i64 a, .int .i64 b] h = some (v, h') ∧ v = .func (.func 130) ⟨[]⟩ ⟨[.pointer (some ⟨h.next + 1, 0, none⟩), .pointer (some ⟨h.next, 0, none⟩)]⟩ ∧ Row h' h.next [.int .i64 a] ∧ Row h' (h.next + 1) [.int .i64 b] ∧ (∀ i, i < h.next → h'.get i = h.get i) ∧ h'.next = h.next + 2 ∧ h'.floor = h.floor by
    obtain ⟨v, h', e, rfl, hx⟩ := hs
    exact ⟨h', e, hx⟩
  refine call_any0 fok124 rfl rfl (by simp) ?_
  simp only [s124, W_seq, W_ops]
  refine ops_box (cs := [.int .i64 a]) (by omega) rfl rfl fun g1 hx1 => ?_
  have n1 := hx1.next
  have f1 := hx1.floor
  refine ops_box (cs := [.int .i64 b]) (by omega) rfl rfl fun g2 hx2 => ?_
  have n2 := hx2.next
  have f2 := hx2.floor
  have r2 := hx2.row
  rw [n1] at r2
  simp only [rn0, rn1, rn2, rn3, rn4, rn5, rn6, rn7, rn8, if_true, if_false, Nat.le_refl, true_and, and_true, decide_true, decide_false, Bool.not_true, Bool.not_false, reduceIte, Nat.reduceEqDiff, Nat.reduceAdd, Nat.reduceMul, Nat.reduceSub, Nat.reduceLeDiff, Nat.reduceLT, n1]
  exact ⟨hx1.row.mono hx2.sub, r2, fun i hi => by rw [hx2.old i (by omega), hx1.old i hi], by omega, by omega⟩
end Go.Vm.St

namespace Go.Vm.St
open Go.Proofs Go.Vm.Vat
set_option linter.unusedSimpArgs false
set_option linter.unusedVariables false
set_option maxRecDepth 10000
variable {n : Nat} {h : AHeap}
def wrS (S : MS) (t : Nat → Int) (i : Nat) : Prop := ¬ RightS S t i
noncomputable def wrongL (S : MS) (t : Nat → Int) : List Int := pickL (wrS S t) S.ns
def allE (S : MS) : List (Nat → Int) := enumB (uLo S) (uHi S) (numU S) 0 fun _ => 0
noncomputable def allW (S : MS) : List (List Int) := (allE S).map (wrongL S)
noncomputable def wrongStep (S : MS) (s : List (List Int)) (c : Nat → Int) : List (List Int) × Bool := (s ++ [wrongL S c], true)
theorem runL_wrong {S : MS} : ∀ (l : List (Nat → Int)) (s : List (List Int)), runL (wrongStep S) s l = (s ++ l.map (wrongL S), true)
  | [], s => by simp [runL]
  | x :: l, s => by
    have e : runL (wrongStep S) s (x :: l) = runL (wrongStep S) (s ++ [wrongL S x]) l := rfl
    rw [e, runL_wrong l]; simp
theorem wrong_len {S : MS} {t : Nat → Int} : (wrongL S t).length ≤ S.ns := pick_len _
structure WrG (B : Nat) (g : AHeap) (v : Value) (s : List (List Int)) (R : Nat → Value) : Prop where
  c : GrowC B g v 1 s.length (fun k _ => R k)
  r : ∀ k, k < s.length → Ints g (R k) (s.getD k []).length (atL (s.getD k [])) ∧ ∀ x m c, R k = .slice (some x) m c → B ≤ x.block ∧ x.block < g.next ∧ NeB v x.block
theorem WrG.old {B : Nat} {g g' : AHeap} {v : Value} {s : List (List Int)} {R : Nat → Value} (hw : WrG B g v s R) (ho : ∀ i, B ≤ i → i < g.next → g'.get i = g.get i) (hn : g.next ≤ g'.next) : WrG B g' v s R :=
  ⟨GrowC.at' hw.c fun a k c e => ho _ (hw.c.block e).1 (hw.c.block e).2, fun k hk => ⟨cells_at (hw.r k hk).1 fun a m c e hl => ho _ ((hw.r k hk).2 a m c e).1 hl, fun x m c e => by
    obtain ⟨q1, q2, q3⟩ := (hw.r k hk).2 x m c e
    exact ⟨q1, by omega, q3⟩⟩⟩
theorem WrG.push {B : Nat} {g g1 : AHeap} {v wv : Value} {s : List (List Int)} {R : Nat → Value} {w : List Int} (hw : WrG B g v s R) (hB : g.floor ≤ B) (hf : g.next + 2 < far) (hBn : B ≤ g.next) (hx : New g g1 [wv] 0) (hi : Ints g wv w.length (atL w)) (ho : oneCell wv = true)
    (hb : ∀ x m c, wv = .slice (some x) m c → B ≤ x.block ∧ x.block < g.next ∧ NeB v x.block) (hl : s.length ≤ g.next) :
    ∃ v' g2, appendA 1 24 g1 v (.slice (some ⟨g.next, 0, none⟩) 1 1) = some (v', g2) ∧ WrG B g2 v' (s ++ [w]) (fun k => if k = s.length then wv else R k) ∧ oneCell v' = true ∧ v' = .slice (some ⟨g.next + 1, 0, none⟩) (s.length + 1) unk ∧ g2.next = g.next + 2 ∧ g2.floor = g.floor ∧ (∀ i, i < g.next → NeB v i → g2.get i = g.get i) := by
  have hlen : (s ++ [w]).length = s.length + 1 := by simp
  have hg : GrowC B g v 1 s.length (fun k _ => if k = s.length then wv else R k) := growC_congr hw.c fun k j hk hj => by
    have : ¬ k = s.length := by omega
    simp only [this, if_false]
  obtain ⟨g2, e, gv, n2, f2, o2', u2⟩ := grow_push3 (bytes := 24) hg hB hf hBn hx rfl (by simp [allB, ho]) (fun j hj => by
    obtain rfl : j = 0 := by omega
    simp) (by simp [maxBytes, far] at *; omega) (by simp [maxBytes, far] at *; omega)
  refine ⟨_, g2, e, ⟨by rw [hlen]; exact gv, fun k hk => ?_⟩, rfl, rfl, n2, f2, o2'⟩
  have fresh : ∀ i, i < g.next → NeB (.slice (some ⟨g.next + 1, 0, none⟩) (s.length + 1) unk) i := fun i hi b m c e => by cases e; show i ≠ g.next + 1; omega
  by_cases c : k = s.length
  · subst c
    have hlast : (s ++ [w]).getD s.length [] = w := by rw [List.getD_eq_getElem?_getD, List.getElem?_append_right (Nat.le_refl _)]; simp
    simp only [if_true, hlast]
    exact ⟨cells_at hi fun a m c e hl => o2' _ hl (hb a m c e).2.2, fun x m c e => ⟨(hb x m c e).1, by have := (hb x m c e).2.1; omega, fresh _ (hb x m c e).2.1⟩⟩
  · have hk' : k < s.length := by omega
    simp only [c, if_false]
    rw [List.getD_eq_getElem?_getD, List.getElem?_append_left hk', ← List.getD_eq_getElem?_getD]
    obtain ⟨q1, q2⟩ := hw.r k hk'
    exact ⟨cells_at q1 fun a m c e hl => o2' _ hl (q2 a m c e).2.2, fun x m c e => ⟨(q2 x m c e).1, by have := (q2 x m c e).2.1; omega, fresh _ (q2 x m c e).2.1⟩⟩
theorem WrG.nil {B : Nat} {g : AHeap} : WrG B g nilS [] (fun _ => nilS) := ⟨.nil, fun k hk => absurd hk (Nat.not_lt_zero _)⟩
def AllR (g : AHeap) (v : Value) (s : List (List Int)) : Prop := ∃ R : Nat → Value, Cells g v 1 s.length (fun k _ => R k) ∧ ∀ k, k < s.length → Ints g (R k) (s.getD k []).length (atL (s.getD k []))
theorem AllR.mono {g g' : AHeap} {v : Value} {s : List (List Int)} (ha : AllR g v s) (hs : Sub All g g') : AllR g' v s := by
  obtain ⟨R, h1, h2⟩ := ha
  exact ⟨R, h1.mono hs, fun k hk => Cells.mono (h2 k hk) hs⟩
structure JW (h2 : AHeap) (p : Nat) (s : List (List Int)) (g : AHeap) : Prop where
  old : ∀ i, i < h2.next → i ≠ p → g.get i = h2.get i
  tv : ∃ v R, g.get p = some (.row [v] true 0) ∧ WrG (h2.next + 2) g v s R
  up : h2.next + 2 ≤ g.next
  len : s.length ≤ g.next
def OwnW (h2 : AHeap) (p : Nat) (g : AHeap) (q : Nat) : Prop := h2.next ≤ q ∧ q ≠ p ∧ q ≠ h2.next + 1 ∧ ∀ v, g.get p = some (.row [v] true 0) → NeB v q
noncomputable def s96 : SCode := (.seq (.ops [⟨(some 1), none, .box (T 0)⟩, ⟨(some 2), none, .mov (.const (.slice none 0 0))⟩]) (.seq (.ops [⟨(some 3), none, .alloc [(.slice none 0 0)]⟩]) (.seq (.seq (.ops [⟨(some 8), none, .loadN 8 (T 1)⟩, ⟨(some 9), none, .call (.func 108) [(T 8)]⟩]) (.block 0 (.range (T 9) #[10] (rangeOf Try.f96 0).1 (rangeOf Try.f96 0).2))) (.seq (.ops [⟨(some 34), none, .load1 (T 3)⟩, ⟨(some 2), none, .mov (T 34)⟩]) .ret))))
theorem fok96 : FnOk Try.prog 96 35 s96 [.tmp 2] := ⟨Try.f96, _, Try.func96, rfl, Try.ntmps96, by kernel_rfl, by kernel_rfl⟩
def ra96_0 : SCode := (.ops [⟨(some 4), none, .alloc [(.int .i64 (0)), (.int .i64 (0)), (.int .i64 (0)), (.int .i64 (0)), (.int .i64 (0)), (.int .i64 (0)), (.int .i64 (0)), (.int .i64 (0)), (.int .i64 (0)), (.int .i64 (0)), (.int .i64 (0))]⟩, ⟨none, none, .store 11 (T 4) (T 10)⟩])
theorem raok96_0 : compCode Try.prog 35 (rangeOf Try.f96 0).1 = some ra96_0 := by kernel_rfl
def rb96_0 : SCode := (.block 1 (.seq (.ops [⟨(some 5), none, .mov (.const (.slice none 0 0))⟩]) (.seq (.seq (.ops [⟨(some 11), none, .fieldAddr 0 (T 1)⟩, ⟨(some 12), none, .fieldAddr 6 (T 11)⟩, ⟨(some 13), none, .load1 (T 12)⟩, ⟨(some 14), none, .len (T 13)⟩, ⟨(some 15), none, .mov (.const (.int .i64 (0)))⟩]) (.block 2 (.loop (.seq (.ops [⟨(some 16), none, .int2 .lss (T 15) (T 14)⟩]) (.seq (.cond (T 16) .skip (.exit 2)) (.seq (.block 3 (.seq (.ops [⟨(some 17), none, .mov (T 15)⟩, ⟨(some 18), none, .idxSl 3 (T 13) (T 15)⟩, ⟨(some 19), none, .loadN 3 (T 18)⟩, ⟨(some 7), none, .alloc [(.int .i64 (0)), (.int .i64 (0)), (.int .i64 (0))]⟩, ⟨(some 6), none, .mov (T 17)⟩, ⟨none, none, .store 3 (T 7) (T 19)⟩]) (.seq (.ops [⟨(some 20), none, .loadN 8 (T 1)⟩, ⟨(some 21), none, .loadN 11 (T 4)⟩, ⟨(some 22), none, .loadN 3 (T 7)⟩, ⟨(some 23), none, .call (.func 123) [(T 20), (T 21), (T 22)]⟩, ⟨(some 24), none, .not (T 23)⟩]) (.cond (T 24) (.ops [⟨(some 25), none, .mov (T 5)⟩, ⟨(some 26), none, .mov (T 6)⟩, ⟨(some 27), none, .bslice 1 1 [(.int .i64 (0))] [0] [(T 26)]⟩, ⟨(some 28), none, .append 1 8 (T 25) (T 27)⟩, ⟨(some 5), none, .mov (T 28)⟩]) .skip)))) (.ops [⟨(some 29), none, .int2 .add (T 15) (.const (.int .i64 (1)))⟩, ⟨(some 15), none, .mov (T 29)⟩]))))))) (.ops [⟨(some 30), none, .load1 (T 3)⟩, ⟨(some 31), none, .mov (T 5)⟩, ⟨(some 32), none, .bslice 1 1 [(.slice none 0 0)] [0] [(T 31)]⟩, ⟨(some 33), none, .append 1 24 (T 30) (T 32)⟩, ⟨none, none, .store 1 (T 3) (T 33)⟩]))))
theorem rbok96_0 : compCode Try.prog 35 (rangeOf Try.f96 0).2 = some rb96_0 := by kernel_rfl
set_option maxHeartbeats 4000000 in
theorem wrongAll_c (hn : 500 ≤ n) (hr : h.next + 600000 < far) (hfl : h.floor ≤ h.next) {wv vv sv : Value} {S : MS} (hy : SteepR h wv vv sv S) (hG : Good S) :
    ∃ v h', call n (.func (.func 96) #[] #[]) [.agg ⟨wkL S wv vv sv nilS⟩] h = some (v, h') ∧ AllR h' v (allW S) ∧ oneCell v = true ∧ (∀ i, i < h.next → h'.get i = h.get i) ∧ h.next ≤ h'.next ∧ h'.next ≤ h.next + 500000 ∧ h'.floor = h.floor := by
  obtain ⟨n, rfl⟩ : ∃ p, n = p + 1 := ⟨n - 1, by omega⟩
  refine call_any0 fok96 rfl rfl (by simp) ?_
  have hlenE := enum_len hG
  obtain ⟨_, _, _, _, _, z5, _⟩ := hG.sizes
  simp only [s96, W_seq, W_ops]
  refine ops_box (cs := wkL S wv vv sv nilS) (by omega) rfl (wk_one hy rfl) fun g1 hx1 => ?_
  have n1 := hx1.next
  have f1 := hx1.floor
  have e1 : g1.next = h.next + 1 := n1
  simp only [rn0, rn1, rn2, rn3, rn4, rn5, rn6, rn7, rn8, if_true, if_false, Nat.le_refl, true_and, and_true, decide_true, decide_false, Bool.not_true, Bool.not_false, reduceIte, Nat.reduceEqDiff, Nat.reduceAdd, Nat.reduceMul, Nat.reduceSub, Nat.reduceLeDiff, Nat.reduceLT]
  refine step_row (cs := [nilS]) (by omega) rfl rfl fun g2 hx2 => ?_
  have n2 := hx2.next
  have f2 := hx2.floor
  have e2 : g2.next = h.next + 2 := by omega
  have w2 := (hx1.row.mono hx2.sub).whole (n := 8) rfl
  have old2 : ∀ i, i < h.next → g2.get i = h.get i := fun i hi => by rw [hx2.old i (by omega), hx1.old i hi]
  obtain ⟨g4, e4, hx4⟩ := allTruths_c (n := n) (h := g2) (cs := wkL S wv vv sv nilS) (by omega) (by omega) (wk_one hy rfl) rfl
  have n4 := hx4.next
  have f4 := hx4.floor
  rw [e1]
  simp only [rn0, rn1, rn2, rn3, rn4, rn5, rn6, rn7, rn8, if_true, if_false, Nat.le_refl, true_and, and_true, decide_true, decide_false, Bool.not_true, Bool.not_false, reduceIte, Nat.reduceEqDiff, Nat.reduceAdd, Nat.reduceMul, Nat.reduceSub, Nat.reduceLeDiff, Nat.reduceLT, w2, e4]
  refine W_range' rfl (by omega) (by simp only [rn0, rn1, rn2, rn3, rn4, rn5, rn6, rn7, rn8, if_true, if_false, Nat.le_refl, true_and, and_true, decide_true, decide_false, Bool.not_true, Bool.not_false, reduceIte, Nat.reduceEqDiff, Nat.reduceAdd, Nat.reduceMul, Nat.reduceSub, Nat.reduceLeDiff, Nat.reduceLT]; rfl) fun f0 hf0 ts hv h2 hl => ?_
  have c1 : f0 1 = .pointer (some ⟨h.next, 0, none⟩) := by rw [hf0]; simp only [rn0, rn1, rn2, rn3, rn4, rn5, rn6, rn7, rn8, if_true, if_false, Nat.le_refl, true_and, and_true, decide_true, decide_false, Bool.not_true, Bool.not_false, reduceIte, Nat.reduceEqDiff, Nat.reduceAdd, Nat.reduceMul, Nat.reduceSub, Nat.reduceLeDiff, Nat.reduceLT]
  have c3 : f0 3 = .pointer (some ⟨h.next + 1, 0, none⟩) := by rw [hf0]; simp only [rn0, rn1, rn2, rn3, rn4, rn5, rn6, rn7, rn8, if_true, if_false, Nat.le_refl, true_and, and_true, decide_true, decide_false, Bool.not_true, Bool.not_false, reduceIte, Nat.reduceEqDiff, Nat.reduceAdd, Nat.reduceMul, Nat.reduceSub, Nat.reduceLeDiff, Nat.reduceLT]
  clear hf0
  have nl := hl.next
  have fl := hl.floor
  have en : g4.next = h.next + 3 := by omega
  have hbase : ∀ i, i < h.next → h2.get i = h.get i := fun i hi => by rw [hl.old i (by omega), hx4.old i (by omega), old2 i hi]
  have hp2 : h2.get (h.next + 1) = some (.row [nilS] true 0) := by
    rw [hl.old _ (by omega), hx4.old _ (by omega)]; have := hx2.get; rw [e1] at this; exact this
  have hw2 : h2.get h.next = some (.row (wkL S wv vv sv nilS) true 0) := by
    rw [hl.old _ (by omega), hx4.old _ (by omega), hx2.old _ (by omega)]; exact hx1.get
  have hpw : Row h2 (h.next + 2) (wkL S wv vv sv nilS) := by
    have := hx4.row.mono hl.sub
    rw [e2] at this
    exact this
  have hloop := hl.loop
  have hmark := hl.mark
  rw [en] at hloop hmark
  rw [en]
  rw [en] at hl
  generalize hr0 : loopO _ ts _ _ _ _ = r at hloop ⊢
  have r1 : r.state = .ready := by rw [← hr0]; rfl
  have r2 : View 35 r.tmps f0 := by rw [← hr0]; exact hv
  have r3 : r.params = #[10] := by rw [← hr0]; rfl
  have r4 : compCode Try.prog 35 r.assign = some ra96_0 := by rw [← hr0]; exact raok96_0
  have r5 : compCode Try.prog 35 r.body = some rb96_0 := by rw [← hr0]; exact rbok96_0
  have r6 : leftBy r .norm = r := by rw [← hr0]; rfl
  clear hr0 hl hv
  have en2 : h2.next = h.next + 5 := by omega
  have hit := iter_c (Own := OwnW h2 (h.next + 1)) (wrongStep S) (JW h2 (h.next + 1)) (g := h2) (pw := h.next + 2) (K := 210) (N0 := 300) (n := n) (tv := nilS) (yv := .func (.yield (h.next + 4)) #[] #[]) [] hG hpw (hy.mono (AHeap.subOf hbase)) rfl rfl (by omega) (by omega) (by omega)
    (fun g' q hq => hq.2.2.1)
    (fun s g1 g' cs hj hs => by
      obtain ⟨v, R, t1, t2⟩ := hj.tv
      have hnx := hs.next
      exact ⟨fun i hi hne => by rw [hs.old i (by omega)]; exact hj.old i hi hne, ⟨v, R, by rw [hs.old _ (by omega)]; exact t1, t2.old (fun i hi _ => hs.old i (by omega)) (by omega)⟩, by have := hj.up; omega, by have := hj.len; omega⟩)
    (fun s g1 g' cs hj hx => by
      obtain ⟨v, R, t1, t2⟩ := hj.tv
      have := hj.up
      have hnx := hx.next
      exact ⟨fun i hi hne => by rw [hx.old i (by omega)]; exact hj.old i hi hne, ⟨v, R, by rw [hx.old _ (by omega)]; exact t1, t2.old (fun i hi h => hx.old i h) (by omega)⟩, by omega, by have := hj.len; omega⟩)
    (fun s g1 g' cs q hj hs ho => ⟨ho.1, ho.2.1, ho.2.2.1, fun v e => ho.2.2.2 v (by rw [← hs.old _ (by omega)]; exact e)⟩)
    (fun s g1 g' cs q hj hx ho => ⟨ho.1, ho.2.1, ho.2.2.1, fun v e => ho.2.2.2 v (by rw [← hx.old _ (by have := hj.up; omega)]; exact e)⟩)
    (fun s g1 g' cs hj hx hlt => ⟨by omega, by omega, by omega, fun v e => by
      obtain ⟨v', R, t1, t2⟩ := hj.tv
      rw [hx.old _ (by omega), t1] at e
      simp only [Option.some.injEq, AObj.row.injEq, and_true, List.cons.injEq] at e
      subst e
      exact neB_of t2.c (by right; omega)⟩)
    (fun g' ho hfg hup => ⟨⟨fun i hi _ => ho i hi, ⟨nilS, _, by rw [ho _ (by omega)]; exact hp2, .nil⟩, hup, Nat.zero_le _⟩, fun q hq _ hne => ⟨hq, by omega, hne, fun v e => by
      rw [ho _ (by omega), hp2] at e
      simp only [Option.some.injEq, AObj.row.injEq, and_true, List.cons.injEq] at e
      subst e
      intro b m c e'
      cases e'⟩⟩)
    (fun m g1 s c pu py pc U hm it hb hok hj hfg hr1 => by
      obtain ⟨m, rfl⟩ : ∃ p, m = p + 1 := ⟨m - 1, by omega⟩
      rw [call_yield]
      obtain ⟨v, R, hp, gr⟩ := hj.tv
      have hup := hj.up
      have hlen := hj.len
      have hloop1 : g1.get (h.next + 4) = some (.loop r) := by rw [hj.old _ (by omega) (by omega)]; exact hloop
      have hpb := AHeap.lt_of_get hb
      suffices key : ∃ e g', roundA Try.prog (call m) m (h.next + 4) [.agg ⟨tarr S c⟩] g1 = some (.bool (goesOn e), g') ∧ (e = .norm ∧ JW h2 (h.next + 1) (wrongStep S s c).1 g' ∧ (∀ q, h2.next ≤ q → q < g1.next → NeB v q → g'.get q = g1.get q) ∧ (∃ v', g'.get (h.next + 1) = some (.row [v'] true 0) ∧ ∀ q, q < g1.next → NeB v q → NeB v' q) ∧ g'.floor = h2.floor ∧ g1.next ≤ g'.next ∧ g'.next ≤ g1.next + 200) by
        obtain ⟨e, g', k1, rfl, k2, k3, ⟨v', k4, k5⟩, k6, k7, k8⟩ := key
        refine ⟨g', k1, k2, fun q cs hq ho => ?_, by rw [k3 _ (by omega) hpb (neB_of gr.c (by left; omega))]; exact hb, k6, k7, by omega⟩
        obtain ⟨o1, o2, o3, o4⟩ := ho
        have hlt : q < g1.next := by obtain ⟨w, gr, e⟩ := hq; exact AHeap.lt_of_get e
        have hne := o4 v hp
        refine ⟨by obtain ⟨w, gr, e⟩ := hq; exact ⟨w, gr, by rw [k3 q o1 hlt hne]; exact e⟩, o1, o2, o3, fun v2 e => ?_⟩
        rw [k4] at e
        simp only [Option.some.injEq, AObj.row.injEq, and_true, List.cons.injEq] at e
        subst e
        exact k5 q hlt hne
      refine round_run (f := f0) hloop1 r1 r2 (by rw [r3]; rfl) (by omega) r4 r5 ?_
      have hset : setFr f0 r.params.toList [.agg ⟨tarr S c⟩] = upd f0 10 (.agg ⟨tarr S c⟩) := by rw [r3]; rfl
      rw [hset]
      simp only [rn0, rn1, rn2, rn3, rn4, rn5, rn6, rn7, rn8, if_true, if_false, Nat.le_refl, true_and, and_true, decide_true, decide_false, Bool.not_true, Bool.not_false, reduceIte, Nat.reduceEqDiff, Nat.reduceAdd, Nat.reduceMul, Nat.reduceSub, Nat.reduceLeDiff, Nat.reduceLT, ra96_0]
      refine step_new (vs := tarr S c) (by omega) (by omega) rfl (by simp only [rn0, rn1, rn2, rn3, rn4, rn5, rn6, rn7, rn8, if_true, if_false, Nat.le_refl, true_and, and_true, decide_true, decide_false, Bool.not_true, Bool.not_false, reduceIte, Nat.reduceEqDiff, Nat.reduceAdd, Nat.reduceMul, Nat.reduceSub, Nat.reduceLeDiff, Nat.reduceLT]; rfl) tarr_one tarr_len rfl fun g2 hx2 => ?_
      have n2 := hx2.next
      have f2 := hx2.floor
      simp only [rn0, rn1, rn2, rn3, rn4, rn5, rn6, rn7, rn8, if_true, if_false, Nat.le_refl, true_and, and_true, decide_true, decide_false, Bool.not_true, Bool.not_false, reduceIte, Nat.reduceEqDiff, Nat.reduceAdd, Nat.reduceMul, Nat.reduceSub, Nat.reduceLeDiff, Nat.reduceLT]
      refine ⟨by rw [hx2.old _ (by omega)]; exact hloop1, by omega, fun g3 hp3 => ?_⟩
      have n3 := hp3.next
      have f3 := hp3.floor
      have g3old : ∀ i, i < g1.next → i ≠ h.next + 4 → g3.get i = g1.get i := fun i hi hne => by rw [hp3.old i hne, hx2.old i hi]
      have g3b : ∀ i, i < h.next → g3.get i = h.get i := fun i hi => by rw [g3old i (by omega) (by omega), hj.old i (by omega) (by omega), hbase i hi]
      have hy3 := hy.mono (AHeap.subOf g3b)
      have hp3' : g3.get (h.next + 1) = some (.row [v] true 0) := by rw [g3old _ (by omega) (by omega)]; exact hp
      have rw3 : Row g3 h.next (wkL S wv vv sv nilS) := ⟨true, 0, by rw [g3old _ (by omega) (by omega), hj.old _ (by omega) (by omega)]; exact hw2⟩
      have rc3 : Row g3 g1.next (tarr S c) := by
        obtain ⟨w, gr, e⟩ := hx2.row
        exact ⟨w, gr, by rw [hp3.old _ (by omega)]; exact e⟩
      have hcu : InU S c := fun i hi => hok.1 i hi
      have l3 : g3.get (h.next + 4) = some (.loop { r with state := .busy }) := hp3.get
      simp only [rn0, rn1, rn2, rn3, rn4, rn5, rn6, rn7, rn8, if_true, if_false, Nat.le_refl, true_and, and_true, decide_true, decide_false, Bool.not_true, Bool.not_false, reduceIte, Nat.reduceEqDiff, Nat.reduceAdd, Nat.reduceMul, Nat.reduceSub, Nat.reduceLeDiff, Nat.reduceLT, rb96_0, c1, c3, rw3.ld, wkg, Nat.zero_add, Nat.add_zero, Cells.len hy3.s]
      refine W_loop S.ns (fun k f g ms => (∃ x, (∀ i, i < g3.next → g.get i = g3.get i) ∧ g.floor = g3.floor ∧ g3.next ≤ g.next ∧ g.next ≤ g3.next + 3 * k ∧ GrowC g3.next g x 1 (pickL (wrS S c) k).length (fun i _ => .int .i64 (atL (pickL (wrS S c) k) i)) ∧ f 5 = x) ∧ ms = [] ∧ f 1 = .pointer (some ⟨h.next, 0, none⟩) ∧ f 3 = .pointer (some ⟨h.next + 1, 0, none⟩) ∧ f 4 = .pointer (some ⟨g1.next, 0, none⟩) ∧ f 13 = sv ∧ f 14 = .int .i64 (S.ns : Int) ∧ f 15 = .int .i64 (k : Int)) (by simp; omega) ?_ ?_ ?_
      · simp only [rn0, rn1, rn2, rn3, rn4, rn5, rn6, rn7, rn8, if_true, if_false, Nat.le_refl, true_and, and_true, decide_true, decide_false, Bool.not_true, Bool.not_false, reduceIte, Nat.reduceEqDiff, Nat.reduceAdd, Nat.reduceMul, Nat.reduceSub, Nat.reduceLeDiff, Nat.reduceLT, c1, c3]
        first | exact ⟨⟨nilS, fun _ _ => trivial, by omega, .nil, rfl⟩, rfl⟩ | exact ⟨⟨nilS, fun _ _ => rfl, rfl, by omega, by omega, .nil, rfl⟩, rfl⟩ | exact ⟨nilS, fun _ _ => trivial, by omega, .nil, rfl⟩ | exact ⟨nilS, fun _ _ => trivial, .nil, rfl⟩ | trace_state
      · rintro k f g ms hk ⟨⟨x, ho, hfg', hup', hnx, gv, p5⟩, rfl, p1, p3, p4, p13, p14, p15⟩
        have hk' : (k : Int) < (S.ns : Int) := by omega
        have hw : wrapF .i64 ((k : Int) + 1) = ((k + 1 : Nat) : Int) := by rw [wrap_in (by omega) (by omega)]; rfl
        have sg : Sub All g3 g := AHeap.subOf ho
        have hyg := hy3.mono sg
        have hlk := pick_len (p := wrS S c) k
        simp only [rn0, rn1, rn2, rn3, rn4, rn5, rn6, rn7, rn8, if_true, if_false, Nat.le_refl, true_and, and_true, decide_true, decide_false, Bool.not_true, Bool.not_false, reduceIte, Nat.reduceEqDiff, Nat.reduceAdd, Nat.reduceMul, Nat.reduceSub, Nat.reduceLeDiff, Nat.reduceLT, p1, p3, p4, p5, p13, p14, p15, hk', Cells.idx hyg.s hk, samps_ld hyg.s hk]
        refine step_row (cs := [.int .i64 0, .int .i64 0, .int .i64 0]) (by omega) rfl rfl fun ga hxa => ?_
        have na := hxa.next
        have fa := hxa.floor
        simp only [rn0, rn1, rn2, rn3, rn4, rn5, rn6, rn7, rn8, if_true, if_false, Nat.le_refl, true_and, and_true, decide_true, decide_false, Bool.not_true, Bool.not_false, reduceIte, Nat.reduceEqDiff, Nat.reduceAdd, Nat.reduceMul, Nat.reduceSub, Nat.reduceLeDiff, Nat.reduceLT, p1, p3, p4, p5, p13, p14, p15]
        refine step_store (b := g.next) (off := 0) (vs := [.int .i64 (S.sv k), .int .i64 (S.sh k), .int .i64 (S.sk k)]) rfl hxa.get (by omega) (by omega) rfl rfl rfl (by simp) fun gb hsb => ?_
        rw [splice_all (by rfl)] at hsb
        have nb := hsb.next
        have fb := hsb.floor
        have oldb : ∀ i, i < g.next → gb.get i = g.get i := fun i hi => by rw [hsb.old i (by omega), hxa.old i hi]
        have subb : Sub All g gb := AHeap.subOf oldb
        have rwb := (rw3.mono sg).mono subb
        have rcb := (rc3.mono sg).mono subb
        have ei := isRightW_c (n := m) (h := gb) (u := c) (k := k) (by omega) (by omega) (hyg.mono subb) (tv := nilS) rfl hG hcu hk
        have gvb : GrowC g3.next gb x 1 (pickL (wrS S c) k).length (fun i _ => .int .i64 (atL (pickL (wrS S c) k) i)) := GrowC.at' gv fun a k c e => oldb _ (gv.block e).2
        by_cases hR : RightS S c k
        · have hp0 : pickL (wrS S c) (k + 1) = pickL (wrS S c) k := pick_no fun q => q hR
          simp only [rn0, rn1, rn2, rn3, rn4, rn5, rn6, rn7, rn8, if_true, if_false, Nat.le_refl, true_and, and_true, decide_true, decide_false, Bool.not_true, Bool.not_false, reduceIte, Nat.reduceEqDiff, Nat.reduceAdd, Nat.reduceMul, Nat.reduceSub, Nat.reduceLeDiff, Nat.reduceLT, p1, p3, p4, p5, p13, p14, p15, rwb.whole (n := 8) rfl, rcb.whole tarr_len, hsb.row.whole (n := 3) rfl, ei, eq_true hR, hw]
          rw [hp0]
          have hfin := And.intro (fun i (hi : i < g3.next) => (by rw [oldb i (by omega), ho i hi] : gb.get i = g3.get i)) (And.intro (by omega : gb.floor = g3.floor) (And.intro (by omega : g3.next ≤ gb.next) (And.intro (by omega : gb.next ≤ g3.next + 3 * (k + 1)) (And.intro gvb (rfl : x = x)))))
          first | exact ⟨x, hfin⟩ | exact ⟨⟨x, hfin⟩, rfl⟩
        · have hp1 : pickL (wrS S c) (k + 1) = pickL (wrS S c) k ++ [(k : Int)] := pick_yes hR
          simp only [rn0, rn1, rn2, rn3, rn4, rn5, rn6, rn7, rn8, if_true, if_false, Nat.le_refl, true_and, and_true, decide_true, decide_false, Bool.not_true, Bool.not_false, reduceIte, Nat.reduceEqDiff, Nat.reduceAdd, Nat.reduceMul, Nat.reduceSub, Nat.reduceLeDiff, Nat.reduceLT, p1, p3, p4, p5, p13, p14, p15, rwb.whole (n := 8) rfl, rcb.whole tarr_len, hsb.row.whole (n := 3) rfl, ei, eq_false hR, sl_int]
          refine step_slice (by omega) rfl fun gc hxc => ?_
          have nc := hxc.next
          have fc := hxc.floor
          have gvc : GrowC g3.next gc x 1 (pickL (wrS S c) k).length (fun i _ => .int .i64 (atL (pickL (wrS S c) (k + 1)) i)) := (gvb.sub hxc.sub).congr fun i j hi hj => by rw [hp1, at_append hi]
          obtain ⟨x', gd, ed, evd, gvd, hkd⟩ := gvc.append (bytes := 8) (cap := 1) (by omega) (by omega) (by omega) hxc.get rfl rfl (fun j hj => by
            obtain rfl : j = 0 := by omega
            rw [hp1, at_last]; rfl) (by simp [maxBytes]; omega) (by simp [maxBytes]; omega)
          have nd := hkd.next
          have fd := hkd.floor
          have hlen1 : (pickL (wrS S c) (k + 1)).length = (pickL (wrS S c) k).length + 1 := by rw [hp1, List.length_append, List.length_singleton]
          simp only [rn0, rn1, rn2, rn3, rn4, rn5, rn6, rn7, rn8, if_true, if_false, Nat.le_refl, true_and, and_true, decide_true, decide_false, Bool.not_true, Bool.not_false, reduceIte, Nat.reduceEqDiff, Nat.reduceAdd, Nat.reduceMul, Nat.reduceSub, Nat.reduceLeDiff, Nat.reduceLT, p1, p3, p4, p5, p13, p14, p15, ed, hw]
          rw [hlen1]
          have hfin := And.intro (fun i (hi : i < g3.next) => (by rw [hkd.old i (by omega) fun bb kk qq e => by have := (gvc.block e).1; omega, hxc.old i (by omega), oldb i (by omega), ho i hi] : gd.get i = g3.get i)) (And.intro (by omega : gd.floor = g3.floor) (And.intro (by omega : g3.next ≤ gd.next) (And.intro (by omega : gd.next ≤ g3.next + 3 * (k + 1)) (And.intro gvd (rfl : x' = x')))))
          first | exact ⟨x', hfin⟩ | exact ⟨⟨x', hfin⟩, rfl⟩
      · rintro f g ms ⟨⟨x, ho, hfg', hup', hnx, gv, p5⟩, rfl, p1, p3, p4, p13, p14, p15⟩
        have hq3 : g.get (h.next + 1) = some (.row [v] true 0) := by rw [ho _ (by omega)]; exact hp3'
        have rq3 : Row g (h.next + 1) [v] := ⟨_, _, hq3⟩
        have lg : g.get (h.next + 4) = some (.loop { r with state := .busy }) := by rw [ho _ (by omega)]; exact l3
        have xone := gv.one
        have wrg : WrG (h2.next + 2) g v s R := gr.old (fun i h1 h2 => by rw [ho i (by omega), g3old i h2 (by omega)]) (by omega)
        simp only [rn0, rn1, rn2, rn3, rn4, rn5, rn6, rn7, rn8, if_true, if_false, Nat.le_refl, true_and, and_true, decide_true, decide_false, Bool.not_true, Bool.not_false, reduceIte, Nat.reduceEqDiff, Nat.reduceAdd, Nat.reduceMul, Nat.reduceSub, Nat.reduceLeDiff, Nat.reduceLT, p1, p3, p4, p5, p13, p14, p15, Int.lt_irrefl, rq3.ld, Nat.zero_add, List.getElem?_cons_zero, sl_list xone]
        refine step_slice (by omega) (by simp [allB, xone]) fun ga hxa => ?_
        have na := hxa.next
        have fa := hxa.floor
        obtain ⟨v', gb, eb, wrb, ob, evb, nb, fb, oldb⟩ := wrg.push (w := wrongL S c) (by omega) (by omega) (by omega) hxa gv.cells xone (fun y k q e => by
          have := gv.block e
          exact ⟨by omega, by omega, neB_of gr.c (by right; omega)⟩) (by have := hj.len; omega)
        have neP : NeB v (h.next + 1) := neB_of gr.c (by left; omega)
        have neL : NeB v (h.next + 4) := neB_of gr.c (by left; omega)
        simp only [rn0, rn1, rn2, rn3, rn4, rn5, rn6, rn7, rn8, if_true, if_false, Nat.le_refl, true_and, and_true, decide_true, decide_false, Bool.not_true, Bool.not_false, reduceIte, Nat.reduceEqDiff, Nat.reduceAdd, Nat.reduceMul, Nat.reduceSub, Nat.reduceLeDiff, Nat.reduceLT, p1, p3, p4, p5, p13, p14, p15, eb]
        refine step_store (b := h.next + 1) (off := 0) (vs := [v']) (by rfl) (by rw [oldb _ (by omega) neP]; exact hq3) (by omega) (by omega) (by rw [evb]; rfl) (by rw [evb]; rfl) rfl (by simp) fun g6 hs6 => ?_
        rw [splice1] at hs6
        have n6 := hs6.next
        have f6 := hs6.floor
        simp only [rn0, rn1, rn2, rn3, rn4, rn5, rn6, rn7, rn8, if_true, if_false, Nat.le_refl, true_and, and_true, decide_true, decide_false, Bool.not_true, Bool.not_false, reduceIte, Nat.reduceEqDiff, Nat.reduceAdd, Nat.reduceMul, Nat.reduceSub, Nat.reduceLeDiff, Nat.reduceLT]
        refine ⟨by rw [hs6.old _ (by omega), oldb _ (by omega) neL]; exact lg, by omega, by omega, fun g7 hp7 => ⟨?_, ?_, ?_, by rw [hp7.floor]; omega, by rw [hp7.next]; omega, by rw [hp7.next]; omega⟩⟩
        · have n7 := hp7.next
          have hst : (wrongStep S s c).1 = s ++ [wrongL S c] := rfl
          rw [hst]
          have old6 : ∀ i, i < g1.next → i ≠ h.next + 1 → i ≠ h.next + 4 → NeB v i → g6.get i = g1.get i := fun i hi a1 a2 hne => by rw [hs6.old i a1, oldb i (by omega) hne, ho i (by omega), g3old i hi a2]
          refine ⟨fun i hi hne => ?_, ⟨v', _, ?_, wrb.old (fun i h1 h2 => by rw [hp7.old i (by omega), hs6.old i (by omega)]) (by omega)⟩, by omega, by rw [List.length_append, List.length_singleton]; omega⟩
          · by_cases e : i = h.next + 4
            · subst e; rw [hp7.get, r6, ← hj.old _ hi hne]; exact hloop1.symm
            · rw [hp7.old i e, old6 i (by omega) hne e (neB_of gr.c (by left; omega))]; exact hj.old i hi hne
          · rw [hp7.old _ (by omega)]; exact hs6.get
        · intro i hi hlt hne
          rw [hp7.old i (by omega), hs6.old i (by omega), oldb i (by omega) hne, ho i (by omega), g3old i hlt (by omega)]
        · refine ⟨v', by rw [hp7.old _ (by omega)]; exact hs6.get, fun q hq _ b m c' e => ?_⟩
          rw [evb] at e
          cases e
          show q ≠ g.next + 1
          omega)
    (by omega)
  obtain ⟨v5, g5, e5, j5, fl5, u5, n5⟩ := hit
  rw [runL_wrong] at j5
  simp only [List.nil_append] at j5
  change JW h2 (h.next + 1) (allW S) g5 at j5
  obtain ⟨v, R, t1, t2⟩ := j5.tv
  have hup := j5.up
  refine ⟨v5, g5, .norm, by rw [e2]; exact e5, by omega, by omega, by rw [r6, j5.old _ (by omega) (by omega)]; exact hloop, fun g6 hp6 => ?_⟩
  have n6 := hp6.next
  have f6 := hp6.floor
  have t6 : Row g6 (h.next + 1) [v] := ⟨true, 0, by rw [hp6.old _ (by omega)]; exact t1⟩
  have m6 : g6.get (h.next + 3) = some .deferred := by rw [hp6.old _ (by omega), j5.old _ (by omega) (by omega)]; exact hmark
  simp only [rn0, rn1, rn2, rn3, rn4, rn5, rn6, rn7, rn8, if_true, if_false, Nat.le_refl, true_and, and_true, decide_true, decide_false, Bool.not_true, Bool.not_false, reduceIte, Nat.reduceEqDiff, Nat.reduceAdd, Nat.reduceMul, Nat.reduceSub, Nat.reduceLeDiff, Nat.reduceLT, c3, t6.ld, Nat.zero_add, List.getElem?_cons_zero]
  refine ret_mark (.inr rfl) m6 (by omega) (by omega) fun g8 hp8 => ?_
  have n8 := hp8.next
  have f8 := hp8.floor
  have t8 : WrG (h2.next + 2) g8 v (allW S) R := t2.old (fun i h1 h2 => by rw [hp8.old i (by omega), hp6.old i (by omega)]) (by omega)
  simp only [rn0, rn1, rn2, rn3, rn4, rn5, rn6, rn7, rn8, if_true, if_false, Nat.le_refl, true_and, and_true, decide_true, decide_false, Bool.not_true, Bool.not_false, reduceIte, Nat.reduceEqDiff, Nat.reduceAdd, Nat.reduceMul, Nat.reduceSub, Nat.reduceLeDiff, Nat.reduceLT]
  refine ⟨⟨R, t8.c.cells, fun k hk => (t8.r k hk).1⟩, t8.c.one, fun i hi => ?_, by omega, by omega, by omega⟩
  rw [hp8.old i (by omega), hp6.old i (by omega), j5.old i (by omega) (by omega), hbase i hi]
end Go.Vm.St

namespace Go.Vm
open Go.Vm.Vat
theorem leaveN_up {N : Nat} {P : List Int → Prop} {m : Nat} {l : List Int} (h : leaveN N P m = some l) : ∀ d, leaveN N P (m + d) = some l
  | 0 => h
  | d + 1 => by
    have := leaveN_up h d
    show leaveN N P (m + d + 1) = some l
    simp only [leaveN, this]
def MarksR (B : Nat) (ms : List Nat) (g : AHeap) : Prop := ms.Nodup ∧ ∀ d, d ∈ ms → B ≤ d ∧ d < g.next ∧ g.get d = some .deferred
theorem unmark_all : ∀ (ms : List Nat) (h : AHeap), ms.Nodup → (∀ d, d ∈ ms → h.floor ≤ d ∧ h.get d = some .deferred) → h.next ≤ far → ∃ h1, unmark ms h = some h1 ∧ (∀ i, i ∉ ms → h1.get i = h.get i) ∧ h1.next = h.next ∧ h1.floor = h.floor
  | [], h, _, _, _ => ⟨h, rfl, fun _ _ => rfl, rfl, rfl⟩
  | d :: ms, h, hn, hd, hf => by
    rw [List.nodup_cons] at hn
    obtain ⟨d1, d2⟩ := hd d (by simp)
    have hp := put_with (AHeap.lt_of_get d2) hf none
    obtain ⟨h1, e1, o1, n1, f1⟩ := unmark_all ms (h.with d none) hn.2 (fun x hx => by
      have hne : x ≠ d := fun e => hn.1 (e ▸ hx)
      obtain ⟨q1, q2⟩ := hd x (by simp [hx])
      exact ⟨q1, by rw [hp.old x hne]; exact q2⟩) hf
    refine ⟨h1, ?_, fun i hi => ?_, n1, f1⟩
    · simp only [unmark, d2, d1, if_true]
      exact e1
    · rw [List.mem_cons, not_or] at hi
      rw [o1 i hi.2, hp.old i hi.1]
theorem ret_marks {rs : List RS} {R : Value → AHeap → Prop} {f : Fr} {h : AHeap} {ms : List Nat} (hn : ms.Nodup) (hd : ∀ d, d ∈ ms → h.floor ≤ d ∧ h.get d = some .deferred) (hf : h.next ≤ far)
    (hr : ∀ h1, (∀ i, i ∉ ms → h1.get i = h.get i) → h1.next = h.next → h1.floor = h.floor → ∃ v, resV f h1 rs = some v ∧ R v h1) : retQ rs R .ret f h ms := by
  obtain ⟨h1, e1, o1, n1, f1⟩ := unmark_all ms h hn hd hf
  obtain ⟨v, q1, q2⟩ := hr h1 o1 n1 f1
  exact ⟨trivial, h1, v, e1, q1, q2⟩
end Go.Vm
namespace Go.Vm.St
open Go.Proofs Go.Vm.Vat
set_option linter.unusedSimpArgs false
set_option linter.unusedVariables false
set_option maxRecDepth 10000
variable {n : Nat} {h : AHeap}
def idxF (a : Nat → Int) (x : Int) : Nat → Option Nat
  | 0 => none
  | k + 1 => match idxF a x k with
    | some v => some v
    | none => if x = a k then some k else none
theorem idxF_none {a : Nat → Int} {x : Int} : ∀ {k : Nat}, idxF a x k = none ↔ ∀ i, i < k → ¬ x = a i
  | 0 => ⟨fun _ i hi => absurd hi (Nat.not_lt_zero _), fun _ => rfl⟩
  | k + 1 => by
    have ih := idxF_none (a := a) (x := x) (k := k)
    constructor
    · intro h i hi
      rw [idxF] at h
      cases e : idxF a x k with
      | some v => rw [e] at h; cases h
      | none =>
        rw [e] at h
        by_cases c : i = k
        · subst c
          intro q
          simp only [if_pos q] at h
          cases h
        · exact ih.1 e i (by omega)
    · intro h
      rw [idxF, ih.2 fun i hi => h i (by omega)]
      exact if_neg (h k (by omega))
theorem idxF_at {a : Nat → Int} {x : Int} {k m : Nat} (hk : k < m) (h0 : idxF a x k = none) (h1 : x = a k) : idxF a x m = some k := by
  have up : ∀ d, idxF a x (k + 1 + d) = some k := by
    intro d
    induction d with
    | zero => show idxF a x (k + 1) = some k; rw [idxF, h0]; exact if_pos h1
    | succ d ih => show idxF a x (k + 1 + d + 1) = some k; rw [idxF, ih]
  have := up (m - (k + 1))
  rw [show k + 1 + (m - (k + 1)) = m by omega] at this
  exact this
def s133 : SCode := (.seq (.ops [⟨(some 4), none, .mov (.const (.int .i64 (0)))⟩]) (.seq (.seq (.ops [⟨(some 6), none, .mov (T 0)⟩, ⟨(some 7), none, .len (T 6)⟩, ⟨(some 8), none, .mov (.const (.int .i64 (0)))⟩]) (.block 0 (.loop (.seq (.ops [⟨(some 9), none, .int2 .lss (T 8) (T 7)⟩]) (.seq (.cond (T 9) .skip (.exit 0)) (.seq (.block 1 (.seq (.ops [⟨(some 10), none, .mov (T 8)⟩, ⟨(some 5), none, .mov (T 10)⟩]) (.seq (.ops [⟨(some 11), none, .mov (T 1)⟩, ⟨(some 12), none, .mov (T 0)⟩, ⟨(some 13), none, .mov (T 5)⟩, ⟨(some 14), none, .idxSl 1 (T 12) (T 13)⟩, ⟨(some 15), none, .load1 (T 14)⟩, ⟨(some 16), none, .int2 .eql (T 11) (T 15)⟩]) (.cond (T 16) (.seq (.ops [⟨(some 17), none, .mov (T 5)⟩, ⟨(some 4), none, .mov (T 17)⟩]) .ret) .skip)))) (.ops [⟨(some 18), none, .int2 .add (T 8) (.const (.int .i64 (1)))⟩, ⟨(some 8), none, .mov (T 18)⟩]))))))) (.seq (.ops [⟨(some 4), none, .mov (.const (.int .i64 (-1)))⟩]) .ret)))
theorem fok133 : FnOk Try.prog 133 19 s133 [.tmp 4] := ⟨Try.f133, _, Try.func133, rfl, Try.ntmps133, by kernel_rfl, by kernel_rfl⟩
theorem index_c (hn : 50 ≤ n) (hr : h.next < far) {v : Value} {m : Nat} {a : Nat → Int} (hv : Ints h v m a) (hm : m ≤ 40) (x : Int) :
    call n (.func (.func 133) #[] #[]) [v, .int .i64 x] h = some (.int .i64 (optI (idxF a x m) (-1)), h) := by
  obtain ⟨n, rfl⟩ : ∃ p, n = p + 1 := ⟨n - 1, by omega⟩
  refine call_plain0 fok133 rfl rfl (by simp) rfl ?_
  have hv : Ints h.shutAll v m a := Cells.shut hv
  have hr : h.shutAll.next < far := hr
  generalize h.shutAll = h at hv hr
  simp only [rn0, rn1, rn2, rn3, rn4, rn5, rn6, rn7, rn8, if_true, if_false, Nat.le_refl, true_and, and_true, decide_true, decide_false, Bool.not_true, Bool.not_false, reduceIte, Nat.reduceEqDiff, Nat.reduceAdd, Nat.reduceMul, Nat.reduceSub, Nat.reduceLeDiff, Nat.reduceLT, s133, Cells.len hv]
  refine W_loop m (fun k f g ms => (g = h ∧ idxF a x k = none) ∧ ms = [] ∧ f 0 = v ∧ f 1 = .int .i64 x ∧ f 7 = .int .i64 (m : Int) ∧ f 8 = .int .i64 (k : Int)) (by simp; omega) ?_ ?_ ?_
  · simp only [rn0, rn1, rn2, rn3, rn4, rn5, rn6, rn7, rn8, if_true, if_false, Nat.le_refl, true_and, and_true, decide_true, decide_false, Bool.not_true, Bool.not_false, reduceIte, Nat.reduceEqDiff, Nat.reduceAdd, Nat.reduceMul, Nat.reduceSub, Nat.reduceLeDiff, Nat.reduceLT]
    first | done | trivial | exact ⟨rfl, rfl⟩
  · rintro k f g ms hk ⟨⟨rfl, h0⟩, rfl, p0, p1, p7, p8⟩
    have hk' : (k : Int) < (m : Int) := by omega
    have hw : wrapF .i64 ((k : Int) + 1) = ((k + 1 : Nat) : Int) := by rw [wrap_in (by omega) (by omega)]; rfl
    by_cases c : x = a k
    · have hI := idxF_at hk h0 c
      have q : optI (idxF a x m) (-1) = (k : Int) := by rw [hI]; rfl
      rw [q]
      simp only [rn0, rn1, rn2, rn3, rn4, rn5, rn6, rn7, rn8, if_true, if_false, Nat.le_refl, true_and, and_true, decide_true, decide_false, Bool.not_true, Bool.not_false, reduceIte, Nat.reduceEqDiff, Nat.reduceAdd, Nat.reduceMul, Nat.reduceSub, Nat.reduceLeDiff, Nat.reduceLT, p0, p1, p7, p8, hk', Cells.idx hv hk, Cells.ld hv hk Nat.zero_lt_one, eq_true c]
    · have h1 : idxF a x (k + 1) = none := by rw [idxF, h0]; exact if_neg c
      simp only [rn0, rn1, rn2, rn3, rn4, rn5, rn6, rn7, rn8, if_true, if_false, Nat.le_refl, true_and, and_true, decide_true, decide_false, Bool.not_true, Bool.not_false, reduceIte, Nat.reduceEqDiff, Nat.reduceAdd, Nat.reduceMul, Nat.reduceSub, Nat.reduceLeDiff, Nat.reduceLT, p0, p1, p7, p8, hk', Cells.idx hv hk, Cells.ld hv hk Nat.zero_lt_one, eq_false c, hw]
      first | exact ⟨⟨rfl, h1⟩, rfl⟩ | exact ⟨rfl, h1⟩ | exact h1
  · rintro f g ms ⟨⟨rfl, h0⟩, rfl, p0, p1, p7, p8⟩
    have q : optI (idxF a x m) (-1) = -1 := by rw [h0]; rfl
    rw [q]
    simp only [rn0, rn1, rn2, rn3, rn4, rn5, rn6, rn7, rn8, if_true, if_false, Nat.le_refl, true_and, and_true, decide_true, decide_false, Bool.not_true, Bool.not_false, reduceIte, Nat.reduceEqDiff, Nat.reduceAdd, Nat.reduceMul, Nat.reduceSub, Nat.reduceLeDiff, Nat.reduceLT, p0, p1, p7, p8, Int.lt_irrefl]
def s126 : SCode := (.seq (.ops [⟨(some 4), none, .mov (.const (.bool false))⟩]) (.seq (.ops [⟨(some 5), none, .mov (T 0)⟩, ⟨(some 6), none, .mov (T 1)⟩, ⟨(some 7), none, .call (.func 133) [(T 5), (T 6)]⟩, ⟨(some 8), none, .int2 .geq (T 7) (.const (.int .i64 (0)))⟩, ⟨(some 4), none, .mov (T 8)⟩]) .ret))
theorem fok126 : FnOk Try.prog 126 9 s126 [.tmp 4] := ⟨Try.f126, _, Try.func126, rfl, Try.ntmps126, by kernel_rfl, by kernel_rfl⟩
open Classical in
theorem contains_c (hn : 60 ≤ n) (hr : h.next < far) {v : Value} {m : Nat} {a : Nat → Int} (hv : Ints h v m a) (hm : m ≤ 40) (x : Int) :
    call n (.func (.func 126) #[] #[]) [v, .int .i64 x] h = some (.bool (decide (∃ i, i < m ∧ x = a i)), h) := by
  obtain ⟨n, rfl⟩ : ∃ p, n = p + 1 := ⟨n - 1, by omega⟩
  refine call_plain0 fok126 rfl rfl (by simp) rfl ?_
  have hv : Ints h.shutAll v m a := Cells.shut hv
  have hr : h.shutAll.next < far := hr
  generalize h.shutAll = h at hv hr
  have ei := index_c (n := n) (h := h) (by omega) hr hv hm x
  cases hI : idxF a x m with
  | none =>
    have hq : ¬ ∃ i, i < m ∧ x = a i := fun ⟨i, i1, i2⟩ => idxF_none.1 hI i i1 i2
    have hz : ¬ (0 : Int) ≤ optI none (-1) := by decide
    rw [hI] at ei
    rw [decide_eq_false hq]
    simp only [rn0, rn1, rn2, rn3, rn4, rn5, rn6, rn7, rn8, if_true, if_false, Nat.le_refl, true_and, and_true, decide_true, decide_false, Bool.not_true, Bool.not_false, reduceIte, Nat.reduceEqDiff, Nat.reduceAdd, Nat.reduceMul, Nat.reduceSub, Nat.reduceLeDiff, Nat.reduceLT, s126, ei, hz]
  | some k =>
    have hq : ∃ i, i < m ∧ x = a i := by
      apply Classical.byContradiction
      intro hn
      have := idxF_none.2 (fun i hi q => hn ⟨i, hi, q⟩ : ∀ i, i < m → ¬ x = a i)
      rw [hI] at this
      cases this
    have hz : (0 : Int) ≤ optI (some k) (-1) := by show (0 : Int) ≤ (k : Int); omega
    rw [hI] at ei
    rw [decide_eq_true hq]
    simp only [rn0, rn1, rn2, rn3, rn4, rn5, rn6, rn7, rn8, if_true, if_false, Nat.le_refl, true_and, and_true, decide_true, decide_false, Bool.not_true, Bool.not_false, reduceIte, Nat.reduceEqDiff, Nat.reduceAdd, Nat.reduceMul, Nat.reduceSub, Nat.reduceLeDiff, Nat.reduceLT, s126, ei, hz]
def s125 : SCode := (.seq (.ops [⟨(some 3), none, .mov (.const (.bool false))⟩]) (.seq (.ops [⟨(some 4), none, .load1 (T 1)⟩, ⟨(some 5), none, .mov (T 0)⟩, ⟨(some 6), none, .call (.func 126) [(T 4), (T 5)]⟩, ⟨(some 3), none, .mov (T 6)⟩]) .ret))
theorem fok125 : FnOk Try.prog 125 7 s125 [.tmp 3] := ⟨Try.f125, _, Try.func125, rfl, Try.ntmps125, by kernel_rfl, by kernel_rfl⟩
open Classical in
theorem isLeft_c (hn : 70 ≤ n) (hr : h.next + 2 < far) {v : Value} {m pc : Nat} {a : Nat → Int} (hp : Row h pc [v]) (hv : Ints h v m a) (hm : m ≤ 40) (x : Int) :
    call n (.func (.func 125) ⟨[]⟩ ⟨[.pointer (some ⟨pc, 0, none⟩)]⟩) [.int .i64 x] h = some (.bool (decide (∃ i, i < m ∧ x = a i)), h) := by
  obtain ⟨n, rfl⟩ : ∃ p, n = p + 1 := ⟨n - 1, by omega⟩
  refine call_plain (xs := []) (ys := [.pointer (some ⟨pc, 0, none⟩)]) fok125 rfl rfl (by simp) rfl ?_
  have hp := hp.mono (g := h.shutAll) fun _ _ _ _ _ h => h
  have hv : Ints h.shutAll v m a := Cells.shut hv
  have hr : h.shutAll.next + 2 < far := hr
  generalize h.shutAll = h at hp hv hr
  have ec := contains_c (n := n) (h := h) (by omega) (by omega) hv hm x
  simp only [rn0, rn1, rn2, rn3, rn4, rn5, rn6, rn7, rn8, if_true, if_false, Nat.le_refl, true_and, and_true, decide_true, decide_false, Bool.not_true, Bool.not_false, reduceIte, Nat.reduceEqDiff, Nat.reduceAdd, Nat.reduceMul, Nat.reduceSub, Nat.reduceLeDiff, Nat.reduceLT, s125, List.cons_append, List.nil_append, hp.ld, Nat.zero_add, List.getElem?_cons_zero, ec]
open Classical in
theorem everyI_c (hn : 50 ≤ n) (hr : h.next + 5 < far) {ok v : Value} {m : Nat} {a : Nat → Int} {p : Nat → Prop} (hm : m ≤ 40) (hv : Ints h v m a) (hok : ∀ g, Sub All h g → g.next ≤ h.next + 5 → ∀ i, i < m → call (n - 1) ok [.int .i64 (a i)] g = some (.bool (decide (p i)), g)) :
    call n (.func (.func 120) #[] #[]) [v, ok] h = some (.bool (decide (∀ i, i < m → p i)), h) := by
  obtain ⟨n, rfl⟩ : ∃ p, n = p + 1 := ⟨n - 1, by omega⟩
  rw [Nat.add_sub_cancel] at hok
  refine call_plain0 fok120 rfl rfl (by simp) rfl ?_
  have e0 := hok h.shutAll (fun _ _ _ _ _ h => h) (Nat.le_add_right _ _)
  have hv : Ints h.shutAll v m a := Cells.shut hv
  have hr : h.shutAll.next + 5 < far := hr
  generalize h.shutAll = h at hr e0 hv
  simp only [rn0, rn1, rn2, rn3, rn4, rn5, rn6, rn7, rn8, if_true, if_false, Nat.le_refl, true_and, and_true, decide_true, decide_false, Bool.not_true, Bool.not_false, reduceIte, Nat.reduceEqDiff, Nat.reduceAdd, Nat.reduceMul, Nat.reduceSub, Nat.reduceLeDiff, Nat.reduceLT, s120, Cells.len hv]
  refine W_loop m (fun k f g ms => (g = h ∧ ∀ i, i < k → p i) ∧ ms = [] ∧ f 1 = ok ∧ f 7 = v ∧ f 8 = .int .i64 (m : Int) ∧ f 9 = .int .i64 (k : Int)) (by simp; omega) ?_ ?_ ?_
  · simp only [rn0, rn1, rn2, rn3, rn4, rn5, rn6, rn7, rn8, if_true, if_false, Nat.le_refl, true_and, and_true, decide_true, decide_false, Bool.not_true, Bool.not_false, reduceIte, Nat.reduceEqDiff, Nat.reduceAdd, Nat.reduceMul, Nat.reduceSub, Nat.reduceLeDiff, Nat.reduceLT]
    first | exact ⟨⟨rfl, fun i hi => absurd hi (Nat.not_lt_zero _)⟩, rfl⟩ | exact ⟨fun i hi => absurd hi (Nat.not_lt_zero _), rfl⟩ | exact fun i hi => absurd hi (Nat.not_lt_zero _)
  · rintro k f g ms hk ⟨⟨rfl, h0⟩, rfl, p1, p7, p8, p9⟩
    have hk' : (k : Int) < (m : Int) := by omega
    have hw : wrapF .i64 ((k : Int) + 1) = ((k + 1 : Nat) : Int) := by rw [wrap_in (by omega) (by omega)]; rfl
    have ek := e0 k hk
    by_cases c : p k
    · have h1 : ∀ i, i < k + 1 → p i := fun i hi => by
        by_cases e : i = k
        · subst e; exact c
        · exact h0 i (by omega)
      rw [decide_eq_true c] at ek
      simp only [rn0, rn1, rn2, rn3, rn4, rn5, rn6, rn7, rn8, if_true, if_false, Nat.le_refl, true_and, and_true, decide_true, decide_false, Bool.not_true, Bool.not_false, reduceIte, Nat.reduceEqDiff, Nat.reduceAdd, Nat.reduceMul, Nat.reduceSub, Nat.reduceLeDiff, Nat.reduceLT, p1, p7, p8, p9, hk', Cells.idx hv hk, Cells.ld hv hk Nat.zero_lt_one, ek, hw]
      first | exact ⟨⟨rfl, h1⟩, rfl⟩ | exact ⟨rfl, h1⟩ | exact h1 | exact ⟨h1, rfl⟩
    · have hq : ¬ ∀ i, i < m → p i := fun q => c (q k hk)
      rw [decide_eq_false c] at ek
      rw [decide_eq_false hq]
      simp only [rn0, rn1, rn2, rn3, rn4, rn5, rn6, rn7, rn8, if_true, if_false, Nat.le_refl, true_and, and_true, decide_true, decide_false, Bool.not_true, Bool.not_false, reduceIte, Nat.reduceEqDiff, Nat.reduceAdd, Nat.reduceMul, Nat.reduceSub, Nat.reduceLeDiff, Nat.reduceLT, p1, p7, p8, p9, hk', Cells.idx hv hk, Cells.ld hv hk Nat.zero_lt_one, ek]
  · rintro f g ms ⟨⟨rfl, h0⟩, rfl, p1, p7, p8, p9⟩
    rw [decide_eq_true h0]
    simp only [rn0, rn1, rn2, rn3, rn4, rn5, rn6, rn7, rn8, if_true, if_false, Nat.le_refl, true_and, and_true, decide_true, decide_false, Bool.not_true, Bool.not_false, reduceIte, Nat.reduceEqDiff, Nat.reduceAdd, Nat.reduceMul, Nat.reduceSub, Nat.reduceLeDiff, Nat.reduceLT, p1, p7, p8, p9, Int.lt_irrefl]
end Go.Vm.St
