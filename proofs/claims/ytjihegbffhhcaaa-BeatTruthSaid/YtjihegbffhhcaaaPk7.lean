/- Texts of the proofs of this seat, put together: BtBnds, BtL1, BtLoad, BtATab, BtAMain. -/
import Derived.Test.YtjihegbffhhcaaaPk6
import Derived.ChangeArms
import Derived.Test.YtjihegbffhhcaaaProg

namespace Go.Vm.Bt
open Go.Proofs Go.Vm.Vat Go.Vm.L2
set_option linter.unusedSimpArgs false
set_option linter.unusedVariables false
set_option maxRecDepth 10000
variable {n : Nat} {h : AHeap}
def s134 : SCode := (.seq (.ops [⟨(some 4), none, .mov (.const (.int .i64 (0)))⟩]) (.seq (.seq (.ops [⟨(some 7), none, .mov (T 1)⟩, ⟨(some 8), none, .len (T 7)⟩, ⟨(some 9), none, .mov (.const (.int .i64 (0)))⟩]) (.block 0 (.loop (.seq (.ops [⟨(some 10), none, .int2 .lss (T 9) (T 8)⟩]) (.seq (.cond (T 10) .skip (.exit 0)) (.seq (.block 1 (.seq (.ops [⟨(some 11), none, .idxSl 1 (T 7) (T 9)⟩, ⟨(some 12), none, .load1 (T 11)⟩, ⟨(some 6), none, .mov (T 12)⟩]) (.ops [⟨(some 13), none, .mov (T 0)⟩, ⟨(some 14), none, .mov (T 6)⟩, ⟨(some 15), none, .plain (.call { callee := .builtin .min, args := #[(T 13), (T 14)], argTypes := #[3, 3] }) 3⟩, ⟨(some 0), none, .mov (T 15)⟩]))) (.ops [⟨(some 16), none, .int2 .add (T 9) (.const (.int .i64 (1)))⟩, ⟨(some 9), none, .mov (T 16)⟩]))))))) (.seq (.ops [⟨(some 17), none, .mov (T 0)⟩, ⟨(some 4), none, .mov (T 17)⟩]) .ret)))
theorem fok134 : FnOk Try.prog 134 18 s134 [.tmp 4] := ⟨Try.f134, _, Try.func134, rfl, Try.ntmps134, by kernel_rfl, by kernel_rfl⟩
theorem minimum_c {m : Nat} (hn : m + 2 ≤ n) (hm : m ≤ 1000) {v : Value} {a : Nat → Int} (hi : Ints h v m a) (x : Int) : call n (.func (.func 134) #[] #[]) [.int .i64 x, v] h = some (.int .i64 (minN x a m), h) := by
  obtain ⟨n, rfl⟩ : ∃ p, n = p + 1 := ⟨n - 1, by omega⟩
  refine call_plain0 fok134 rfl rfl (by simp) rfl ?_
  have hi := Cells.shut hi
  generalize h.shutAll = h at hi
  simp only [rn0, rn1, rn2, rn3, rn4, rn5, rn6, rn7, rn8, if_true, if_false, Nat.le_refl, true_and, and_true, decide_true, decide_false, Bool.not_true, Bool.not_false, reduceIte, Nat.reduceEqDiff, Nat.reduceAdd, Nat.reduceMul, Nat.reduceSub, Nat.reduceLeDiff, Nat.reduceLT, s134, Cells.len hi]
  refine W_loop m (fun k f g ms => g = h ∧ ms = [] ∧ f 0 = .int .i64 (minN x a k) ∧ f 7 = v ∧ f 8 = .int .i64 (m : Int) ∧ f 9 = .int .i64 (k : Int)) (by simp; omega) ?_ ?_ ?_
  · simp only [rn0, rn1, rn2, rn3, rn4, rn5, rn6, rn7, rn8, if_true, if_false, Nat.le_refl, true_and, and_true, decide_true, decide_false, Bool.not_true, Bool.not_false, reduceIte, Nat.reduceEqDiff, Nat.reduceAdd, Nat.reduceMul, Nat.reduceSub, Nat.reduceLeDiff, Nat.reduceLT]
    exact ⟨rfl, rfl⟩
  · rintro k f g ms hk ⟨rfl, rfl, f0, f7, f8, f9⟩
    have hk' : (k : Int) < (m : Int) := by omega
    have hw : wrapF .i64 ((k : Int) + 1) = ((k + 1 : Nat) : Int) := by rw [wrap_in (by omega) (by omega)]; rfl
    have he : min (minN x a k) (a k) = minN x a (k + 1) := rfl
    simp only [rn0, rn1, rn2, rn3, rn4, rn5, rn6, rn7, rn8, if_true, if_false, Nat.le_refl, true_and, and_true, decide_true, decide_false, Bool.not_true, Bool.not_false, reduceIte, Nat.reduceEqDiff, Nat.reduceAdd, Nat.reduceMul, Nat.reduceSub, Nat.reduceLeDiff, Nat.reduceLT, f0, f7, f8, f9, hk', Cells.idx hi hk, Cells.ld hi hk Nat.zero_lt_one, valN_tmp, Nat.reduceLT, he, hw]
  · rintro f g ms ⟨rfl, rfl, f0, f7, f8, f9⟩
    simp only [rn0, rn1, rn2, rn3, rn4, rn5, rn6, rn7, rn8, if_true, if_false, Nat.le_refl, true_and, and_true, decide_true, decide_false, Bool.not_true, Bool.not_false, reduceIte, Nat.reduceEqDiff, Nat.reduceAdd, Nat.reduceMul, Nat.reduceSub, Nat.reduceLeDiff, Nat.reduceLT, f0, f7, f8, f9, Int.lt_irrefl]
def s123 : SCode := (.seq (.ops [⟨(some 3), none, .box (T 0)⟩, ⟨(some 6), none, .alloc [(.int .i64 (0)), (.int .i64 (0))]⟩]) (.seq (.draw [⟨.free, ⟨(some 12), none, .fieldAddr 0 (T 3)⟩⟩, ⟨.rd1, ⟨(some 13), none, .load1 (T 12)⟩⟩, ⟨.free, ⟨(some 14), none, .mov (T 1)⟩⟩, ⟨.free, ⟨(some 15), none, .idxSl 3 (T 14) (.const (.int .i64 (0)))⟩⟩, ⟨.rd1, ⟨(some 16), none, .loadN 3 (T 15)⟩⟩, ⟨.free, ⟨(some 17), none, .mov (T 2)⟩⟩, ⟨.any, ⟨(some 18), none, .call (T 13) [(T 16), (T 17)]⟩⟩, ⟨.free, ⟨(some 7), none, .mov (T 18)⟩⟩]) (.seq (.ops [⟨(some 19), none, .mov (T 7)⟩, ⟨(some 20), none, .mov (T 7)⟩, ⟨(some 21), none, .build #[(0, 1), (1, 1)] [(.int .i64 (0)), (.int .i64 (0))] [0, 1] [(T 19), (T 20)]⟩, ⟨(some 8), none, .alloc [(.int .i64 (0)), (.int .i64 (0))]⟩, ⟨none, none, .store 2 (T 8) (T 21)⟩]) (.seq (.seq (.ops [⟨(some 22), none, .mov (T 1)⟩, ⟨(some 23), none, .slice 3 (T 22) (some (.const (.int .i64 (1)))) none none⟩, ⟨(some 24), none, .len (T 23)⟩, ⟨(some 25), none, .mov (.const (.int .i64 (0)))⟩]) (.block 0 (.loop (.seq (.ops [⟨(some 26), none, .int2 .lss (T 25) (T 24)⟩]) (.seq (.cond (T 26) .skip (.exit 0)) (.seq (.block 1 (.seq (.ops [⟨(some 27), none, .idxSl 3 (T 23) (T 25)⟩, ⟨(some 28), none, .loadN 3 (T 27)⟩, ⟨(some 10), none, .alloc [(.int .i64 (0)), (.int .i64 (0)), (.int .i64 (0))]⟩, ⟨none, none, .store 3 (T 10) (T 28)⟩]) (.seq (.ops [⟨(some 29), none, .fieldAddr 0 (T 3)⟩, ⟨(some 30), none, .load1 (T 29)⟩, ⟨(some 31), none, .loadN 3 (T 10)⟩, ⟨(some 32), none, .mov (T 2)⟩, ⟨(some 33), none, .call (T 30) [(T 31), (T 32)]⟩, ⟨(some 11), none, .mov (T 33)⟩]) (.draw [⟨.free, ⟨(some 34), none, .fieldAddr 0 (T 8)⟩⟩, ⟨.rd, ⟨(some 35), none, .load1 (T 34)⟩⟩, ⟨.free, ⟨(some 36), none, .mov (T 11)⟩⟩, ⟨.up, ⟨(some 37), none, .bslice 1 1 [(.int .i64 (0))] [0] [(T 36)]⟩⟩, ⟨.up, ⟨(some 38), none, .call (.func 134) [(T 35), (T 37)]⟩⟩, ⟨.free, ⟨(some 39), none, .fieldAddr 1 (T 8)⟩⟩, ⟨.rd, ⟨(some 40), none, .load1 (T 39)⟩⟩, ⟨.free, ⟨(some 41), none, .mov (T 11)⟩⟩, ⟨.free, ⟨(some 42), none, .plain (.call { callee := .builtin .max, args := #[(T 40), (T 41)], argTypes := #[3, 3] }) 3⟩⟩, ⟨.free, ⟨(some 43), none, .build #[(0, 1), (1, 1)] [(.int .i64 (0)), (.int .i64 (0))] [0, 1] [(T 38), (T 42)]⟩⟩, ⟨.any, ⟨none, none, .store 2 (T 8) (T 43)⟩⟩])))) (.ops [⟨(some 44), none, .int2 .add (T 25) (.const (.int .i64 (1)))⟩, ⟨(some 25), none, .mov (T 44)⟩]))))))) (.seq (.ops [⟨(some 45), none, .loadN 2 (T 8)⟩, ⟨none, none, .store 2 (T 6) (T 45)⟩]) .ret)))))
theorem fok123 : FnOk Try.prog 123 46 s123 [.cellN 6 2] := ⟨Try.f123, _, Try.func123, rfl, Try.ntmps123, by kernel_rfl, by kernel_rfl⟩
set_option maxHeartbeats 1000000 in
theorem boundsI_c (hn : 600 ≤ n) (hr : h.next + 5000 < far) {tv : Value} {L : List (Nat → Int)} {G : Nat} {val : (Nat → Int) → Int} {ai : Nat} (hL : L ≠ []) (hlen : L.length ≤ 300) (htr : DonesR h tv L) (hlong : Long tv) 
    (hG : ∀ g, Sub All h g → g.next + 100 < far → ∀ t, t ∈ L → call (n - 1) (.func (.func G) #[] #[]) [.agg ⟨dn t⟩, .int .i64 (ai : Int)] g = some (.int .i64 (val t), g)) :
    call n (.func (.func 123) #[] #[]) [.agg ⟨[.func (.func G) #[] #[]]⟩, tv, .int .i64 (ai : Int)] h = some (.agg ⟨[.int .i64 (loN val L), .int .i64 (hiN val L)]⟩, h) := by
  obtain ⟨n, rfl⟩ : ∃ p, n = p + 1 := ⟨n - 1, by omega⟩
  rw [Nat.add_sub_cancel] at hG
  have hpos : 0 < L.length := List.length_pos_iff.2 hL
  have hat : ∀ i, i < L.length → L.getD i (fun _ => 0) ∈ L := fun i hi => getD_mem hi
  refine call_plain0 fok123 rfl rfl (by simp) rfl ?_
  have htr : DonesR h.shutAll tv L := Cells.shut htr
  have hr : h.shutAll.next + 5000 < far := hr
  have hfl : h.shutAll.floor ≤ h.shutAll.next := Nat.le_refl _
  have hG : ∀ g, Sub All h.shutAll g → g.next + 100 < far → ∀ t, t ∈ L → call n (.func (.func G) #[] #[]) [.agg ⟨dn t⟩, .int .i64 (ai : Int)] g = some (.int .i64 (val t), g) := fun g hs => hG g (Sub.trans (fun _ _ _ _ _ h => h) hs)
  generalize h.shutAll = h at htr hr hfl hG
  simp only [s123, W_seq, W_ops]
  refine ops_box (cs := [.func (.func G) #[] #[]]) (by omega) rfl rfl fun g1 hx1 => ?_
  have n1 := hx1.next
  have f1 := hx1.floor
  obtain ⟨g2, rfl⟩ : ∃ g2, g2 = g1 := ⟨_, rfl⟩
  have hx2 : Sub All g2 g2 := Sub.refl
  have n2 : g2.next ≤ g2.next + 1 := by omega
  refine ops_alloc (cs := [.int .i64 0, .int .i64 0]) (by omega) rfl fun g3 hx3 => ?_
  have n3 := hx3.next
  have f3 := hx3.floor
  have s3 : Sub All h g3 := hx1.sub.trans hx3.sub
  have r1 := hx1.row.mono hx3.sub
  have ht3 : DonesR g3 tv L := Cells.mono htr s3
  have i0 : indexSl 3 tv (.int .i64 0) = some (ptrO tv 3 0 0) := Cells.idx ht3 hpos
  have e0 := hG g3 s3 (by omega) _ (hat 0 hpos)
  simp only [rn0, rn1, rn2, rn3, rn4, rn5, rn6, rn7, rn8, if_true, if_false, Nat.le_refl, true_and, and_true, decide_true, decide_false, Bool.not_true, Bool.not_false, reduceIte, Nat.reduceEqDiff, Nat.reduceAdd, Nat.reduceMul, Nat.reduceSub, Nat.reduceLeDiff, Nat.reduceLT]
  refine W_draw All ?_
  simp only [rn0, rn1, rn2, rn3, rn4, rn5, rn6, rn7, rn8, if_true, if_false, Nat.le_refl, true_and, and_true, decide_true, decide_false, Bool.not_true, Bool.not_false, reduceIte, Nat.reduceEqDiff, Nat.reduceAdd, Nat.reduceMul, Nat.reduceSub, Nat.reduceLeDiff, Nat.reduceLT, r1.ld, Nat.zero_add, List.getElem?_cons_zero, List.getElem?_cons_succ, i0, dones_ld ht3 hpos, dn_self, e0, build_range]
  generalize hv0 : val (L.getD 0 fun _ => 0) = v0
  refine step_new (vs := [.int .i64 v0, .int .i64 v0]) (by omega) (by omega) rfl (by simp only [rn0, rn1, rn2, rn3, rn4, rn5, rn6, rn7, rn8, if_true, if_false, Nat.le_refl, true_and, and_true, decide_true, decide_false, Bool.not_true, Bool.not_false, reduceIte, Nat.reduceEqDiff, Nat.reduceAdd, Nat.reduceMul, Nat.reduceSub, Nat.reduceLeDiff, Nat.reduceLT]; rfl) rfl rfl rfl fun g4 hx4 => ?_
  have n4 := hx4.next
  have f4 := hx4.floor
  obtain ⟨tl, g5, et, _, s5, u5, b5, f5, o5, htl⟩ := tail_c (Cells.mono ht3 hx4.sub) hpos hlong (by omega)
  have ht5 := htl g5 (Cells.mono (Cells.mono ht3 hx4.sub) s5)
  simp only [rn0, rn1, rn2, rn3, rn4, rn5, rn6, rn7, rn8, if_true, if_false, Nat.le_refl, true_and, and_true, decide_true, decide_false, Bool.not_true, Bool.not_false, reduceIte, Nat.reduceEqDiff, Nat.reduceAdd, Nat.reduceMul, Nat.reduceSub, Nat.reduceLeDiff, Nat.reduceLT, Option.isSome_none, Option.map_some, Option.map_none, et, Cells.len ht5]
  have r10 : g5.get g3.next = some (.row [.int .i64 v0, .int .i64 v0] true 0) := s5 _ _ _ _ trivial hx4.get
  have r15 := (r1.mono hx4.sub).mono s5
  have r6 : g5.get g2.next = some (.row [.int .i64 0, .int .i64 0] true 0) := s5 _ _ _ _ trivial (hx4.sub _ _ _ _ trivial hx3.get)
  refine W_loop (L.length - 1) (fun i f g' ms => (Keep g3.next g5 g' ∧ g'.get g3.next = some (.row [.int .i64 (minN v0 (fun i => val (L.getD (i + 1) fun _ => 0)) i), .int .i64 (maxN v0 (fun i => val (L.getD (i + 1) fun _ => 0)) i)] true 0) ∧ g'.next ≤ g5.next + 4 * i) ∧ ms = [] ∧
    f 3 = .pointer (some ⟨h.next, 0, none⟩) ∧ f 2 = .int .i64 (ai : Int) ∧ f 6 = .pointer (some ⟨g2.next, 0, none⟩) ∧ f 8 = .pointer (some ⟨g3.next, 0, none⟩) ∧ f 23 = tl ∧ f 24 = .int .i64 ((L.length - 1 : Nat) : Int) ∧ f 25 = .int .i64 (i : Int)) (by simp; omega) ?_ ?_ ?_
  · simp only [rn0, rn1, rn2, rn3, rn4, rn5, rn6, rn7, rn8, if_true, if_false, Nat.le_refl, true_and, and_true, decide_true, decide_false, Bool.not_true, Bool.not_false, reduceIte, Nat.reduceEqDiff, Nat.reduceAdd, Nat.reduceMul, Nat.reduceSub, Nat.reduceLeDiff, Nat.reduceLT]
    have hfin := And.intro (Keep.refl (o := g3.next) (h := g5)) (And.intro r10 (Nat.le_refl g5.next))
    first | exact ⟨hfin, rfl⟩ | exact hfin
  · rintro i f g' ms hi ⟨⟨kin, gi, gin⟩, rfl, p3, p5, p6, p8, p23, p24, p25⟩
    have hi' : (i : Int) < ((L.length - 1 : Nat) : Int) := by omega
    have hwi : wrapF .i64 ((i : Int) + 1) = ((i + 1 : Nat) : Int) := by rw [wrap_in (by omega) (by omega)]; rfl
    have kup := kin.up
    have kfl := kin.floor
    have sg' : Sub All h g' := fun j cs w gr t hg => kin.sub _ _ _ _ (by have := AHeap.lt_of_get hg; omega) (s5 _ _ _ _ t (hx4.sub _ _ _ _ t (s3 _ _ _ _ t hg)))
    have ht' := htl g' (Cells.mono htr sg')
    have hld : loadAgg 3 g' (ptrO tl 3 i 0) = some (.agg ⟨dn (L.getD (i + 1) fun _ => 0)⟩) := by
      rw [Cells.ldN ht' hi (by omega) (by omega)]; simp [dn, List.range_succ]
    have r1' := r15.keep kin (by omega)
    simp only [rn0, rn1, rn2, rn3, rn4, rn5, rn6, rn7, rn8, if_true, if_false, Nat.le_refl, true_and, and_true, decide_true, decide_false, Bool.not_true, Bool.not_false, reduceIte, Nat.reduceEqDiff, Nat.reduceAdd, Nat.reduceMul, Nat.reduceSub, Nat.reduceLeDiff, Nat.reduceLT, p3, p5, p6, p8, p23, p24, p25, hi', Cells.idx ht' hi, hld]
    refine step_new (vs := dn (L.getD (i + 1) fun _ => 0)) (by omega) (by omega) rfl (by simp only [rn0, rn1, rn2, rn3, rn4, rn5, rn6, rn7, rn8, if_true, if_false, Nat.le_refl, true_and, and_true, decide_true, decide_false, Bool.not_true, Bool.not_false, reduceIte, Nat.reduceEqDiff, Nat.reduceAdd, Nat.reduceMul, Nat.reduceSub, Nat.reduceLeDiff, Nat.reduceLT]; rfl) dn_one dn_len rfl fun g6 hx6 => ?_
    have n6 := hx6.next
    have f6 := hx6.floor
    have e6 := hG g6 (sg'.trans hx6.sub) (by omega) _ (hat (i + 1) (by omega))
    have r16 := r1'.mono hx6.sub
    have r106 : Row g6 g3.next _ := ⟨_, _, hx6.sub _ _ _ _ trivial gi⟩
    simp only [rn0, rn1, rn2, rn3, rn4, rn5, rn6, rn7, rn8, if_true, if_false, Nat.le_refl, true_and, and_true, decide_true, decide_false, Bool.not_true, Bool.not_false, reduceIte, Nat.reduceEqDiff, Nat.reduceAdd, Nat.reduceMul, Nat.reduceSub, Nat.reduceLeDiff, Nat.reduceLT, p3, p5, p6, p8, p23, p24, p25, r16.ld, hx6.row.whole dn_len, Nat.zero_add, List.getElem?_cons_zero, List.getElem?_cons_succ, e6]
    refine W_draw All ?_
    simp only [rn0, rn1, rn2, rn3, rn4, rn5, rn6, rn7, rn8, if_true, if_false, Nat.le_refl, true_and, and_true, decide_true, decide_false, Bool.not_true, Bool.not_false, reduceIte, Nat.reduceEqDiff, Nat.reduceAdd, Nat.reduceMul, Nat.reduceSub, Nat.reduceLeDiff, Nat.reduceLT, p3, p5, p6, p8, p23, p24, p25, r106.ld, Nat.zero_add, List.getElem?_cons_zero, List.getElem?_cons_succ, sl_int]
    generalize hv1 : val (L.getD (i + 1) fun _ => 0) = v1
    refine up_slice (by omega) rfl (fun g7 hx => hx.sub) fun g7 hx7 => ?_
    have n7 := hx7.next
    have f7 := hx7.floor
    have hone : Ints g7 (.slice (some ⟨g6.next, 0, none⟩) 1 1) 1 (fun _ => v1) := ⟨_, _, rfl, fun x e => by cases e; rfl, .inr ⟨_, 0, _, _, _, rfl, hx7.get, fun i j hi hj => by
      have hi : i = 0 := by omega
      have hj : j = 0 := by omega
      subst hi hj; rfl⟩⟩
    have em := minimum_c (n := n) (h := g7) (m := 1) (by omega) (by omega) hone (minN v0 (fun i => val (L.getD (i + 1) fun _ => 0)) i)
    have hmin : minN (minN v0 (fun i => val (L.getD (i + 1) fun _ => 0)) i) (fun _ => v1) 1 = minN v0 (fun i => val (L.getD (i + 1) fun _ => 0)) (i + 1) := by simp only [minN, hv1]
    have hmax : max (maxN v0 (fun i => val (L.getD (i + 1) fun _ => 0)) i) v1 = maxN v0 (fun i => val (L.getD (i + 1) fun _ => 0)) (i + 1) := by simp only [maxN, hv1]
    rw [hmin] at em
    simp only [rn0, rn1, rn2, rn3, rn4, rn5, rn6, rn7, rn8, if_true, if_false, Nat.le_refl, true_and, and_true, decide_true, decide_false, Bool.not_true, Bool.not_false, reduceIte, Nat.reduceEqDiff, Nat.reduceAdd, Nat.reduceMul, Nat.reduceSub, Nat.reduceLeDiff, Nat.reduceLT, p3, p5, p6, p8, p23, p24, p25, em, r106.ld, Nat.zero_add, List.getElem?_cons_zero, List.getElem?_cons_succ, valN_tmp, Nat.reduceLT, hmax, build_range, eqV_int]
    refine ⟨hx7.sub, ?_⟩
    refine up_store (b := g3.next) (off := 0) (vs := [.int .i64 (minN v0 (fun i => val (L.getD (i + 1) fun _ => 0)) (i + 1)), .int .i64 (maxN v0 (fun i => val (L.getD (i + 1) fun _ => 0)) (i + 1))]) rfl (hx7.sub _ _ _ _ trivial (hx6.sub _ _ _ _ trivial gi)) (by omega) (by omega) rfl rfl rfl (by simp) (fun _ _ => trivial) fun g8 hs8 => ?_
    rw [splice2] at hs8
    have n8 := hs8.next
    have f8 := hs8.floor
    simp only [rn0, rn1, rn2, rn3, rn4, rn5, rn6, rn7, rn8, if_true, if_false, Nat.le_refl, true_and, and_true, decide_true, decide_false, Bool.not_true, Bool.not_false, reduceIte, Nat.reduceEqDiff, Nat.reduceAdd, Nat.reduceMul, Nat.reduceSub, Nat.reduceLeDiff, Nat.reduceLT, p3, p5, p6, p8, p23, p24, p25, hwi]
    have hfin := And.intro ((kin.trans ⟨fun j cs w gr hj hg => hx7.sub _ _ _ _ trivial (hx6.sub _ _ _ _ trivial hg), by omega, by omega⟩).trans hs8.keep) (And.intro hs8.get (by omega : g8.next ≤ g5.next + 4 * (i + 1)))
    first | exact hfin | exact ⟨hfin, rfl⟩
  · rintro f g' ms ⟨⟨kin, gi, gin⟩, rfl, p3, p5, p6, p8, p23, p24, p25⟩
    have kup := kin.up
    have kfl := kin.floor
    have w10 := (show Row g' g3.next _ from ⟨_, _, gi⟩).whole (n := 2) rfl
    have hlo : minN v0 (fun i => val (L.getD (i + 1) fun _ => 0)) (L.length - 1) = loN val L := by unfold loN; rw [hv0]
    have hhi : maxN v0 (fun i => val (L.getD (i + 1) fun _ => 0)) (L.length - 1) = hiN val L := by unfold hiN; rw [hv0]
    rw [hlo, hhi] at w10
    simp only [rn0, rn1, rn2, rn3, rn4, rn5, rn6, rn7, rn8, if_true, if_false, Nat.le_refl, true_and, and_true, decide_true, decide_false, Bool.not_true, Bool.not_false, reduceIte, Nat.reduceEqDiff, Nat.reduceAdd, Nat.reduceMul, Nat.reduceSub, Nat.reduceLeDiff, Nat.reduceLT, p3, p5, p6, p8, p23, p24, p25, Int.lt_irrefl, w10]
    refine step_store (b := g2.next) (off := 0) (vs := [.int .i64 (loN val L), .int .i64 (hiN val L)]) rfl (kin.sub _ _ _ _ (by omega) r6) (by omega) (by omega) rfl rfl rfl (by simp) fun g8 hs8 => ?_
    rw [splice2] at hs8
    simp only [rn0, rn1, rn2, rn3, rn4, rn5, rn6, rn7, rn8, if_true, if_false, Nat.le_refl, true_and, and_true, decide_true, decide_false, Bool.not_true, Bool.not_false, reduceIte, Nat.reduceEqDiff, Nat.reduceAdd, Nat.reduceMul, Nat.reduceSub, Nat.reduceLeDiff, Nat.reduceLT, p6, res_cellN, hs8.row.whole (n := 2) rfl]
def s125 : SCode := (.seq (.ops [⟨(some 3), none, .box (T 0)⟩, ⟨(some 5), none, .box (T 2)⟩, ⟨(some 6), none, .alloc [(.int .i64 (0)), (.int .i64 (0))]⟩]) (.seq (.draw [⟨.free, ⟨(some 12), none, .fieldAddr 0 (T 3)⟩⟩, ⟨.rd1, ⟨(some 13), none, .load1 (T 12)⟩⟩, ⟨.free, ⟨(some 14), none, .mov (T 1)⟩⟩, ⟨.free, ⟨(some 15), none, .idxSl 3 (T 14) (.const (.int .i64 (0)))⟩⟩, ⟨.rd1, ⟨(some 16), none, .loadN 3 (T 15)⟩⟩, ⟨.rd1, ⟨(some 17), none, .loadN 2 (T 5)⟩⟩, ⟨.any, ⟨(some 18), none, .call (T 13) [(T 16), (T 17)]⟩⟩, ⟨.free, ⟨(some 7), none, .mov (T 18)⟩⟩]) (.seq (.ops [⟨(some 19), none, .mov (T 7)⟩, ⟨(some 20), none, .mov (T 7)⟩, ⟨(some 21), none, .build #[(0, 1), (1, 1)] [(.int .i64 (0)), (.int .i64 (0))] [0, 1] [(T 19), (T 20)]⟩, ⟨(some 8), none, .alloc [(.int .i64 (0)), (.int .i64 (0))]⟩, ⟨none, none, .store 2 (T 8) (T 21)⟩]) (.seq (.seq (.ops [⟨(some 22), none, .mov (T 1)⟩, ⟨(some 23), none, .slice 3 (T 22) (some (.const (.int .i64 (1)))) none none⟩, ⟨(some 24), none, .len (T 23)⟩, ⟨(some 25), none, .mov (.const (.int .i64 (0)))⟩]) (.block 0 (.loop (.seq (.ops [⟨(some 26), none, .int2 .lss (T 25) (T 24)⟩]) (.seq (.cond (T 26) .skip (.exit 0)) (.seq (.block 1 (.seq (.ops [⟨(some 27), none, .idxSl 3 (T 23) (T 25)⟩, ⟨(some 28), none, .loadN 3 (T 27)⟩, ⟨(some 10), none, .alloc [(.int .i64 (0)), (.int .i64 (0)), (.int .i64 (0))]⟩, ⟨none, none, .store 3 (T 10) (T 28)⟩]) (.seq (.ops [⟨(some 29), none, .fieldAddr 0 (T 3)⟩, ⟨(some 30), none, .load1 (T 29)⟩, ⟨(some 31), none, .loadN 3 (T 10)⟩, ⟨(some 32), none, .loadN 2 (T 5)⟩, ⟨(some 33), none, .call (T 30) [(T 31), (T 32)]⟩, ⟨(some 11), none, .mov (T 33)⟩]) (.draw [⟨.free, ⟨(some 34), none, .fieldAddr 0 (T 8)⟩⟩, ⟨.rd, ⟨(some 35), none, .load1 (T 34)⟩⟩, ⟨.free, ⟨(some 36), none, .mov (T 11)⟩⟩, ⟨.up, ⟨(some 37), none, .bslice 1 1 [(.int .i64 (0))] [0] [(T 36)]⟩⟩, ⟨.up, ⟨(some 38), none, .call (.func 134) [(T 35), (T 37)]⟩⟩, ⟨.free, ⟨(some 39), none, .fieldAddr 1 (T 8)⟩⟩, ⟨.rd, ⟨(some 40), none, .load1 (T 39)⟩⟩, ⟨.free, ⟨(some 41), none, .mov (T 11)⟩⟩, ⟨.free, ⟨(some 42), none, .plain (.call { callee := .builtin .max, args := #[(T 40), (T 41)], argTypes := #[3, 3] }) 3⟩⟩, ⟨.free, ⟨(some 43), none, .build #[(0, 1), (1, 1)] [(.int .i64 (0)), (.int .i64 (0))] [0, 1] [(T 38), (T 42)]⟩⟩, ⟨.any, ⟨none, none, .store 2 (T 8) (T 43)⟩⟩])))) (.ops [⟨(some 44), none, .int2 .add (T 25) (.const (.int .i64 (1)))⟩, ⟨(some 25), none, .mov (T 44)⟩]))))))) (.seq (.ops [⟨(some 45), none, .loadN 2 (T 8)⟩, ⟨none, none, .store 2 (T 6) (T 45)⟩]) .ret)))))
theorem fok125 : FnOk Try.prog 125 46 s125 [.cellN 6 2] := ⟨Try.f125, _, Try.func125, rfl, Try.ntmps125, by kernel_rfl, by kernel_rfl⟩
set_option maxHeartbeats 1000000 in
theorem boundsP_c (hn : 600 ≤ n) (hr : h.next + 5000 < far) {tv : Value} {L : List (Nat → Int)} {G : Nat} {val : (Nat → Int) → Int} {pa pb : Value} (hL : L ≠ []) (hlen : L.length ≤ 300) (htr : DonesR h tv L) (hlong : Long tv) (hab : allB oneCell [pa, pb] = true) (hself : eqV (.agg ⟨[pa, pb]⟩) (.agg ⟨[pa, pb]⟩) = true)
    (hG : ∀ g, Sub All h g → g.next + 100 < far → ∀ t, t ∈ L → call (n - 1) (.func (.func G) #[] #[]) [.agg ⟨dn t⟩, .agg ⟨[pa, pb]⟩] g = some (.int .i64 (val t), g)) :
    call n (.func (.func 125) #[] #[]) [.agg ⟨[.func (.func G) #[] #[]]⟩, tv, .agg ⟨[pa, pb]⟩] h = some (.agg ⟨[.int .i64 (loN val L), .int .i64 (hiN val L)]⟩, h) := by
  obtain ⟨n, rfl⟩ : ∃ p, n = p + 1 := ⟨n - 1, by omega⟩
  rw [Nat.add_sub_cancel] at hG
  have hpos : 0 < L.length := List.length_pos_iff.2 hL
  have hat : ∀ i, i < L.length → L.getD i (fun _ => 0) ∈ L := fun i hi => getD_mem hi
  refine call_plain0 fok125 rfl rfl (by simp) rfl ?_
  have htr : DonesR h.shutAll tv L := Cells.shut htr
  have hr : h.shutAll.next + 5000 < far := hr
  have hfl : h.shutAll.floor ≤ h.shutAll.next := Nat.le_refl _
  have hG : ∀ g, Sub All h.shutAll g → g.next + 100 < far → ∀ t, t ∈ L → call n (.func (.func G) #[] #[]) [.agg ⟨dn t⟩, .agg ⟨[pa, pb]⟩] g = some (.int .i64 (val t), g) := fun g hs => hG g (Sub.trans (fun _ _ _ _ _ h => h) hs)
  generalize h.shutAll = h at htr hr hfl hG
  simp only [s125, W_seq, W_ops]
  refine ops_box (cs := [.func (.func G) #[] #[]]) (by omega) rfl rfl fun g1 hx1 => ?_
  have n1 := hx1.next
  have f1 := hx1.floor
  refine ops_box (cs := [pa, pb]) (by omega) rfl hab fun g2 hx2 => ?_
  have n2 := hx2.next
  have f2 := hx2.floor
  refine ops_alloc (cs := [.int .i64 0, .int .i64 0]) (by omega) rfl fun g3 hx3 => ?_
  have n3 := hx3.next
  have f3 := hx3.floor
  have s3 : Sub All h g3 := (hx1.sub.trans hx2.sub).trans hx3.sub
  have r1 := (hx1.row.mono hx2.sub).mono hx3.sub
  have rp := hx2.row.mono hx3.sub
  have ht3 : DonesR g3 tv L := Cells.mono htr s3
  have i0 : indexSl 3 tv (.int .i64 0) = some (ptrO tv 3 0 0) := Cells.idx ht3 hpos
  have e0 := hG g3 s3 (by omega) _ (hat 0 hpos)
  simp only [rn0, rn1, rn2, rn3, rn4, rn5, rn6, rn7, rn8, if_true, if_false, Nat.le_refl, true_and, and_true, decide_true, decide_false, Bool.not_true, Bool.not_false, reduceIte, Nat.reduceEqDiff, Nat.reduceAdd, Nat.reduceMul, Nat.reduceSub, Nat.reduceLeDiff, Nat.reduceLT]
  refine W_draw All ?_
  simp only [rn0, rn1, rn2, rn3, rn4, rn5, rn6, rn7, rn8, if_true, if_false, Nat.le_refl, true_and, and_true, decide_true, decide_false, Bool.not_true, Bool.not_false, reduceIte, Nat.reduceEqDiff, Nat.reduceAdd, Nat.reduceMul, Nat.reduceSub, Nat.reduceLeDiff, Nat.reduceLT, r1.ld, rp.whole (n := 2) rfl, hself, Nat.zero_add, List.getElem?_cons_zero, List.getElem?_cons_succ, i0, dones_ld ht3 hpos, dn_self, e0, build_range]
  generalize hv0 : val (L.getD 0 fun _ => 0) = v0
  refine step_new (vs := [.int .i64 v0, .int .i64 v0]) (by omega) (by omega) rfl (by simp only [rn0, rn1, rn2, rn3, rn4, rn5, rn6, rn7, rn8, if_true, if_false, Nat.le_refl, true_and, and_true, decide_true, decide_false, Bool.not_true, Bool.not_false, reduceIte, Nat.reduceEqDiff, Nat.reduceAdd, Nat.reduceMul, Nat.reduceSub, Nat.reduceLeDiff, Nat.reduceLT]; rfl) rfl rfl rfl fun g4 hx4 => ?_
  have n4 := hx4.next
  have f4 := hx4.floor
  obtain ⟨tl, g5, et, _, s5, u5, b5, f5, o5, htl⟩ := tail_c (Cells.mono ht3 hx4.sub) hpos hlong (by omega)
  have ht5 := htl g5 (Cells.mono (Cells.mono ht3 hx4.sub) s5)
  simp only [rn0, rn1, rn2, rn3, rn4, rn5, rn6, rn7, rn8, if_true, if_false, Nat.le_refl, true_and, and_true, decide_true, decide_false, Bool.not_true, Bool.not_false, reduceIte, Nat.reduceEqDiff, Nat.reduceAdd, Nat.reduceMul, Nat.reduceSub, Nat.reduceLeDiff, Nat.reduceLT, Option.isSome_none, Option.map_some, Option.map_none, et, Cells.len ht5]
  have r10 : g5.get g3.next = some (.row [.int .i64 v0, .int .i64 v0] true 0) := s5 _ _ _ _ trivial hx4.get
  have r15 := (r1.mono hx4.sub).mono s5
  have rp5 := (rp.mono hx4.sub).mono s5
  have r6 : g5.get g2.next = some (.row [.int .i64 0, .int .i64 0] true 0) := s5 _ _ _ _ trivial (hx4.sub _ _ _ _ trivial hx3.get)
  refine W_loop (L.length - 1) (fun i f g' ms => (Keep g3.next g5 g' ∧ g'.get g3.next = some (.row [.int .i64 (minN v0 (fun i => val (L.getD (i + 1) fun _ => 0)) i), .int .i64 (maxN v0 (fun i => val (L.getD (i + 1) fun _ => 0)) i)] true 0) ∧ g'.next ≤ g5.next + 4 * i) ∧ ms = [] ∧
    f 3 = .pointer (some ⟨h.next, 0, none⟩) ∧ f 5 = .pointer (some ⟨g1.next, 0, none⟩) ∧ f 6 = .pointer (some ⟨g2.next, 0, none⟩) ∧ f 8 = .pointer (some ⟨g3.next, 0, none⟩) ∧ f 23 = tl ∧ f 24 = .int .i64 ((L.length - 1 : Nat) : Int) ∧ f 25 = .int .i64 (i : Int)) (by simp; omega) ?_ ?_ ?_
  · simp only [rn0, rn1, rn2, rn3, rn4, rn5, rn6, rn7, rn8, if_true, if_false, Nat.le_refl, true_and, and_true, decide_true, decide_false, Bool.not_true, Bool.not_false, reduceIte, Nat.reduceEqDiff, Nat.reduceAdd, Nat.reduceMul, Nat.reduceSub, Nat.reduceLeDiff, Nat.reduceLT]
    have hfin := And.intro (Keep.refl (o := g3.next) (h := g5)) (And.intro r10 (Nat.le_refl g5.next))
    first | exact ⟨hfin, rfl⟩ | exact hfin
  · rintro i f g' ms hi ⟨⟨kin, gi, gin⟩, rfl, p3, p5, p6, p8, p23, p24, p25⟩
    have hi' : (i : Int) < ((L.length - 1 : Nat) : Int) := by omega
    have hwi : wrapF .i64 ((i : Int) + 1) = ((i + 1 : Nat) : Int) := by rw [wrap_in (by omega) (by omega)]; rfl
    have kup := kin.up
    have kfl := kin.floor
    have sg' : Sub All h g' := fun j cs w gr t hg => kin.sub _ _ _ _ (by have := AHeap.lt_of_get hg; omega) (s5 _ _ _ _ t (hx4.sub _ _ _ _ t (s3 _ _ _ _ t hg)))
    have ht' := htl g' (Cells.mono htr sg')
    have hld : loadAgg 3 g' (ptrO tl 3 i 0) = some (.agg ⟨dn (L.getD (i + 1) fun _ => 0)⟩) := by
      rw [Cells.ldN ht' hi (by omega) (by omega)]; simp [dn, List.range_succ]
    have r1' := r15.keep kin (by omega)
    have rp1 := rp5.keep kin (by omega)
    simp only [rn0, rn1, rn2, rn3, rn4, rn5, rn6, rn7, rn8, if_true, if_false, Nat.le_refl, true_and, and_true, decide_true, decide_false, Bool.not_true, Bool.not_false, reduceIte, Nat.reduceEqDiff, Nat.reduceAdd, Nat.reduceMul, Nat.reduceSub, Nat.reduceLeDiff, Nat.reduceLT, p3, p5, p6, p8, p23, p24, p25, hi', Cells.idx ht' hi, hld]
    refine step_new (vs := dn (L.getD (i + 1) fun _ => 0)) (by omega) (by omega) rfl (by simp only [rn0, rn1, rn2, rn3, rn4, rn5, rn6, rn7, rn8, if_true, if_false, Nat.le_refl, true_and, and_true, decide_true, decide_false, Bool.not_true, Bool.not_false, reduceIte, Nat.reduceEqDiff, Nat.reduceAdd, Nat.reduceMul, Nat.reduceSub, Nat.reduceLeDiff, Nat.reduceLT]; rfl) dn_one dn_len rfl fun g6 hx6 => ?_
    have n6 := hx6.next
    have f6 := hx6.floor
    have e6 := hG g6 (sg'.trans hx6.sub) (by omega) _ (hat (i + 1) (by omega))
    have r16 := r1'.mono hx6.sub
    have rp := rp1.mono hx6.sub
    have r106 : Row g6 g3.next _ := ⟨_, _, hx6.sub _ _ _ _ trivial gi⟩
    simp only [rn0, rn1, rn2, rn3, rn4, rn5, rn6, rn7, rn8, if_true, if_false, Nat.le_refl, true_and, and_true, decide_true, decide_false, Bool.not_true, Bool.not_false, reduceIte, Nat.reduceEqDiff, Nat.reduceAdd, Nat.reduceMul, Nat.reduceSub, Nat.reduceLeDiff, Nat.reduceLT, p3, p5, p6, p8, p23, p24, p25, r16.ld, rp.whole (n := 2) rfl, hself, hx6.row.whole dn_len, Nat.zero_add, List.getElem?_cons_zero, List.getElem?_cons_succ, e6]
    refine W_draw All ?_
    simp only [rn0, rn1, rn2, rn3, rn4, rn5, rn6, rn7, rn8, if_true, if_false, Nat.le_refl, true_and, and_true, decide_true, decide_false, Bool.not_true, Bool.not_false, reduceIte, Nat.reduceEqDiff, Nat.reduceAdd, Nat.reduceMul, Nat.reduceSub, Nat.reduceLeDiff, Nat.reduceLT, p3, p5, p6, p8, p23, p24, p25, r106.ld, Nat.zero_add, List.getElem?_cons_zero, List.getElem?_cons_succ, sl_int]
    generalize hv1 : val (L.getD (i + 1) fun _ => 0) = v1
    refine up_slice (by omega) rfl (fun g7 hx => hx.sub) fun g7 hx7 => ?_
    have n7 := hx7.next
    have f7 := hx7.floor
    have hone : Ints g7 (.slice (some ⟨g6.next, 0, none⟩) 1 1) 1 (fun _ => v1) := ⟨_, _, rfl, fun x e => by cases e; rfl, .inr ⟨_, 0, _, _, _, rfl, hx7.get, fun i j hi hj => by
      have hi : i = 0 := by omega
      have hj : j = 0 := by omega
      subst hi hj; rfl⟩⟩
    have em := minimum_c (n := n) (h := g7) (m := 1) (by omega) (by omega) hone (minN v0 (fun i => val (L.getD (i + 1) fun _ => 0)) i)
    have hmin : minN (minN v0 (fun i => val (L.getD (i + 1) fun _ => 0)) i) (fun _ => v1) 1 = minN v0 (fun i => val (L.getD (i + 1) fun _ => 0)) (i + 1) := by simp only [minN, hv1]
    have hmax : max (maxN v0 (fun i => val (L.getD (i + 1) fun _ => 0)) i) v1 = maxN v0 (fun i => val (L.getD (i + 1) fun _ => 0)) (i + 1) := by simp only [maxN, hv1]
    rw [hmin] at em
    simp only [rn0, rn1, rn2, rn3, rn4, rn5, rn6, rn7, rn8, if_true, if_false, Nat.le_refl, true_and, and_true, decide_true, decide_false, Bool.not_true, Bool.not_false, reduceIte, Nat.reduceEqDiff, Nat.reduceAdd, Nat.reduceMul, Nat.reduceSub, Nat.reduceLeDiff, Nat.reduceLT, p3, p5, p6, p8, p23, p24, p25, em, r106.ld, Nat.zero_add, List.getElem?_cons_zero, List.getElem?_cons_succ, valN_tmp, Nat.reduceLT, hmax, build_range, eqV_int]
    refine ⟨hx7.sub, ?_⟩
    refine up_store (b := g3.next) (off := 0) (vs := [.int .i64 (minN v0 (fun i => val (L.getD (i + 1) fun _ => 0)) (i + 1)), .int .i64 (maxN v0 (fun i => val (L.getD (i + 1) fun _ => 0)) (i + 1))]) rfl (hx7.sub _ _ _ _ trivial (hx6.sub _ _ _ _ trivial gi)) (by omega) (by omega) rfl rfl rfl (by simp) (fun _ _ => trivial) fun g8 hs8 => ?_
    rw [splice2] at hs8
    have n8 := hs8.next
    have f8 := hs8.floor
    simp only [rn0, rn1, rn2, rn3, rn4, rn5, rn6, rn7, rn8, if_true, if_false, Nat.le_refl, true_and, and_true, decide_true, decide_false, Bool.not_true, Bool.not_false, reduceIte, Nat.reduceEqDiff, Nat.reduceAdd, Nat.reduceMul, Nat.reduceSub, Nat.reduceLeDiff, Nat.reduceLT, p3, p5, p6, p8, p23, p24, p25, hwi]
    have hfin := And.intro ((kin.trans ⟨fun j cs w gr hj hg => hx7.sub _ _ _ _ trivial (hx6.sub _ _ _ _ trivial hg), by omega, by omega⟩).trans hs8.keep) (And.intro hs8.get (by omega : g8.next ≤ g5.next + 4 * (i + 1)))
    first | exact hfin | exact ⟨hfin, rfl⟩
  · rintro f g' ms ⟨⟨kin, gi, gin⟩, rfl, p3, p5, p6, p8, p23, p24, p25⟩
    have kup := kin.up
    have kfl := kin.floor
    have w10 := (show Row g' g3.next _ from ⟨_, _, gi⟩).whole (n := 2) rfl
    have hlo : minN v0 (fun i => val (L.getD (i + 1) fun _ => 0)) (L.length - 1) = loN val L := by unfold loN; rw [hv0]
    have hhi : maxN v0 (fun i => val (L.getD (i + 1) fun _ => 0)) (L.length - 1) = hiN val L := by unfold hiN; rw [hv0]
    rw [hlo, hhi] at w10
    simp only [rn0, rn1, rn2, rn3, rn4, rn5, rn6, rn7, rn8, if_true, if_false, Nat.le_refl, true_and, and_true, decide_true, decide_false, Bool.not_true, Bool.not_false, reduceIte, Nat.reduceEqDiff, Nat.reduceAdd, Nat.reduceMul, Nat.reduceSub, Nat.reduceLeDiff, Nat.reduceLT, p3, p5, p6, p8, p23, p24, p25, Int.lt_irrefl, w10]
    refine step_store (b := g2.next) (off := 0) (vs := [.int .i64 (loN val L), .int .i64 (hiN val L)]) rfl (kin.sub _ _ _ _ (by omega) r6) (by omega) (by omega) rfl rfl rfl (by simp) fun g8 hs8 => ?_
    rw [splice2] at hs8
    simp only [rn0, rn1, rn2, rn3, rn4, rn5, rn6, rn7, rn8, if_true, if_false, Nat.le_refl, true_and, and_true, decide_true, decide_false, Bool.not_true, Bool.not_false, reduceIte, Nat.reduceEqDiff, Nat.reduceAdd, Nat.reduceMul, Nat.reduceSub, Nat.reduceLeDiff, Nat.reduceLT, p6, res_cellN, hs8.row.whole (n := 2) rfl]
def s122 : SCode := (.seq (.ops [⟨(some 2), none, .box (T 0)⟩, ⟨(some 4), none, .mov (.const (.int .i64 (0)))⟩]) (.seq (.ops [⟨(some 5), none, .mov (T 1)⟩, ⟨(some 6), none, .idxArr 3 1 (T 2) (T 5)⟩, ⟨(some 7), none, .load1 (T 6)⟩, ⟨(some 4), none, .mov (T 7)⟩]) .ret))
theorem fok122 : FnOk Try.prog 122 8 s122 [.tmp 4] := ⟨Try.f122, _, Try.func122, rfl, Try.ntmps122, by kernel_rfl, by kernel_rfl⟩
theorem at_c (hn : 3 ≤ n) (hr : h.next + 3 < far) {d : Nat → Int} {v : Nat} (hv : v < 3) : call n (.func (.func 122) #[] #[]) [.agg ⟨dn d⟩, .int .i64 (v : Int)] h = some (.int .i64 (d v), h) := by
  obtain ⟨n, rfl⟩ : ∃ p, n = p + 1 := ⟨n - 1, by omega⟩
  refine call_plain0 fok122 rfl rfl (by simp) rfl ?_
  have hr : h.shutAll.next + 3 < far := hr
  generalize h.shutAll = h at hr
  simp only [s122, W_seq, W_ops]
  refine ops_box (cs := dn d) (by omega) rfl dn_one fun g1 hx => ?_
  have hi := idxArr_p (b := h.next) (o := 0) hv
  simp only [rn0, rn1, rn2, rn3, rn4, rn5, rn6, rn7, rn8, if_true, if_false, Nat.le_refl, true_and, and_true, decide_true, decide_false, Bool.not_true, Bool.not_false, reduceIte, Nat.reduceEqDiff, Nat.reduceAdd, Nat.reduceMul, Nat.reduceSub, Nat.reduceLeDiff, Nat.reduceLT, hi, Nat.zero_add, hx.ld, dn_get hv]
def s124 : SCode := (.seq (.ops [⟨(some 2), none, .box (T 0)⟩, ⟨(some 3), none, .box (T 1)⟩, ⟨(some 4), none, .mov (.const (.int .i64 (0)))⟩]) (.seq (.ops [⟨(some 5), none, .mov (.const (.int .i64 (0)))⟩]) (.seq (.seq (.ops [⟨(some 8), none, .fieldAddr 1 (T 3)⟩, ⟨(some 9), none, .load1 (T 8)⟩, ⟨(some 10), none, .len (T 9)⟩, ⟨(some 11), none, .mov (.const (.int .i64 (0)))⟩]) (.block 0 (.loop (.seq (.ops [⟨(some 12), none, .int2 .lss (T 11) (T 10)⟩]) (.seq (.cond (T 12) .skip (.exit 0)) (.seq (.block 1 (.seq (.ops [⟨(some 13), none, .mov (T 11)⟩, ⟨(some 14), none, .idxSl 1 (T 9) (T 11)⟩, ⟨(some 15), none, .load1 (T 14)⟩, ⟨(some 6), none, .mov (T 13)⟩, ⟨(some 7), none, .mov (T 15)⟩]) (.draw [⟨.free, ⟨(some 16), none, .mov (T 5)⟩⟩, ⟨.free, ⟨(some 17), none, .fieldAddr 0 (T 3)⟩⟩, ⟨.rd1, ⟨(some 18), none, .load1 (T 17)⟩⟩, ⟨.free, ⟨(some 19), none, .mov (T 6)⟩⟩, ⟨.free, ⟨(some 20), none, .idxSl 4 (T 18) (T 19)⟩⟩, ⟨.rd1, ⟨(some 21), none, .loadN 4 (T 20)⟩⟩, ⟨.free, ⟨(some 22), none, .mov (T 7)⟩⟩, ⟨.free, ⟨(some 23), none, .mov (T 6)⟩⟩, ⟨.free, ⟨(some 24), none, .idxArr 3 1 (T 2) (T 23)⟩⟩, ⟨.rd1, ⟨(some 25), none, .load1 (T 24)⟩⟩, ⟨.any, ⟨(some 26), none, .call (.func 81) [(T 21), (T 22), (T 25)]⟩⟩, ⟨.free, ⟨(some 27), none, .int2 .add (T 16) (T 26)⟩⟩, ⟨.free, ⟨(some 5), none, .mov (T 27)⟩⟩]))) (.ops [⟨(some 28), none, .int2 .add (T 11) (.const (.int .i64 (1)))⟩, ⟨(some 11), none, .mov (T 28)⟩]))))))) (.seq (.ops [⟨(some 29), none, .mov (T 5)⟩, ⟨(some 4), none, .mov (T 29)⟩]) .ret))))
theorem fok124 : FnOk Try.prog 124 30 s124 [.tmp 4] := ⟨Try.f124, _, Try.func124, rfl, Try.ntmps124, by kernel_rfl, by kernel_rfl⟩
theorem lossD_c (hn : 60 ≤ n) (hr : h.next + 40 < far) {vv sv lv : Value} {S : MB} {d e : Nat → Int} {m : Nat} (hy : BeatR h vv sv S) (hl : Ints h lv m e) (hG : Good S) (hm : m ≤ S.nv) (hd : ∀ v, v < m → 0 ≤ d v ∧ d v ≤ 13) (he : ∀ v, v < m → 0 ≤ e v ∧ e v ≤ 9) :
    call n (.func (.func 124) #[] #[]) [.agg ⟨dn d⟩, .agg ⟨[vv, lv]⟩] h = some (.int .i64 (lossTo S d e m), h) := by
  obtain ⟨n, rfl⟩ : ∃ p, n = p + 1 := ⟨n - 1, by omega⟩
  refine call_plain0 fok124 rfl rfl (by simp) rfl ?_
  have hy := hy.shut
  have hl := Cells.shut hl
  have hr : h.shutAll.next + 40 < far := hr
  generalize h.shutAll = h at hy hl hr
  obtain ⟨_, _, z3, _⟩ := hG.sizes
  simp only [s124, W_seq, W_ops]
  refine ops_box (cs := dn d) (by omega) rfl dn_one fun h1 hx1 => ?_
  refine ops_box (cs := [vv, lv]) (by rw [hx1.next]; omega) rfl (by simp [allB, Cells.one hy.v, Cells.one hl]) fun h2 hx2 => ?_
  have n1 := hx1.next
  have n2 := hx2.next
  have r1 := hx1.row.mono hx2.sub
  have r2 := hx2.row
  have hy := (hy.mono hx1.sub).mono hx2.sub
  have hl : Ints h2 lv m e := Cells.mono (Cells.mono hl hx1.sub) hx2.sub
  simp only [rn0, rn1, rn2, rn3, rn4, rn5, rn6, rn7, rn8, if_true, if_false, Nat.le_refl, true_and, and_true, decide_true, decide_false, Bool.not_true, Bool.not_false, reduceIte, Nat.reduceEqDiff, Nat.reduceAdd, Nat.reduceMul, Nat.reduceSub, Nat.reduceLeDiff, Nat.reduceLT, r2.ld, Nat.zero_add, List.getElem?_cons_zero, List.getElem?_cons_succ, Cells.len hl]
  refine W_loop m (fun k f g m' => g = h2 ∧ m' = [] ∧ f 2 = .pointer (some ⟨h.next, 0, none⟩) ∧ f 3 = .pointer (some ⟨h1.next, 0, none⟩) ∧ f 5 = .int .i64 (lossTo S d e k) ∧ f 9 = lv ∧ f 10 = .int .i64 (m : Int) ∧ f 11 = .int .i64 (k : Int)) (by simp; omega) ?_ ?_ ?_
  · simp only [rn0, rn1, rn2, rn3, rn4, rn5, rn6, rn7, rn8, if_true, if_false, Nat.le_refl, true_and, and_true, decide_true, decide_false, Bool.not_true, Bool.not_false, reduceIte, Nat.reduceEqDiff, Nat.reduceAdd, Nat.reduceMul, Nat.reduceSub, Nat.reduceLeDiff, Nat.reduceLT, lossTo]
    first | done | trivial
  · rintro k f g m' hk ⟨rfl, rfl, f2, f3, f5, f9, f10, f11⟩
    have hk' : (k : Int) < (m : Int) := by omega
    have hkv : k < S.nv := by omega
    have hw : wrapF .i64 ((k : Int) + 1) = ((k + 1 : Nat) : Int) := by rw [wrap_in (by omega) (by omega)]; rfl
    have ek := loses_c (n := n) (h := g) (by omega) (by omega) hG hkv (hd k hk) (he k hk)
    have hb := loss_bound hG (d := d) (e := e) k (by omega) fun v hv => ⟨hd v (by omega), he v (by omega)⟩
    have hb2 := lost_bound hG hkv (hd k hk).1 (hd k hk).2 (he k hk).1 (he k hk).2
    have hws : wrapF .i64 (lossTo S d e k + lostS S k (d k) (e k)) = lossTo S d e (k + 1) := by rw [wrap_in (by omega) (by omega)]; rfl
    have hi := idxArr_p (b := h.next) (o := 0) (show k < 3 by omega)
    simp only [rn0, rn1, rn2, rn3, rn4, rn5, rn6, rn7, rn8, if_true, if_false, Nat.le_refl, true_and, and_true, decide_true, decide_false, Bool.not_true, Bool.not_false, reduceIte, Nat.reduceEqDiff, Nat.reduceAdd, Nat.reduceMul, Nat.reduceSub, Nat.reduceLeDiff, Nat.reduceLT, f2, f3, f5, f9, f10, f11, hk', Cells.idx hl hk, Cells.ld hl hk Nat.zero_lt_one]
    refine W_draw All ?_
    simp only [rn0, rn1, rn2, rn3, rn4, rn5, rn6, rn7, rn8, if_true, if_false, Nat.le_refl, true_and, and_true, decide_true, decide_false, Bool.not_true, Bool.not_false, reduceIte, Nat.reduceEqDiff, Nat.reduceAdd, Nat.reduceMul, Nat.reduceSub, Nat.reduceLeDiff, Nat.reduceLT, f2, f3, f5, f9, f10, f11, r2.ld, r1.ld, dn_get (show k < 3 by omega), hi, Nat.zero_add, List.getElem?_cons_zero, List.getElem?_cons_succ, Cells.self hy.v, Cells.idx hy.v hkv, vat_ld hy hkv, eqV_int, ek, hws, hw]
  · rintro f g m' ⟨rfl, rfl, f2, f3, f5, f9, f10, f11⟩
    simp only [rn0, rn1, rn2, rn3, rn4, rn5, rn6, rn7, rn8, if_true, if_false, Nat.le_refl, true_and, and_true, decide_true, decide_false, Bool.not_true, Bool.not_false, reduceIte, Nat.reduceEqDiff, Nat.reduceAdd, Nat.reduceMul, Nat.reduceSub, Nat.reduceLeDiff, Nat.reduceLT, f2, f3, f5, f9, f10, f11, Int.lt_irrefl]
structure OpS (h : AHeap) (vv sv tv : Value) (S : MB) : Prop where
  good : Good S
  some : truthsS S ≠ []
  y : BeatR h vv sv S
  one : oneCell tv = true
  d : DonesR h tv (donesL S)
  long : Long tv
theorem OpS.mono {g : AHeap} {vv sv tv : Value} {S : MB} (ho : OpS h vv sv tv S) (hs : Sub All h g) : OpS g vv sv tv S := ⟨ho.good, ho.some, ho.y.mono hs, ho.one, Cells.mono ho.d hs, ho.long⟩
theorem done_bound {S : MB} (hG : Good S) {t : Nat → Int} (ht : t ∈ donesL S) (v : Nat) : 0 ≤ t v ∧ t v ≤ 13 := by
  obtain ⟨u, hu, rfl⟩ := dones_mem.1 ht
  unfold doneS
  by_cases c : v < S.nv
  · rw [if_pos c]; exact when_bound hG (truth_in hu) c
  · rw [if_neg c]; omega
def s87 : SCode := (.seq (.ops [⟨(some 2), none, .box (T 0)⟩, ⟨(some 4), none, .alloc [(.int .i64 (0)), (.int .i64 (0))]⟩]) (.seq (.ops [⟨(some 5), none, .build #[(0, 1)] [.nilFunc] [0] [(.func 122)]⟩, ⟨(some 6), none, .fieldAddr 5 (T 2)⟩, ⟨(some 7), none, .load1 (T 6)⟩, ⟨(some 8), none, .mov (T 1)⟩, ⟨(some 9), none, .call (.func 123) [(T 5), (T 7), (T 8)]⟩, ⟨none, none, .store 2 (T 4) (T 9)⟩]) .ret))
theorem fok87 : FnOk Try.prog 87 10 s87 [.cellN 4 2] := ⟨Try.f87, _, Try.func87, rfl, Try.ntmps87, by kernel_rfl, by kernel_rfl⟩
theorem whenDone_c (hn : 700 ≤ n) (hr : h.next + 6000 < far) {vv sv tv : Value} {S : MB} (ho : OpS h vv sv tv S) {v : Nat} (hv : v < S.nv) :
    call n (.func (.func 87) #[] #[]) [.agg ⟨wkL S vv sv tv⟩, .int .i64 (v : Int)] h = some (.agg ⟨[.int .i64 (bLo S v), .int .i64 (bHi S v)]⟩, h) := by
  obtain ⟨n, rfl⟩ : ∃ p, n = p + 1 := ⟨n - 1, by omega⟩
  refine call_plain0 fok87 rfl rfl (by simp) rfl ?_
  have ho := ho.mono (g := h.shutAll) fun _ _ _ _ _ h => h
  have hr : h.shutAll.next + 6000 < far := hr
  have hfl : h.shutAll.floor ≤ h.shutAll.next := Nat.le_refl _
  generalize h.shutAll = h at ho hr hfl
  obtain ⟨_, _, z3, _⟩ := ho.good.sizes
  simp only [s87, W_seq, W_ops]
  refine ops_box (cs := wkL S vv sv tv) (by omega) rfl (wk_one ho.y ho.one) fun h1 hx1 => ?_
  have n1 := hx1.next
  have f1 := hx1.floor
  refine ops_alloc (cs := [.int .i64 0, .int .i64 0]) (by omega) rfl fun h2 hx2 => ?_
  have n2 := hx2.next
  have f2 := hx2.floor
  have ho2 := (ho.mono hx1.sub).mono hx2.sub
  have hbd := boundsI_c (n := n) (h := h2) (tv := tv) (L := donesL S) (G := 122) (val := fun d => d v) (ai := v) (by omega) (by omega) (fun e => ho.some (dones_nil.1 e)) (by have := dones_len ho.good; omega) ho2.d ho.long
    fun g hs hg t ht => at_c (by omega) (by omega) (by omega)
  rw [bLo_dones ho.some hv, bHi_dones ho.some hv] at hbd
  simp only [rn0, rn1, rn2, rn3, rn4, rn5, rn6, rn7, rn8, if_true, if_false, Nat.le_refl, true_and, and_true, decide_true, decide_false, Bool.not_true, Bool.not_false, reduceIte, Nat.reduceEqDiff, Nat.reduceAdd, Nat.reduceMul, Nat.reduceSub, Nat.reduceLeDiff, Nat.reduceLT, build_meas, (hx1.row.mono hx2.sub).ld, wkg, Nat.zero_add, hbd]
  refine step_store (b := h1.next) (off := 0) (vs := [.int .i64 (bLo S v), .int .i64 (bHi S v)]) rfl hx2.get (by omega) (by omega) rfl rfl rfl (by simp) fun g8 hs8 => ?_
  rw [splice2] at hs8
  simp only [rn0, rn1, rn2, rn3, rn4, rn5, rn6, rn7, rn8, if_true, if_false, Nat.le_refl, true_and, and_true, decide_true, decide_false, Bool.not_true, Bool.not_false, reduceIte, Nat.reduceEqDiff, Nat.reduceAdd, Nat.reduceMul, Nat.reduceSub, Nat.reduceLeDiff, Nat.reduceLT, res_cellN, hs8.row.whole (n := 2) rfl]
theorem build_plan {a b : Value} (ha : oneCell a = true) (hb : oneCell b = true) : buildA (fun x => (#[(0, 1), (1, 1)] : Array (Nat × Nat))[x]?) ⟨[.slice none 0 0, .slice none 0 0]⟩ [0, 1] h [a, b] = some (.agg ⟨[a, b]⟩, h) := by
  cases a <;> first | (cases ha; done) | skip
  all_goals (cases b <;> first | (cases hb; done) | rfl)
def s93 : SCode := (.seq (.ops [⟨(some 2), none, .box (T 0)⟩, ⟨(some 4), none, .alloc [(.int .i64 (0)), (.int .i64 (0))]⟩]) (.seq (.ops [⟨(some 5), none, .build #[(0, 1)] [.nilFunc] [0] [(.func 124)]⟩, ⟨(some 6), none, .fieldAddr 5 (T 2)⟩, ⟨(some 7), none, .load1 (T 6)⟩, ⟨(some 8), none, .fieldAddr 0 (T 2)⟩, ⟨(some 9), none, .fieldAddr 2 (T 8)⟩, ⟨(some 10), none, .load1 (T 9)⟩, ⟨(some 11), none, .mov (T 1)⟩, ⟨(some 12), none, .build #[(0, 1), (1, 1)] [(.slice none 0 0), (.slice none 0 0)] [0, 1] [(T 10), (T 11)]⟩, ⟨(some 13), none, .call (.func 125) [(T 5), (T 7), (T 12)]⟩, ⟨none, none, .store 2 (T 4) (T 13)⟩]) .ret))
theorem fok93 : FnOk Try.prog 93 14 s93 [.cellN 4 2] := ⟨Try.f93, _, Try.func93, rfl, Try.ntmps93, by kernel_rfl, by kernel_rfl⟩
theorem losses_c (hn : 800 ≤ n) (hr : h.next + 6000 < far) {vv sv tv lv : Value} {S : MB} (ho : OpS h vv sv tv S) {m : Nat} {e : Nat → Int} (hl : Ints h lv m e) (hm : m ≤ S.nv) (he : ∀ v, v < m → 0 ≤ e v ∧ e v ≤ 9) :
    call n (.func (.func 93) #[] #[]) [.agg ⟨wkL S vv sv tv⟩, lv] h = some (.agg ⟨[.int .i64 (wLo S e m), .int .i64 (wHi S e m)]⟩, h) := by
  obtain ⟨n, rfl⟩ : ∃ p, n = p + 1 := ⟨n - 1, by omega⟩
  refine call_plain0 fok93 rfl rfl (by simp) rfl ?_
  have ho := ho.mono (g := h.shutAll) fun _ _ _ _ _ h => h
  have hl := Cells.shut hl
  have hr : h.shutAll.next + 6000 < far := hr
  have hfl : h.shutAll.floor ≤ h.shutAll.next := Nat.le_refl _
  generalize h.shutAll = h at ho hl hr hfl
  simp only [s93, W_seq, W_ops]
  refine ops_box (cs := wkL S vv sv tv) (by omega) rfl (wk_one ho.y ho.one) fun h1 hx1 => ?_
  have n1 := hx1.next
  have f1 := hx1.floor
  refine ops_alloc (cs := [.int .i64 0, .int .i64 0]) (by omega) rfl fun h2 hx2 => ?_
  have n2 := hx2.next
  have f2 := hx2.floor
  have ho2 := (ho.mono hx1.sub).mono hx2.sub
  have hl2 : Ints h2 lv m e := Cells.mono (Cells.mono hl hx1.sub) hx2.sub
  have hbd := boundsP_c (n := n) (h := h2) (tv := tv) (L := donesL S) (G := 124) (val := fun d => lossTo S d e m) (pa := vv) (pb := lv) (by omega) (by omega) (fun e => ho.some (dones_nil.1 e)) (by have := dones_len ho.good; omega) ho2.d ho.long (by simp [allB, Cells.one ho.y.v, Cells.one hl]) (by simp [eqV, eqCells, Cells.selfC ho.y.v, Cells.selfC hl])
    fun g hs hg t ht => lossD_c (by omega) (by omega) (ho2.y.mono hs) (Cells.mono hl2 hs) ho.good hm (fun v _ => done_bound ho.good ht v) he
  rw [wLo_dones ho.some hm, wHi_dones ho.some hm] at hbd
  simp only [rn0, rn1, rn2, rn3, rn4, rn5, rn6, rn7, rn8, if_true, if_false, Nat.le_refl, true_and, and_true, decide_true, decide_false, Bool.not_true, Bool.not_false, reduceIte, Nat.reduceEqDiff, Nat.reduceAdd, Nat.reduceMul, Nat.reduceSub, Nat.reduceLeDiff, Nat.reduceLT, build_meas, (hx1.row.mono hx2.sub).ld, wkg, Nat.zero_add, build_plan (Cells.one ho.y.v) (Cells.one hl), hbd]
  refine step_store (b := h1.next) (off := 0) (vs := [.int .i64 (wLo S e m), .int .i64 (wHi S e m)]) rfl hx2.get (by omega) (by omega) rfl rfl rfl (by simp) fun g8 hs8 => ?_
  rw [splice2] at hs8
  simp only [rn0, rn1, rn2, rn3, rn4, rn5, rn6, rn7, rn8, if_true, if_false, Nat.le_refl, true_and, and_true, decide_true, decide_false, Bool.not_true, Bool.not_false, reduceIte, Nat.reduceEqDiff, Nat.reduceAdd, Nat.reduceMul, Nat.reduceSub, Nat.reduceLeDiff, Nat.reduceLT, res_cellN, hs8.row.whole (n := 2) rfl]
end Go.Vm.Bt

namespace Go.Vm.Bt
open Go.Proofs Go.Vm.Vat Go.Vm.L2
set_option linter.unusedSimpArgs false
set_option linter.unusedVariables false
set_option maxRecDepth 10000
variable {n : Nat} {h : AHeap}
noncomputable instance (S : MB) : Decidable (ThinS S) := Classical.propDecidable _
def s45 : SCode := (.seq (.ops [⟨(some 1), none, .box (T 0)⟩, ⟨(some 2), none, .mov (.const (.int .i64 (0)))⟩]) (.seq (.seq (.ops [⟨(some 7), none, .fieldAddr 3 (T 1)⟩, ⟨(some 8), none, .load1 (T 7)⟩, ⟨(some 9), none, .int2 .gtr (T 8) (.const (.int .i64 (9)))⟩, ⟨(some 10), none, .mov (T 9)⟩, ⟨(some 11), (some (10, false)), .fieldAddr 2 (T 1)⟩, ⟨(some 12), (some (10, false)), .load1 (T 11)⟩, ⟨(some 13), (some (10, false)), .len (T 12)⟩, ⟨(some 14), (some (10, false)), .int2 .gtr (T 13) (.const (.int .i64 (3)))⟩, ⟨(some 15), none, .pick (T 10) (.const (.bool true)) (T 14)⟩, ⟨(some 16), none, .mov (T 15)⟩, ⟨(some 17), (some (16, false)), .fieldAddr 4 (T 1)⟩, ⟨(some 18), (some (16, false)), .load1 (T 17)⟩, ⟨(some 19), (some (16, false)), .len (T 18)⟩, ⟨(some 20), (some (16, false)), .int2 .gtr (T 19) (.const (.int .i64 (5)))⟩, ⟨(some 21), none, .pick (T 16) (.const (.bool true)) (T 20)⟩]) (.cond (T 21) (.seq (.ops [⟨(some 2), none, .mov (.const (.int .i64 (3)))⟩]) .ret) .skip)) (.seq (.seq (.ops [⟨(some 22), none, .fieldAddr 3 (T 1)⟩, ⟨(some 23), none, .load1 (T 22)⟩, ⟨(some 24), none, .int2 .lss (T 23) (.const (.int .i64 (0)))⟩, ⟨(some 25), none, .mov (T 24)⟩, ⟨(some 26), (some (25, false)), .fieldAddr 0 (T 1)⟩, ⟨(some 27), (some (25, false)), .loadN 2 (T 26)⟩, ⟨(some 28), (some (25, false)), .call (.func 94) [(T 27), (.const (.int .i64 (4)))]⟩, ⟨(some 29), (some (25, false)), .not (T 28)⟩, ⟨(some 30), none, .pick (T 25) (.const (.bool true)) (T 29)⟩]) (.cond (T 30) (.seq (.ops [⟨(some 2), none, .mov (.const (.int .i64 (1)))⟩]) .ret) .skip)) (.seq (.seq (.ops [⟨(some 3), none, .mov (.const (.int .i64 (0)))⟩]) (.block 0 (.loop (.seq (.seq (.ops [⟨(some 31), none, .mov (T 3)⟩, ⟨(some 32), none, .fieldAddr 2 (T 1)⟩, ⟨(some 33), none, .load1 (T 32)⟩, ⟨(some 34), none, .len (T 33)⟩, ⟨(some 35), none, .int2 .lss (T 31) (T 34)⟩]) (.cond (T 35) .skip (.exit 0))) (.seq (.block 1 (.seq (.ops [⟨(some 38), none, .fieldAddr 2 (T 1)⟩, ⟨(some 39), none, .load1 (T 38)⟩, ⟨(some 40), none, .mov (T 3)⟩, ⟨(some 41), none, .idxSl 4 (T 39) (T 40)⟩, ⟨(some 42), none, .loadN 4 (T 41)⟩, ⟨(some 4), none, .alloc [(.int .i64 (0)), (.int .i64 (0)), (.int .i64 (0)), (.int .i64 (0))]⟩, ⟨none, none, .store 4 (T 4) (T 42)⟩]) (.seq (.ops [⟨(some 43), none, .fieldAddr 0 (T 4)⟩, ⟨(some 44), none, .loadN 2 (T 43)⟩, ⟨(some 45), none, .call (.func 94) [(T 44), (.const (.int .i64 (9)))]⟩, ⟨(some 46), none, .not (T 45)⟩, ⟨(some 47), none, .mov (T 46)⟩, ⟨(some 48), (some (47, false)), .fieldAddr 2 (T 4)⟩, ⟨(some 49), (some (47, false)), .load1 (T 48)⟩, ⟨(some 50), (some (47, false)), .call (.func 39) [(T 49), (.const (.int .i64 (0))), (.const (.int .i64 (20)))]⟩, ⟨(some 51), (some (47, false)), .not (T 50)⟩, ⟨(some 52), none, .pick (T 47) (.const (.bool true)) (T 51)⟩, ⟨(some 53), none, .mov (T 52)⟩, ⟨(some 54), (some (53, false)), .fieldAddr 3 (T 4)⟩, ⟨(some 55), (some (53, false)), .load1 (T 54)⟩, ⟨(some 56), (some (53, false)), .call (.func 39) [(T 55), (.const (.int .i64 (0))), (.const (.int .i64 (20)))]⟩, ⟨(some 57), (some (53, false)), .not (T 56)⟩, ⟨(some 58), none, .pick (T 53) (.const (.bool true)) (T 57)⟩]) (.cond (T 58) (.seq (.ops [⟨(some 2), none, .mov (.const (.int .i64 (1)))⟩]) .ret) .skip)))) (.ops [⟨(some 36), none, .mov (T 3)⟩, ⟨(some 37), none, .int2 .add (T 36) (.const (.int .i64 (1)))⟩, ⟨(some 3), none, .mov (T 37)⟩])))))) (.seq (.seq (.ops [⟨(some 5), none, .mov (.const (.int .i64 (0)))⟩]) (.block 2 (.loop (.seq (.seq (.ops [⟨(some 59), none, .mov (T 5)⟩, ⟨(some 60), none, .fieldAddr 4 (T 1)⟩, ⟨(some 61), none, .load1 (T 60)⟩, ⟨(some 62), none, .len (T 61)⟩, ⟨(some 63), none, .int2 .lss (T 59) (T 62)⟩]) (.cond (T 63) .skip (.exit 2))) (.seq (.block 3 (.seq (.ops [⟨(some 66), none, .fieldAddr 4 (T 1)⟩, ⟨(some 67), none, .load1 (T 66)⟩, ⟨(some 68), none, .mov (T 5)⟩, ⟨(some 69), none, .idxSl 3 (T 67) (T 68)⟩, ⟨(some 70), none, .loadN 3 (T 69)⟩, ⟨(some 6), none, .alloc [(.int .i64 (0)), (.int .i64 (0)), (.bool false)]⟩, ⟨none, none, .store 3 (T 6) (T 70)⟩]) (.seq (.ops [⟨(some 71), none, .fieldAddr 0 (T 6)⟩, ⟨(some 72), none, .load1 (T 71)⟩, ⟨(some 73), none, .fieldAddr 2 (T 1)⟩, ⟨(some 74), none, .load1 (T 73)⟩, ⟨(some 75), none, .len (T 74)⟩, ⟨(some 76), none, .int2 .sub (T 75) (.const (.int .i64 (1)))⟩, ⟨(some 77), none, .call (.func 39) [(T 72), (.const (.int .i64 (0))), (T 76)]⟩, ⟨(some 78), none, .not (T 77)⟩, ⟨(some 79), none, .mov (T 78)⟩, ⟨(some 80), (some (79, false)), .fieldAddr 1 (T 6)⟩, ⟨(some 81), (some (79, false)), .load1 (T 80)⟩, ⟨(some 82), (some (79, false)), .fieldAddr 3 (T 1)⟩, ⟨(some 83), (some (79, false)), .load1 (T 82)⟩, ⟨(some 84), (some (79, false)), .call (.func 39) [(T 81), (.const (.int .i64 (0))), (T 83)]⟩, ⟨(some 85), (some (79, false)), .not (T 84)⟩, ⟨(some 86), none, .pick (T 79) (.const (.bool true)) (T 85)⟩]) (.cond (T 86) (.seq (.ops [⟨(some 2), none, .mov (.const (.int .i64 (1)))⟩]) .ret) .skip)))) (.ops [⟨(some 64), none, .mov (T 5)⟩, ⟨(some 65), none, .int2 .add (T 64) (.const (.int .i64 (1)))⟩, ⟨(some 5), none, .mov (T 65)⟩])))))) (.seq (.seq (.ops [⟨(some 87), none, .loadN 5 (T 1)⟩, ⟨(some 88), none, .call (.func 70) [(T 87)]⟩, ⟨(some 89), none, .int2 .gtr (T 88) (.const (.int .i64 (200)))⟩]) (.cond (T 89) (.seq (.ops [⟨(some 2), none, .mov (.const (.int .i64 (3)))⟩]) .ret) .skip)) (.seq (.ops [⟨(some 2), none, .mov (.const (.int .i64 (0)))⟩]) .ret)))))))
theorem fok45 : FnOk Try.prog 45 90 s45 [.tmp 2] := ⟨Try.f45, _, Try.func45, rfl, Try.ntmps45, by kernel_rfl, by kernel_rfl⟩
set_option maxHeartbeats 1000000 in
theorem fault_c (hn : 120 ≤ n) (hr : h.next + 100 < far) {vv sv : Value} {S : MB} (hy : BeatR h vv sv S) (hl : ThinS S) :
    call n (.func (.func 45) #[] #[]) [.agg ⟨beL S vv sv⟩] h = some (.int .i64 (faultS S), h) := by
  obtain ⟨n, rfl⟩ : ∃ p, n = p + 1 := ⟨n - 1, by omega⟩
  refine call_plain0 fok45 rfl rfl (by simp) rfl ?_
  have hy := hy.shut
  have hr : h.shutAll.next + 100 < far := hr
  have hfl : h.shutAll.floor ≤ h.shutAll.next := Nat.le_refl _
  generalize h.shutAll = h at hy hr hfl
  simp only [s45, W_seq, W_ops]
  refine ops_box (cs := beL S vv sv) (by omega) rfl hy.one fun h1 hx => ?_
  have hy := hy.mono hx.sub
  have n1 := hx.next
  have f1' := hx.floor
  have r1 := hx.row
  have e3 : ¬ LimOk S → faultS S = 3 := fun e => by unfold faultS; rw [if_pos e]
  by_cases c1 : 9 < S.last
  · have := e3 fun e => by have := e.1; omega
    simp only [rn0, rn1, rn2, rn3, rn4, rn5, rn6, rn7, rn8, if_true, if_false, Nat.le_refl, true_and, and_true, decide_true, decide_false, Bool.not_true, Bool.not_false, reduceIte, Nat.reduceEqDiff, Nat.reduceAdd, Nat.reduceMul, Nat.reduceSub, Nat.reduceLeDiff, Nat.reduceLT, r1.ld, beg, Nat.zero_add, c1, this]
  by_cases c2 : (3 : Int) < (S.nv : Int)
  · have := e3 fun e => by have := e.2.1; omega
    simp only [rn0, rn1, rn2, rn3, rn4, rn5, rn6, rn7, rn8, if_true, if_false, Nat.le_refl, true_and, and_true, decide_true, decide_false, Bool.not_true, Bool.not_false, reduceIte, Nat.reduceEqDiff, Nat.reduceAdd, Nat.reduceMul, Nat.reduceSub, Nat.reduceLeDiff, Nat.reduceLT, r1.ld, beg, Nat.zero_add, c1, Cells.len hy.v, c2, this]
  by_cases c3 : (5 : Int) < (S.ns : Int)
  · have := e3 fun e => by have := e.2.2; omega
    simp only [rn0, rn1, rn2, rn3, rn4, rn5, rn6, rn7, rn8, if_true, if_false, Nat.le_refl, true_and, and_true, decide_true, decide_false, Bool.not_true, Bool.not_false, reduceIte, Nat.reduceEqDiff, Nat.reduceAdd, Nat.reduceMul, Nat.reduceSub, Nat.reduceLeDiff, Nat.reduceLT, r1.ld, beg, Nat.zero_add, c1, Cells.len hy.v, c2, Cells.len hy.s, c3, this]
  have hL : LimOk S := ⟨by omega, by omega, by omega⟩
  have bad : ¬ ArgsOk S → faultS S = 1 := fun e => by unfold faultS; rw [if_neg (by simpa using hL), if_pos e]
  simp only [rn0, rn1, rn2, rn3, rn4, rn5, rn6, rn7, rn8, if_true, if_false, Nat.le_refl, true_and, and_true, decide_true, decide_false, Bool.not_true, Bool.not_false, reduceIte, Nat.reduceEqDiff, Nat.reduceAdd, Nat.reduceMul, Nat.reduceSub, Nat.reduceLeDiff, Nat.reduceLT, r1.ld, beg, Nat.zero_add, c1, Cells.len hy.v, c2, Cells.len hy.s, c3]
  by_cases c4 : S.last < 0
  · have := bad fun e => by have := e.head.1; omega
    simp only [rn0, rn1, rn2, rn3, rn4, rn5, rn6, rn7, rn8, if_true, if_false, Nat.le_refl, true_and, and_true, decide_true, decide_false, Bool.not_true, Bool.not_false, reduceIte, Nat.reduceEqDiff, Nat.reduceAdd, Nat.reduceMul, Nat.reduceSub, Nat.reduceLeDiff, Nat.reduceLT, r1.ld, beg, Nat.zero_add, c4, this]
  have i2 := is_c (n := n) (h := h1) (by omega) (by omega) S.slo S.shi 4
  by_cases c7 : 0 ≤ S.slo ∧ S.slo ≤ S.shi ∧ S.shi ≤ 4
  case neg =>
    have := bad fun e => c7 e.head.2
    simp only [rn0, rn1, rn2, rn3, rn4, rn5, rn6, rn7, rn8, if_true, if_false, Nat.le_refl, true_and, and_true, decide_true, decide_false, Bool.not_true, Bool.not_false, reduceIte, Nat.reduceEqDiff, Nat.reduceAdd, Nat.reduceMul, Nat.reduceSub, Nat.reduceLeDiff, Nat.reduceLT, r1.ld, beg, Nat.zero_add, c4, be_rng r1, i2, c7, this]
  have hH : HeadOk S := ⟨by omega, c7⟩
  simp only [rn0, rn1, rn2, rn3, rn4, rn5, rn6, rn7, rn8, if_true, if_false, Nat.le_refl, true_and, and_true, decide_true, decide_false, Bool.not_true, Bool.not_false, reduceIte, Nat.reduceEqDiff, Nat.reduceAdd, Nat.reduceMul, Nat.reduceSub, Nat.reduceLeDiff, Nat.reduceLT, r1.ld, beg, Nat.zero_add, c4, be_rng r1, i2, c7, and_self]
  refine W_loop S.nv (fun k f g' ms => (Sub All h1 g' ∧ g'.next = h1.next + k ∧ g'.floor = h1.floor) ∧ ms = [] ∧ f 1 = .pointer (some ⟨h.next, 0, none⟩) ∧ f 3 = .int .i64 (k : Int) ∧ ∀ i, i < k → (0 ≤ S.nlo i ∧ S.nlo i ≤ S.nhi i ∧ S.nhi i ≤ 9) ∧ (0 ≤ S.ve i ∧ S.ve i ≤ 20) ∧ 0 ≤ S.vl i ∧ S.vl i ≤ 20) (by simp; omega) ?_ ?_ ?_
  · simp only [rn0, rn1, rn2, rn3, rn4, rn5, rn6, rn7, rn8, if_true, if_false, Nat.le_refl, true_and, and_true, decide_true, decide_false, Bool.not_true, Bool.not_false, reduceIte, Nat.reduceEqDiff, Nat.reduceAdd, Nat.reduceMul, Nat.reduceSub, Nat.reduceLeDiff, Nat.reduceLT, Nat.not_lt_zero, false_implies, implies_true, Nat.add_zero]
    trivial
  · rintro k f g' ms hk ⟨⟨g1, g2, g3⟩, rfl, f1, f3, hlt⟩
    have hk' : (k : Int) < (S.nv : Int) := by omega
    have hw : wrapF .i64 ((k : Int) + 1) = ((k + 1 : Nat) : Int) := by rw [wrap_in (by omega) (by omega)]; rfl
    have hyg := hy.mono g1
    have rg := r1.mono g1
    simp only [rn0, rn1, rn2, rn3, rn4, rn5, rn6, rn7, rn8, if_true, if_false, Nat.le_refl, true_and, and_true, decide_true, decide_false, Bool.not_true, Bool.not_false, reduceIte, Nat.reduceEqDiff, Nat.reduceAdd, Nat.reduceMul, Nat.reduceSub, Nat.reduceLeDiff, Nat.reduceLT, f1, f3, rg.ld, beg, Nat.zero_add, Cells.len hyg.v, hk', Cells.idx hyg.v hk, vat_ld hyg hk]
    refine step_new (vs := vaL S k) (by omega) (by omega) rfl (by simp only [rn0, rn1, rn2, rn3, rn4, rn5, rn6, rn7, rn8, if_true, if_false, Nat.le_refl, true_and, and_true, decide_true, decide_false, Bool.not_true, Bool.not_false, reduceIte, Nat.reduceEqDiff, Nat.reduceAdd, Nat.reduceMul, Nat.reduceSub, Nat.reduceLeDiff, Nat.reduceLT]; rfl) rfl rfl rfl fun g4 hx4 => ?_
    have n4 := hx4.next
    have f4' := hx4.floor
    have hin : (Sub All h1 g4 ∧ g4.next = h1.next + (k + 1) ∧ g4.floor = h1.floor) = True := eq_true ⟨g1.trans hx4.sub, by omega, by omega⟩
    have j1 := is_c (n := n) (h := g4) (by omega) (by omega) (S.nlo k) (S.nhi k) 9
    have j2 := in_c (n := n) (h := g4) (by omega) (S.ve k) 0 20
    have j3 := in_c (n := n) (h := g4) (by omega) (S.vl k) 0 20
    have e0 : loadAgg 2 g4 (.pointer (some ⟨g'.next, 0, none⟩)) = some (.agg ⟨[.int .i64 (S.nlo k), .int .i64 (S.nhi k)]⟩) := hx4.ldN 0 2 (by simp [vaL]) (by simp [vaL])
    by_cases q1 : 0 ≤ S.nlo k ∧ S.nlo k ≤ S.nhi k ∧ S.nhi k ≤ 9
    case neg =>
      have := bad fun hb => q1 (hb.vat k hk).1
      simp only [rn0, rn1, rn2, rn3, rn4, rn5, rn6, rn7, rn8, if_true, if_false, Nat.le_refl, true_and, and_true, decide_true, decide_false, Bool.not_true, Bool.not_false, reduceIte, Nat.reduceEqDiff, Nat.reduceAdd, Nat.reduceMul, Nat.reduceSub, Nat.reduceLeDiff, Nat.reduceLT, f1, f3, e0, hx4.ld, vag, Nat.zero_add, j1, q1, this]
    by_cases q2 : 0 ≤ S.ve k ∧ S.ve k ≤ 20
    case neg =>
      have := bad fun hb => q2 (hb.vat k hk).2.1
      simp only [rn0, rn1, rn2, rn3, rn4, rn5, rn6, rn7, rn8, if_true, if_false, Nat.le_refl, true_and, and_true, decide_true, decide_false, Bool.not_true, Bool.not_false, reduceIte, Nat.reduceEqDiff, Nat.reduceAdd, Nat.reduceMul, Nat.reduceSub, Nat.reduceLeDiff, Nat.reduceLT, f1, f3, e0, hx4.ld, vag, Nat.zero_add, j1, q1, and_self, j2, q2, this]
    by_cases q3 : 0 ≤ S.vl k ∧ S.vl k ≤ 20
    case neg =>
      have := bad fun hb => q3 (hb.vat k hk).2.2
      simp only [rn0, rn1, rn2, rn3, rn4, rn5, rn6, rn7, rn8, if_true, if_false, Nat.le_refl, true_and, and_true, decide_true, decide_false, Bool.not_true, Bool.not_false, reduceIte, Nat.reduceEqDiff, Nat.reduceAdd, Nat.reduceMul, Nat.reduceSub, Nat.reduceLeDiff, Nat.reduceLT, f1, f3, e0, hx4.ld, vag, Nat.zero_add, j1, q1, and_self, j2, q2, j3, q3, this]
    simp only [rn0, rn1, rn2, rn3, rn4, rn5, rn6, rn7, rn8, if_true, if_false, Nat.le_refl, true_and, and_true, decide_true, decide_false, Bool.not_true, Bool.not_false, reduceIte, Nat.reduceEqDiff, Nat.reduceAdd, Nat.reduceMul, Nat.reduceSub, Nat.reduceLeDiff, Nat.reduceLT, f1, f3, e0, hx4.ld, vag, Nat.zero_add, j1, q1, and_self, j2, q2, j3, q3, hw, hin]
    intro j hj
    by_cases e : j = k
    · subst e; exact ⟨q1, q2, q3⟩
    · exact hlt j (by omega)
  rintro f g2 ms ⟨⟨k1, k2, k3⟩, rfl, f1, f3, hV⟩
  have hy := hy.mono k1
  have r1 := r1.mono k1
  simp only [rn0, rn1, rn2, rn3, rn4, rn5, rn6, rn7, rn8, if_true, if_false, Nat.le_refl, true_and, and_true, decide_true, decide_false, Bool.not_true, Bool.not_false, reduceIte, Nat.reduceEqDiff, Nat.reduceAdd, Nat.reduceMul, Nat.reduceSub, Nat.reduceLeDiff, Nat.reduceLT, f1, f3, r1.ld, beg, Nat.zero_add, Cells.len hy.v, Int.lt_irrefl]
  clear f3
  have hwv : wrapF .i64 ((S.nv : Int) - 1) = (S.nv : Int) - 1 := wrap_in (by omega) (by omega)
  refine W_loop S.ns (fun k f g' ms => (Sub All g2 g' ∧ g'.next = g2.next + k ∧ g'.floor = g2.floor) ∧ ms = [] ∧ f 1 = .pointer (some ⟨h.next, 0, none⟩) ∧ f 5 = .int .i64 (k : Int) ∧ ∀ i, i < k → (0 ≤ S.sv i ∧ S.sv i ≤ (S.nv : Int) - 1) ∧ 0 ≤ S.sh i ∧ S.sh i ≤ S.last) (by simp; omega) ?_ ?_ ?_
  · simp only [rn0, rn1, rn2, rn3, rn4, rn5, rn6, rn7, rn8, if_true, if_false, Nat.le_refl, true_and, and_true, decide_true, decide_false, Bool.not_true, Bool.not_false, reduceIte, Nat.reduceEqDiff, Nat.reduceAdd, Nat.reduceMul, Nat.reduceSub, Nat.reduceLeDiff, Nat.reduceLT, f1, Nat.not_lt_zero, false_implies, implies_true, Nat.add_zero]
    trivial
  · rintro k f g' ms hk ⟨⟨g1, g2', g3⟩, rfl, f1, f5, hlt⟩
    have hk' : (k : Int) < (S.ns : Int) := by omega
    have hw : wrapF .i64 ((k : Int) + 1) = ((k + 1 : Nat) : Int) := by rw [wrap_in (by omega) (by omega)]; rfl
    have hyg := hy.mono g1
    have rg := r1.mono g1
    simp only [rn0, rn1, rn2, rn3, rn4, rn5, rn6, rn7, rn8, if_true, if_false, Nat.le_refl, true_and, and_true, decide_true, decide_false, Bool.not_true, Bool.not_false, reduceIte, Nat.reduceEqDiff, Nat.reduceAdd, Nat.reduceMul, Nat.reduceSub, Nat.reduceLeDiff, Nat.reduceLT, f1, f5, rg.ld, beg, Nat.zero_add, Cells.len hyg.s, hk', Cells.idx hyg.s hk, samp_ld hyg hk]
    refine step_new (vs := smL S k) (by omega) (by omega) rfl (by simp only [rn0, rn1, rn2, rn3, rn4, rn5, rn6, rn7, rn8, if_true, if_false, Nat.le_refl, true_and, and_true, decide_true, decide_false, Bool.not_true, Bool.not_false, reduceIte, Nat.reduceEqDiff, Nat.reduceAdd, Nat.reduceMul, Nat.reduceSub, Nat.reduceLeDiff, Nat.reduceLT]; rfl) rfl rfl rfl fun g4 hx4 => ?_
    have n4 := hx4.next
    have f4' := hx4.floor
    have rg4 := rg.mono hx4.sub
    have hy4 := hyg.mono hx4.sub
    have hin : (Sub All g2 g4 ∧ g4.next = g2.next + (k + 1) ∧ g4.floor = g2.floor) = True := eq_true ⟨g1.trans hx4.sub, by omega, by omega⟩
    have j1 := in_c (n := n) (h := g4) (by omega) (S.sv k) 0 ((S.nv : Int) - 1)
    have j2 := in_c (n := n) (h := g4) (by omega) (S.sh k) 0 S.last
    by_cases q1 : 0 ≤ S.sv k ∧ S.sv k ≤ (S.nv : Int) - 1
    case neg =>
      have := bad fun hb => q1 (hb.samp k hk).1
      simp only [rn0, rn1, rn2, rn3, rn4, rn5, rn6, rn7, rn8, if_true, if_false, Nat.le_refl, true_and, and_true, decide_true, decide_false, Bool.not_true, Bool.not_false, reduceIte, Nat.reduceEqDiff, Nat.reduceAdd, Nat.reduceMul, Nat.reduceSub, Nat.reduceLeDiff, Nat.reduceLT, f1, f5, rg4.ld, hx4.ld, beg, smg, Nat.zero_add, Cells.len hy4.v, hwv, j1, q1, this]
    by_cases q2 : 0 ≤ S.sh k ∧ S.sh k ≤ S.last
    case neg =>
      have := bad fun hb => q2 (hb.samp k hk).2
      simp only [rn0, rn1, rn2, rn3, rn4, rn5, rn6, rn7, rn8, if_true, if_false, Nat.le_refl, true_and, and_true, decide_true, decide_false, Bool.not_true, Bool.not_false, reduceIte, Nat.reduceEqDiff, Nat.reduceAdd, Nat.reduceMul, Nat.reduceSub, Nat.reduceLeDiff, Nat.reduceLT, f1, f5, rg4.ld, hx4.ld, beg, smg, Nat.zero_add, Cells.len hy4.v, hwv, j1, q1, and_self, j2, q2, this]
    simp only [rn0, rn1, rn2, rn3, rn4, rn5, rn6, rn7, rn8, if_true, if_false, Nat.le_refl, true_and, and_true, decide_true, decide_false, Bool.not_true, Bool.not_false, reduceIte, Nat.reduceEqDiff, Nat.reduceAdd, Nat.reduceMul, Nat.reduceSub, Nat.reduceLeDiff, Nat.reduceLT, f1, f5, rg4.ld, hx4.ld, beg, smg, Nat.zero_add, Cells.len hy4.v, hwv, j1, q1, and_self, j2, q2, hw, hin]
    intro j hj
    by_cases e : j = k
    · subst e; exact ⟨q1, q2⟩
    · exact hlt j (by omega)
  rintro f g3 ms ⟨⟨l1, l2, l3⟩, rfl, f1, f5, hS⟩
  have hy := hy.mono l1
  have r1 := r1.mono l1
  have hA : ArgsOk S := ⟨hH, hV, hS⟩
  have em := manyR_c (n := n) (h := g3) (by omega) (by omega) hy hA (by omega)
  have w1 := r1.whole (n := 5) rfl
  have hF : faultS S = if 200 < manyS S then 3 else 0 := by unfold faultS; rw [if_neg (by simpa using hL), if_neg (by simpa using hA)]
  by_cases hm : 200 < manyS S
  · rw [if_pos hm] at hF
    simp only [rn0, rn1, rn2, rn3, rn4, rn5, rn6, rn7, rn8, if_true, if_false, Nat.le_refl, true_and, and_true, decide_true, decide_false, Bool.not_true, Bool.not_false, reduceIte, Nat.reduceEqDiff, Nat.reduceAdd, Nat.reduceMul, Nat.reduceSub, Nat.reduceLeDiff, Nat.reduceLT, f1, f5, r1.ld, beg, Nat.zero_add, Cells.len hy.s, Int.lt_irrefl, w1, em, hm, hF]
  · rw [if_neg hm] at hF
    simp only [rn0, rn1, rn2, rn3, rn4, rn5, rn6, rn7, rn8, if_true, if_false, Nat.le_refl, true_and, and_true, decide_true, decide_false, Bool.not_true, Bool.not_false, reduceIte, Nat.reduceEqDiff, Nat.reduceAdd, Nat.reduceMul, Nat.reduceSub, Nat.reduceLeDiff, Nat.reduceLT, f1, f5, r1.ld, beg, Nat.zero_add, Cells.len hy.s, Int.lt_irrefl, w1, em, hm, hF]
def s23 : SCode := (.seq (.ops [⟨(some 1), none, .box (T 0)⟩, ⟨(some 2), none, .mov (.const (.bool false))⟩]) (.seq (.ops [⟨(some 3), none, .fieldAddr 2 (T 1)⟩, ⟨(some 4), none, .load1 (T 3)⟩, ⟨(some 5), none, .len (T 4)⟩, ⟨(some 6), none, .int2 .leq (T 5) (.const (.int .i64 (30)))⟩, ⟨(some 7), none, .mov (T 6)⟩, ⟨(some 8), (some (7, true)), .fieldAddr 4 (T 1)⟩, ⟨(some 9), (some (7, true)), .load1 (T 8)⟩, ⟨(some 10), (some (7, true)), .len (T 9)⟩, ⟨(some 11), (some (7, true)), .int2 .leq (T 10) (.const (.int .i64 (30)))⟩, ⟨(some 12), none, .pick (T 7) (T 11) (.const (.bool false))⟩, ⟨(some 2), none, .mov (T 12)⟩]) .ret))
theorem fok23 : FnOk Try.prog 23 13 s23 [.tmp 2] := ⟨Try.f23, _, Try.func23, rfl, Try.ntmps23, by kernel_rfl, by kernel_rfl⟩
theorem thin_c (hn : 1 ≤ n) (hr : h.next < far) {vv sv : Value} {S : MB} (hy : BeatR h vv sv S) :
    call n (.func (.func 23) #[] #[]) [.agg ⟨beL S vv sv⟩] h = some (.bool (decide (ThinS S)), h) := by
  obtain ⟨n, rfl⟩ : ∃ p, n = p + 1 := ⟨n - 1, by omega⟩
  refine call_plain0 fok23 rfl rfl (by simp) rfl ?_
  have hy := hy.shut
  have hr : h.shutAll.next < far := hr
  generalize h.shutAll = h at hy hr
  simp only [s23, W_seq, W_ops]
  refine ops_box (cs := beL S vv sv) hr rfl hy.one fun h1 hx => ?_
  have hy := hy.mono hx.sub
  by_cases c2 : (S.nv : Int) ≤ 30
  case neg =>
    have : ¬ ThinS S := fun e => c2 (by have := e.1; omega)
    simp only [rn0, rn1, rn2, rn3, rn4, rn5, rn6, rn7, rn8, if_true, if_false, Nat.le_refl, true_and, and_true, decide_true, decide_false, Bool.not_true, Bool.not_false, reduceIte, Nat.reduceEqDiff, Nat.reduceAdd, Nat.reduceMul, Nat.reduceSub, Nat.reduceLeDiff, Nat.reduceLT, hx.ld, beg, Nat.zero_add, Cells.len hy.v, c2, this]
  by_cases c3 : (S.ns : Int) ≤ 30
  · have : ThinS S := ⟨by omega, by omega⟩
    simp only [rn0, rn1, rn2, rn3, rn4, rn5, rn6, rn7, rn8, if_true, if_false, Nat.le_refl, true_and, and_true, decide_true, decide_false, Bool.not_true, Bool.not_false, reduceIte, Nat.reduceEqDiff, Nat.reduceAdd, Nat.reduceMul, Nat.reduceSub, Nat.reduceLeDiff, Nat.reduceLT, hx.ld, beg, Nat.zero_add, Cells.len hy.v, c2, Cells.len hy.s, c3, this]
  · have : ¬ ThinS S := fun e => c3 (by have := e.2; omega)
    simp only [rn0, rn1, rn2, rn3, rn4, rn5, rn6, rn7, rn8, if_true, if_false, Nat.le_refl, true_and, and_true, decide_true, decide_false, Bool.not_true, Bool.not_false, reduceIte, Nat.reduceEqDiff, Nat.reduceAdd, Nat.reduceMul, Nat.reduceSub, Nat.reduceLeDiff, Nat.reduceLT, hx.ld, beg, Nat.zero_add, Cells.len hy.v, c2, Cells.len hy.s, c3, this]
def s30 : SCode := (.seq (.ops [⟨(some 1), none, .box (T 0)⟩, ⟨(some 2), none, .mov (.const (.int .i64 (0)))⟩]) (.seq (.ops [⟨(some 3), none, .loadN 5 (T 1)⟩, ⟨(some 4), none, .call (.func 45) [(T 3)]⟩, ⟨(some 2), none, .mov (T 4)⟩]) .ret))
theorem fok30 : FnOk Try.prog 30 5 s30 [.tmp 2] := ⟨Try.f30, _, Try.func30, rfl, Try.ntmps30, by kernel_rfl, by kernel_rfl⟩
theorem faultL_c (hn : 130 ≤ n) (hr : h.next + 110 < far) {vv sv : Value} {S : MB} (hy : BeatR h vv sv S) (hl : ThinS S) :
    call n (.func (.func 30) #[] #[]) [.agg ⟨beL S vv sv⟩] h = some (.int .i64 (faultS S), h) := by
  obtain ⟨n, rfl⟩ : ∃ p, n = p + 1 := ⟨n - 1, by omega⟩
  refine call_plain0 fok30 rfl rfl (by simp) rfl ?_
  have hy := hy.shut
  have hr : h.shutAll.next + 110 < far := hr
  generalize h.shutAll = h at hy hr
  simp only [s30, W_seq, W_ops]
  refine ops_box (cs := beL S vv sv) (by omega) rfl hy.one fun h1 hx => ?_
  have n1 := hx.next
  have ef := fault_c (n := n) (h := h1) (by omega) (by omega) (hy.mono hx.sub) hl
  simp only [rn0, rn1, rn2, rn3, rn4, rn5, rn6, rn7, rn8, if_true, if_false, Nat.le_refl, true_and, and_true, decide_true, decide_false, Bool.not_true, Bool.not_false, reduceIte, Nat.reduceEqDiff, Nat.reduceAdd, Nat.reduceMul, Nat.reduceSub, Nat.reduceLeDiff, Nat.reduceLT, hx.row.whole (n := 5) rfl, ef]
def Rdy (S : MB) : Prop := ThinS S ∧ faultS S = 0
noncomputable instance (S : MB) : Decidable (Rdy S) := Classical.propDecidable _
def s63 : SCode := (.seq (.ops [⟨(some 1), none, .box (T 0)⟩, ⟨(some 2), none, .mov (.const (.bool false))⟩]) (.seq (.ops [⟨(some 3), none, .loadN 5 (T 1)⟩, ⟨(some 4), none, .call (.func 23) [(T 3)]⟩, ⟨(some 5), none, .mov (T 4)⟩, ⟨(some 6), (some (5, true)), .loadN 5 (T 1)⟩, ⟨(some 7), (some (5, true)), .call (.func 30) [(T 6)]⟩, ⟨(some 8), (some (5, true)), .int2 .eql (T 7) (.const (.int .i64 (0)))⟩, ⟨(some 9), none, .pick (T 5) (T 8) (.const (.bool false))⟩, ⟨(some 2), none, .mov (T 9)⟩]) .ret))
theorem fok63 : FnOk Try.prog 63 10 s63 [.tmp 2] := ⟨Try.f63, _, Try.func63, rfl, Try.ntmps63, by kernel_rfl, by kernel_rfl⟩
theorem ready_c (hn : 140 ≤ n) (hr : h.next + 120 < far) {vv sv : Value} {S : MB} (hy : BeatR h vv sv S) :
    call n (.func (.func 63) #[] #[]) [.agg ⟨beL S vv sv⟩] h = some (.bool (decide (Rdy S)), h) := by
  obtain ⟨n, rfl⟩ : ∃ p, n = p + 1 := ⟨n - 1, by omega⟩
  refine call_plain0 fok63 rfl rfl (by simp) rfl ?_
  have hy := hy.shut
  have hr : h.shutAll.next + 120 < far := hr
  generalize h.shutAll = h at hy hr
  simp only [s63, W_seq, W_ops]
  refine ops_box (cs := beL S vv sv) (by omega) rfl hy.one fun h1 hx => ?_
  have n1 := hx.next
  have hy := hy.mono hx.sub
  have et := thin_c (n := n) (h := h1) (by omega) (by omega) hy
  by_cases hT : ThinS S
  case neg =>
    have : ¬ Rdy S := fun e => hT e.1
    simp only [rn0, rn1, rn2, rn3, rn4, rn5, rn6, rn7, rn8, if_true, if_false, Nat.le_refl, true_and, and_true, decide_true, decide_false, Bool.not_true, Bool.not_false, reduceIte, Nat.reduceEqDiff, Nat.reduceAdd, Nat.reduceMul, Nat.reduceSub, Nat.reduceLeDiff, Nat.reduceLT, hx.row.whole (n := 5) rfl, et, hT, this]
  have ef := faultL_c (n := n) (h := h1) (by omega) (by omega) hy hT
  by_cases hf : faultS S = 0
  · have : Rdy S := ⟨hT, hf⟩
    simp only [rn0, rn1, rn2, rn3, rn4, rn5, rn6, rn7, rn8, if_true, if_false, Nat.le_refl, true_and, and_true, decide_true, decide_false, Bool.not_true, Bool.not_false, reduceIte, Nat.reduceEqDiff, Nat.reduceAdd, Nat.reduceMul, Nat.reduceSub, Nat.reduceLeDiff, Nat.reduceLT, hx.row.whole (n := 5) rfl, et, hT, ef, hf, this]
  · have : ¬ Rdy S := fun e => hf e.2
    simp only [rn0, rn1, rn2, rn3, rn4, rn5, rn6, rn7, rn8, if_true, if_false, Nat.le_refl, true_and, and_true, decide_true, decide_false, Bool.not_true, Bool.not_false, reduceIte, Nat.reduceEqDiff, Nat.reduceAdd, Nat.reduceMul, Nat.reduceSub, Nat.reduceLeDiff, Nat.reduceLT, hx.row.whole (n := 5) rfl, et, hT, ef, hf, this]
def s42 : SCode := (.seq (.ops [⟨(some 1), none, .box (T 0)⟩, ⟨(some 2), none, .alloc [(.int .i64 (0)), (.int .i64 (0))]⟩]) (.seq (.ops [⟨(some 3), none, .fieldAddr 0 (T 1)⟩, ⟨(some 4), none, .load1 (T 3)⟩, ⟨(some 5), none, .fieldAddr 1 (T 1)⟩, ⟨(some 6), none, .load1 (T 5)⟩, ⟨(some 7), none, .build #[(0, 1), (1, 1)] [(.int .i64 (0)), (.int .i64 (0))] [0, 1] [(T 4), (T 6)]⟩, ⟨none, none, .store 2 (T 2) (T 7)⟩]) .ret))
theorem fok42 : FnOk Try.prog 42 8 s42 [.cellN 2 2] := ⟨Try.f42, _, Try.func42, rfl, Try.ntmps42, by kernel_rfl, by kernel_rfl⟩
theorem to_c (hn : 1 ≤ n) (hr : h.next + 3 < far) (a b : Int) : call n (.func (.func 42) #[] #[]) [.agg ⟨[.int .i64 a, .int .i64 b]⟩] h = some (.agg ⟨[.int .i64 a, .int .i64 b]⟩, h) := by
  obtain ⟨n, rfl⟩ : ∃ p, n = p + 1 := ⟨n - 1, by omega⟩
  refine call_plain0 fok42 rfl rfl (by simp) rfl ?_
  have hr : h.shutAll.next + 3 < far := hr
  have hfl : h.shutAll.floor ≤ h.shutAll.next := Nat.le_refl _
  generalize h.shutAll = h at hr hfl
  simp only [s42, W_seq, W_ops]
  refine ops_box (cs := [.int .i64 a, .int .i64 b]) (by omega) rfl rfl fun g1 hx1 => ?_
  have n1 := hx1.next
  have f1 := hx1.floor
  refine ops_alloc (cs := [.int .i64 0, .int .i64 0]) (by omega) rfl fun g2 hx2 => ?_
  have n2 := hx2.next
  have f2 := hx2.floor
  simp only [rn0, rn1, rn2, rn3, rn4, rn5, rn6, rn7, rn8, if_true, if_false, Nat.le_refl, true_and, and_true, decide_true, decide_false, Bool.not_true, Bool.not_false, reduceIte, Nat.reduceEqDiff, Nat.reduceAdd, Nat.reduceMul, Nat.reduceSub, Nat.reduceLeDiff, Nat.reduceLT, (hx1.row.mono hx2.sub).ld, Nat.zero_add, List.getElem?_cons_zero, List.getElem?_cons_succ, build_range]
  refine step_store (b := g1.next) (off := 0) (vs := [.int .i64 a, .int .i64 b]) rfl hx2.get (by omega) (by omega) rfl rfl rfl (by simp) fun g3 hs => ?_
  rw [splice2] at hs
  simp only [rn0, rn1, rn2, rn3, rn4, rn5, rn6, rn7, rn8, if_true, if_false, Nat.le_refl, true_and, and_true, decide_true, decide_false, Bool.not_true, Bool.not_false, reduceIte, Nat.reduceEqDiff, Nat.reduceAdd, Nat.reduceMul, Nat.reduceSub, Nat.reduceLeDiff, Nat.reduceLT, res_cellN, hs.row.whole (n := 2) rfl]
def s28 : SCode := (.seq (.ops [⟨(some 2), none, .mov (.const (.slice none 0 0))⟩]) (.seq (.ops [⟨(some 3), none, .bslice 1 0 [(.int .i64 (0))] [] []⟩, ⟨(some 4), none, .mov (T 0)⟩, ⟨(some 5), none, .append 1 8 (T 3) (T 4)⟩, ⟨(some 2), none, .mov (T 5)⟩]) .ret))
theorem fok28 : FnOk Try.prog 28 6 s28 [.tmp 2] := ⟨Try.f28, _, Try.func28, rfl, Try.ntmps28, by kernel_rfl, by kernel_rfl⟩
theorem list_c (hn : 1 ≤ n) (hr : h.next + 3 < far) {v : Value} {m : Nat} {a : Nat → Int} (hv : Ints h v m a) (hm : m ≤ 1000) :
    ∃ v' h', call n (.func (.func 28) #[] #[]) [v] h = some (v', h') ∧ Ints h' v' m a ∧ oneCell v' = true ∧ (∀ i, i < h.next → h'.get i = h.get i) ∧ h.next ≤ h'.next ∧ h'.next ≤ h.next + 2 ∧ h'.floor = h.floor ∧ ∀ x k c, v' = .slice (some x) k c → h.next ≤ x.block ∧ x.block < h'.next := by
  obtain ⟨n, rfl⟩ : ∃ p, n = p + 1 := ⟨n - 1, by omega⟩
  refine call_any0 fok28 rfl rfl (by simp) ?_
  obtain ⟨xv, kv, ev, lv⟩ := Cells.list (by omega) hv
  subst ev
  simp only [rn0, rn1, rn2, rn3, rn4, rn5, rn6, rn7, rn8, if_true, if_false, Nat.le_refl, true_and, and_true, decide_true, decide_false, Bool.not_true, Bool.not_false, reduceIte, Nat.reduceEqDiff, Nat.reduceAdd, Nat.reduceMul, Nat.reduceSub, Nat.reduceLeDiff, Nat.reduceLT, s28, build_none1]
  refine step_slice (by omega) rfl fun g1 hx1 => ?_
  have n1 := hx1.next
  have f1 := hx1.floor
  have hap := append_none (h := g1) (s := 1) (bytes := 8) (b := h.next) ⟨_, _, rfl⟩ (cells_sub hx1.sub hv (by omega) lv) flatL_len (by simp [maxBytes]; omega) (by simp [maxBytes]; omega)
  by_cases hm0 : m = 0
  · rw [if_pos hm0] at hap
    subst hm0
    simp only [rn0, rn1, rn2, rn3, rn4, rn5, rn6, rn7, rn8, if_true, if_false, Nat.le_refl, true_and, and_true, decide_true, decide_false, Bool.not_true, Bool.not_false, reduceIte, Nat.reduceEqDiff, Nat.reduceAdd, Nat.reduceMul, Nat.reduceSub, Nat.reduceLeDiff, Nat.reduceLT, hap]
    exact ⟨⟨some ⟨h.next, 0, none⟩, 0, rfl, fun x e => (by cases e; rfl), .inl rfl⟩, rfl, fun i hi => hx1.old i hi, by omega, by omega, by omega, fun x k c e => by cases e; exact ⟨Nat.le_refl _, by show h.next < g1.next; omega⟩⟩
  · rw [if_neg hm0] at hap
    simp only [rn0, rn1, rn2, rn3, rn4, rn5, rn6, rn7, rn8, if_true, if_false, Nat.le_refl, true_and, and_true, decide_true, decide_false, Bool.not_true, Bool.not_false, reduceIte, Nat.reduceEqDiff, Nat.reduceAdd, Nat.reduceMul, Nat.reduceSub, Nat.reduceLeDiff, Nat.reduceLT, hap]
    refine step_slice (by omega) flatL_one fun g2 hx2 => ?_
    have n2 := hx2.next
    have f2 := hx2.floor
    simp only [rn0, rn1, rn2, rn3, rn4, rn5, rn6, rn7, rn8, if_true, if_false, Nat.le_refl, true_and, and_true, decide_true, decide_false, Bool.not_true, Bool.not_false, reduceIte, Nat.reduceEqDiff, Nat.reduceAdd, Nat.reduceMul, Nat.reduceSub, Nat.reduceLeDiff, Nat.reduceLT]
    exact ⟨cells_row hx2.row fun k j hk hj => flatL_get (c := fun k _ => .int .i64 (a k)) hk hj, rfl, fun i hi => by rw [hx2.old i (by omega), hx1.old i hi], by omega, by omega, by omega, fun x k c e => by cases e; exact ⟨by show h.next ≤ g1.next; omega, by show g1.next < g2.next; omega⟩⟩
theorem build_co0 {x : Int} {b : Option Addr} {m k : Nat} : buildA (fun x => (#[(0, 1), (1, 1)] : Array (Nat × Nat))[x]?) ⟨[.int .i64 0, .slice none 0 0]⟩ [0, 1] h [.int .i64 x, .slice b m k] = some (.agg ⟨coL x (.slice b m k)⟩, h) := id rfl
def s27 : SCode := (.seq (.ops [⟨(some 1), none, .box (T 0)⟩, ⟨(some 2), none, .alloc [(.int .i64 (0)), (.slice none 0 0)]⟩]) (.seq (.draw [⟨.free, ⟨(some 3), none, .fieldAddr 0 (T 1)⟩⟩, ⟨.rd, ⟨(some 4), none, .load1 (T 3)⟩⟩, ⟨.free, ⟨(some 5), none, .fieldAddr 1 (T 1)⟩⟩, ⟨.rd1, ⟨(some 6), none, .load1 (T 5)⟩⟩, ⟨.up, ⟨(some 7), none, .call (.func 28) [(T 6)]⟩⟩, ⟨.free, ⟨(some 8), none, .build #[(0, 1), (1, 1)] [(.int .i64 (0)), (.slice none 0 0)] [0, 1] [(T 4), (T 7)]⟩⟩, ⟨.any, ⟨none, none, .store 2 (T 2) (T 8)⟩⟩]) .ret))
theorem fok27 : FnOk Try.prog 27 9 s27 [.cellN 2 2] := ⟨Try.f27, _, Try.func27, rfl, Try.ntmps27, by kernel_rfl, by kernel_rfl⟩
theorem courseL_c (hn : 3 ≤ n) (hr : h.next + 10 < far) (hfl : h.floor ≤ h.next) {cw : Value} {x : Int} {m : Nat} {a : Nat → Int} (hc : Ints h cw m a) (hm : m ≤ 1000) :
    ∃ cw' h', call n (.func (.func 27) #[] #[]) [.agg ⟨coL x cw⟩] h = some (.agg ⟨coL x cw'⟩, h') ∧ Ints h' cw' m a ∧ (∀ i, i < h.next → h'.get i = h.get i) ∧ h.next ≤ h'.next ∧ h'.next ≤ h.next + 6 ∧ h'.floor = h.floor := by
  obtain ⟨n, rfl⟩ : ∃ p, n = p + 1 := ⟨n - 1, by omega⟩
  suffices hs : ∃ v h', call (n + 1) (.func (.func 27) #[] #[]) [.agg ⟨coL x cw⟩] h = some (v, h') ∧ ∃ cw', v = .agg ⟨coL x cw'⟩ ∧ Ints h' cw' m a ∧ (∀ i, i < h.next → h'.get i = h.get i) ∧ h.next ≤ h'.next ∧ h'.next ≤ h.next + 6 ∧ h'.floor = h.floor by
    obtain ⟨v, h', e, c, rfl, q⟩ := hs
    exact ⟨c, h', e, q⟩
  refine call_any0 fok27 rfl rfl (by simp) ?_
  simp only [s27, W_seq, W_ops]
  refine ops_box (cs := coL x cw) (by omega) rfl (co_one hc) fun g1 hx1 => ?_
  have n1 := hx1.next
  have f1 := hx1.floor
  refine ops_alloc (cs := [.int .i64 0, nilS]) (by omega) rfl fun g2 hx2 => ?_
  have n2 := hx2.next
  have f2 := hx2.floor
  have r1 := hx1.row.mono hx2.sub
  have hc2 : Ints g2 cw m a := Cells.mono (Cells.mono hc hx1.sub) hx2.sub
  obtain ⟨cw', g3, e3, hi3, o3, old3, u3, m3, f3, b3⟩ := list_c (n := n) (h := g2) (by omega) (by omega) hc2 hm
  obtain ⟨ax, ak, rfl⟩ := ints_slice hi3
  simp only [rn0, rn1, rn2, rn3, rn4, rn5, rn6, rn7, rn8, if_true, if_false, Nat.le_refl, true_and, and_true, decide_true, decide_false, Bool.not_true, Bool.not_false, reduceIte, Nat.reduceEqDiff, Nat.reduceAdd, Nat.reduceMul, Nat.reduceSub, Nat.reduceLeDiff, Nat.reduceLT]
  refine W_draw All ?_
  simp only [rn0, rn1, rn2, rn3, rn4, rn5, rn6, rn7, rn8, if_true, if_false, Nat.le_refl, true_and, and_true, decide_true, decide_false, Bool.not_true, Bool.not_false, reduceIte, Nat.reduceEqDiff, Nat.reduceAdd, Nat.reduceMul, Nat.reduceSub, Nat.reduceLeDiff, Nat.reduceLT, r1.ld, cog, Nat.zero_add, eqV_int, Cells.self hc2, e3, build_co0]
  refine ⟨⟨u3, AHeap.subOf old3⟩, ?_⟩
  refine up_store (b := g1.next) (off := 0) (vs := coL x (.slice ax m ak)) rfl (by rw [old3 _ (by omega)]; exact hx2.get) (by omega) (by omega) rfl rfl rfl (by simp) (fun _ _ => trivial) fun g4 hs4 => ?_
  rw [splice_all (by rfl)] at hs4
  have n4 := hs4.next
  have f4 := hs4.floor
  simp only [rn0, rn1, rn2, rn3, rn4, rn5, rn6, rn7, rn8, if_true, if_false, Nat.le_refl, true_and, and_true, decide_true, decide_false, Bool.not_true, Bool.not_false, reduceIte, Nat.reduceEqDiff, Nat.reduceAdd, Nat.reduceMul, Nat.reduceSub, Nat.reduceLeDiff, Nat.reduceLT, res_cellN, hs4.row.whole (n := 2) rfl]
  refine ⟨_, rfl, ?_, fun i hi => by rw [hs4.old i (by omega), old3 i (by omega), hx2.old i (by omega), hx1.old i hi], by omega, by omega, by omega⟩
  exact Cells.keep hi3 hs4.keep fun a k c e => by cases e; have := (b3 _ _ _ rfl).1; omega
theorem build_beI {a b c : Int} : buildA (fun x => (#[(0, 2), (2, 1), (3, 1), (4, 1)] : Array (Nat × Nat))[x]?) ⟨[.int .i64 0, .int .i64 0, .slice none 0 0, .int .i64 0, .slice none 0 0]⟩ [0, 2] h [.agg ⟨[.int .i64 a, .int .i64 b]⟩, .int .i64 c] = some (.agg ⟨[.int .i64 a, .int .i64 b, .slice none 0 0, .int .i64 c, .slice none 0 0]⟩, h) := by
  unfold buildA
  have e : Instr.fill (fun x => (#[(0, 2), (2, 1), (3, 1), (4, 1)] : Array (Nat × Nat))[x]?) #[.int .i64 0, .int .i64 0, .slice none 0 0, .int .i64 0, .slice none 0 0] ([0, 2].zip [.agg ⟨[.int .i64 a, .int .i64 b]⟩, .int .i64 c]) = some #[.int .i64 a, .int .i64 b, .slice none 0 0, .int .i64 c, .slice none 0 0] := by
    simp [Instr.fill, Value.cells]
  rw [e]
theorem build_va4 {a b c d : Int} : buildA (fun x => (#[(0, 2), (2, 1), (3, 1)] : Array (Nat × Nat))[x]?) ⟨[.int .i64 0, .int .i64 0, .int .i64 0, .int .i64 0]⟩ [0, 1, 2] h [.agg ⟨[.int .i64 a, .int .i64 b]⟩, .int .i64 c, .int .i64 d] = some (.agg ⟨[.int .i64 a, .int .i64 b, .int .i64 c, .int .i64 d]⟩, h) := by
  unfold buildA
  have e : Instr.fill (fun x => (#[(0, 2), (2, 1), (3, 1)] : Array (Nat × Nat))[x]?) #[.int .i64 0, .int .i64 0, .int .i64 0, .int .i64 0] ([0, 1, 2].zip [.agg ⟨[.int .i64 a, .int .i64 b]⟩, .int .i64 c, .int .i64 d]) = some #[.int .i64 a, .int .i64 b, .int .i64 c, .int .i64 d] := by
    simp [Instr.fill, Value.cells]
  rw [e]
theorem build_smB {a b : Int} {c : Bool} : buildA (fun x => (#[(0, 1), (1, 1), (2, 1)] : Array (Nat × Nat))[x]?) ⟨[.int .i64 0, .int .i64 0, .bool false]⟩ [0, 1, 2] h [.int .i64 a, .int .i64 b, .bool c] = some (.agg ⟨[.int .i64 a, .int .i64 b, .bool c]⟩, h) := by
  unfold buildA
  have e : Instr.fill (fun x => (#[(0, 1), (1, 1), (2, 1)] : Array (Nat × Nat))[x]?) #[.int .i64 0, .int .i64 0, .bool false] ([0, 1, 2].zip [.int .i64 a, .int .i64 b, .bool c]) = some #[.int .i64 a, .int .i64 b, .bool c] := by
    simp [Instr.fill, Value.cells]
  rw [e]
theorem sl_smB {S : MB} {k : Nat} : buildSl 3 1 [.int .i64 0, .int .i64 0, .bool false] [0] h [.agg ⟨[.int .i64 (S.sv k), .int .i64 (S.sh k), .bool (S.sd k)]⟩] = newSlice h (smL S k) 1 1 0 := by
  unfold buildSl
  have e : Instr.fill (fun i => some (i * 3, 3)) ⟨repl [Value.int .i64 0, .int .i64 0, .bool false] 1⟩ ([0].zip [.agg ⟨[.int .i64 (S.sv k), .int .i64 (S.sh k), .bool (S.sd k)]⟩]) = some #[.int .i64 (S.sv k), .int .i64 (S.sh k), .bool (S.sd k)] := by
    simp [Instr.fill, Value.cells, repl, app_eq]
  rw [e]
  rfl
abbrev beV (a b v c s : Value) : List Value := [a, b, v, c, s]
theorem bp2 {a b c d e x : Value} : splice [a, b, c, d, e] 2 [x] = [a, b, x, d, e] := rfl
theorem bp4 {a b c d e x : Value} : splice [a, b, c, d, e] 4 [x] = [a, b, c, d, x] := rfl
def s26 : SCode := (.seq (.ops [⟨(some 1), none, .box (T 0)⟩, ⟨(some 2), none, .alloc [(.int .i64 (0)), (.int .i64 (0)), (.slice none 0 0), (.int .i64 (0)), (.slice none 0 0)]⟩]) (.seq (.draw [⟨.free, ⟨(some 8), none, .fieldAddr 0 (T 1)⟩⟩, ⟨.rd1, ⟨(some 9), none, .loadN 2 (T 8)⟩⟩, ⟨.up, ⟨(some 10), none, .call (.func 42) [(T 9)]⟩⟩, ⟨.free, ⟨(some 11), none, .fieldAddr 3 (T 1)⟩⟩, ⟨.rd, ⟨(some 12), none, .load1 (T 11)⟩⟩, ⟨.free, ⟨(some 13), none, .build #[(0, 2), (2, 1), (3, 1), (4, 1)] [(.int .i64 (0)), (.int .i64 (0)), (.slice none 0 0), (.int .i64 (0)), (.slice none 0 0)] [0, 2] [(T 10), (T 12)]⟩⟩, ⟨.up, ⟨(some 3), none, .alloc [(.int .i64 (0)), (.int .i64 (0)), (.slice none 0 0), (.int .i64 (0)), (.slice none 0 0)]⟩⟩, ⟨.any, ⟨none, none, .store 5 (T 3) (T 13)⟩⟩]) (.seq (.seq (.ops [⟨(some 4), none, .mov (.const (.int .i64 (0)))⟩]) (.block 0 (.loop (.seq (.seq (.ops [⟨(some 14), none, .mov (T 4)⟩, ⟨(some 15), none, .fieldAddr 2 (T 1)⟩, ⟨(some 16), none, .load1 (T 15)⟩, ⟨(some 17), none, .len (T 16)⟩, ⟨(some 18), none, .int2 .lss (T 14) (T 17)⟩]) (.cond (T 18) .skip (.exit 0))) (.seq (.block 1 (.seq (.ops [⟨(some 21), none, .fieldAddr 2 (T 1)⟩, ⟨(some 22), none, .load1 (T 21)⟩, ⟨(some 23), none, .mov (T 4)⟩, ⟨(some 24), none, .idxSl 4 (T 22) (T 23)⟩, ⟨(some 25), none, .loadN 4 (T 24)⟩, ⟨(some 5), none, .alloc [(.int .i64 (0)), (.int .i64 (0)), (.int .i64 (0)), (.int .i64 (0))]⟩, ⟨none, none, .store 4 (T 5) (T 25)⟩]) (.draw [⟨.free, ⟨(some 26), none, .fieldAddr 2 (T 3)⟩⟩, ⟨.rd, ⟨(some 27), none, .load1 (T 26)⟩⟩, ⟨.free, ⟨(some 28), none, .fieldAddr 0 (T 5)⟩⟩, ⟨.rd1, ⟨(some 29), none, .loadN 2 (T 28)⟩⟩, ⟨.up, ⟨(some 30), none, .call (.func 42) [(T 29)]⟩⟩, ⟨.free, ⟨(some 31), none, .fieldAddr 2 (T 5)⟩⟩, ⟨.rd, ⟨(some 32), none, .load1 (T 31)⟩⟩, ⟨.free, ⟨(some 33), none, .fieldAddr 3 (T 5)⟩⟩, ⟨.rd, ⟨(some 34), none, .load1 (T 33)⟩⟩, ⟨.free, ⟨(some 35), none, .build #[(0, 2), (2, 1), (3, 1)] [(.int .i64 (0)), (.int .i64 (0)), (.int .i64 (0)), (.int .i64 (0))] [0, 1, 2] [(T 30), (T 32), (T 34)]⟩⟩, ⟨.up, ⟨(some 36), none, .bslice 4 1 [(.int .i64 (0)), (.int .i64 (0)), (.int .i64 (0)), (.int .i64 (0))] [0] [(T 35)]⟩⟩, ⟨.any, ⟨(some 37), none, .append 4 32 (T 27) (T 36)⟩⟩, ⟨.free, ⟨(some 38), none, .fieldAddr 2 (T 3)⟩⟩, ⟨.any, ⟨none, none, .store 1 (T 38) (T 37)⟩⟩]))) (.ops [⟨(some 19), none, .mov (T 4)⟩, ⟨(some 20), none, .int2 .add (T 19) (.const (.int .i64 (1)))⟩, ⟨(some 4), none, .mov (T 20)⟩])))))) (.seq (.seq (.ops [⟨(some 6), none, .mov (.const (.int .i64 (0)))⟩]) (.block 2 (.loop (.seq (.seq (.ops [⟨(some 39), none, .mov (T 6)⟩, ⟨(some 40), none, .fieldAddr 4 (T 1)⟩, ⟨(some 41), none, .load1 (T 40)⟩, ⟨(some 42), none, .len (T 41)⟩, ⟨(some 43), none, .int2 .lss (T 39) (T 42)⟩]) (.cond (T 43) .skip (.exit 2))) (.seq (.block 3 (.seq (.ops [⟨(some 46), none, .fieldAddr 4 (T 1)⟩, ⟨(some 47), none, .load1 (T 46)⟩, ⟨(some 48), none, .mov (T 6)⟩, ⟨(some 49), none, .idxSl 3 (T 47) (T 48)⟩, ⟨(some 50), none, .loadN 3 (T 49)⟩, ⟨(some 7), none, .alloc [(.int .i64 (0)), (.int .i64 (0)), (.bool false)]⟩, ⟨none, none, .store 3 (T 7) (T 50)⟩]) (.ops [⟨(some 51), none, .fieldAddr 4 (T 3)⟩, ⟨(some 52), none, .load1 (T 51)⟩, ⟨(some 53), none, .fieldAddr 0 (T 7)⟩, ⟨(some 54), none, .load1 (T 53)⟩, ⟨(some 55), none, .fieldAddr 1 (T 7)⟩, ⟨(some 56), none, .load1 (T 55)⟩, ⟨(some 57), none, .fieldAddr 2 (T 7)⟩, ⟨(some 58), none, .load1 (T 57)⟩, ⟨(some 59), none, .build #[(0, 1), (1, 1), (2, 1)] [(.int .i64 (0)), (.int .i64 (0)), (.bool false)] [0, 1, 2] [(T 54), (T 56), (T 58)]⟩, ⟨(some 60), none, .bslice 3 1 [(.int .i64 (0)), (.int .i64 (0)), (.bool false)] [0] [(T 59)]⟩, ⟨(some 61), none, .append 3 24 (T 52) (T 60)⟩, ⟨(some 62), none, .fieldAddr 4 (T 3)⟩, ⟨none, none, .store 1 (T 62) (T 61)⟩]))) (.ops [⟨(some 44), none, .mov (T 6)⟩, ⟨(some 45), none, .int2 .add (T 44) (.const (.int .i64 (1)))⟩, ⟨(some 6), none, .mov (T 45)⟩])))))) (.seq (.ops [⟨(some 63), none, .loadN 5 (T 3)⟩, ⟨none, none, .store 5 (T 2) (T 63)⟩]) .ret)))))
theorem fok26 : FnOk Try.prog 26 64 s26 [.cellN 2 5] := ⟨Try.f26, _, Try.func26, rfl, Try.ntmps26, by kernel_rfl, by kernel_rfl⟩
set_option maxHeartbeats 1000000 in
theorem beatL_c (hn : 100 ≤ n) (hr : h.next + 500 < far) (hfl : h.floor ≤ h.next) {vv sv : Value} {S : MB} (hy : BeatR h vv sv S) (hT : ThinS S) :
    ∃ vv' sv' h', call n (.func (.func 26) #[] #[]) [.agg ⟨beL S vv sv⟩] h = some (.agg ⟨beL S vv' sv'⟩, h') ∧ BeatR h' vv' sv' S ∧ (∀ i, i < h.next → h'.get i = h.get i) ∧ h.next ≤ h'.next ∧ h'.next ≤ h.next + 300 ∧ h'.floor = h.floor := by
  obtain ⟨n, rfl⟩ : ∃ p, n = p + 1 := ⟨n - 1, by omega⟩
  obtain ⟨t2, t3⟩ := hT
  suffices hs : ∃ v h', call (n + 1) (.func (.func 26) #[] #[]) [.agg ⟨beL S vv sv⟩] h = some (v, h') ∧ ∃ vv' sv', v = .agg ⟨beL S vv' sv'⟩ ∧ BeatR h' vv' sv' S ∧ (∀ i, i < h.next → h'.get i = h.get i) ∧ h.next ≤ h'.next ∧ h'.next ≤ h.next + 300 ∧ h'.floor = h.floor by
    obtain ⟨v, h', e, b, c, rfl, q⟩ := hs
    exact ⟨b, c, h', e, q⟩
  refine call_any0 fok26 rfl rfl (by simp) ?_
  simp only [s26, W_seq, W_ops]
  refine ops_box (cs := beL S vv sv) (by omega) rfl hy.one fun g1 hx1 => ?_
  have n1 := hx1.next
  have f1' := hx1.floor
  refine ops_alloc (cs := beV (.int .i64 0) (.int .i64 0) nilS (.int .i64 0) nilS) (by omega) rfl fun g2 hx2 => ?_
  have n2 := hx2.next
  have f2' := hx2.floor
  have r1 := hx1.row.mono hx2.sub
  have old2 : ∀ i, i < h.next → g2.get i = h.get i := fun i hi => by rw [hx2.old i (by omega), hx1.old i hi]
  have et := to_c (n := n) (h := g2) (by omega) (by omega) S.slo S.shi
  simp only [rn0, rn1, rn2, rn3, rn4, rn5, rn6, rn7, rn8, if_true, if_false, Nat.le_refl, true_and, and_true, decide_true, decide_false, Bool.not_true, Bool.not_false, reduceIte, Nat.reduceEqDiff, Nat.reduceAdd, Nat.reduceMul, Nat.reduceSub, Nat.reduceLeDiff, Nat.reduceLT]
  refine W_draw All ?_
  simp only [rn0, rn1, rn2, rn3, rn4, rn5, rn6, rn7, rn8, if_true, if_false, Nat.le_refl, true_and, and_true, decide_true, decide_false, Bool.not_true, Bool.not_false, reduceIte, Nat.reduceEqDiff, Nat.reduceAdd, Nat.reduceMul, Nat.reduceSub, Nat.reduceLeDiff, Nat.reduceLT, r1.ld, beg, be_rng r1, Nat.zero_add, eqV_int, et, build_beI]
  refine up_row (cs := beV (.int .i64 0) (.int .i64 0) nilS (.int .i64 0) nilS) (by omega) rfl rfl (fun g3 hx => hx.sub) fun g3 hx3 => ?_
  have n3 := hx3.next
  have f3' := hx3.floor
  simp only [rn0, rn1, rn2, rn3, rn4, rn5, rn6, rn7, rn8, if_true, if_false, Nat.le_refl, true_and, and_true, decide_true, decide_false, Bool.not_true, Bool.not_false, reduceIte, Nat.reduceEqDiff, Nat.reduceAdd, Nat.reduceMul, Nat.reduceSub, Nat.reduceLeDiff, Nat.reduceLT]
  refine up_store (b := g2.next) (off := 0) (vs := beV (.int .i64 S.slo) (.int .i64 S.shi) nilS (.int .i64 S.last) nilS) rfl hx3.get (by omega) (by omega) rfl rfl rfl (by simp) (fun _ _ => trivial) fun g4 hs4 => ?_
  rw [splice_all (by rfl)] at hs4
  have n4 := hs4.next
  have f4' := hs4.floor
  have old4 : ∀ i, i < g2.next → g4.get i = g2.get i := fun i hi => by rw [hs4.old i (by omega), hx3.old i hi]
  have hm1 : g4.get g1.next = g2.get g1.next := old4 _ (by omega)
  simp only [rn0, rn1, rn2, rn3, rn4, rn5, rn6, rn7, rn8, if_true, if_false, Nat.le_refl, true_and, and_true, decide_true, decide_false, Bool.not_true, Bool.not_false, reduceIte, Nat.reduceEqDiff, Nat.reduceAdd, Nat.reduceMul, Nat.reduceSub, Nat.reduceLeDiff, Nat.reduceLT]
  -- the vats
  refine W_loop S.nv (fun k f g' ms => (∃ v, (∀ i, i < g2.next → g'.get i = g4.get i) ∧ g'.floor = h.floor ∧ g4.next ≤ g'.next ∧ g'.next ≤ g4.next + 3 * k ∧ GrowC g4.next g' v 4 k (vatC S) ∧ g'.get g2.next = some (.row (beV (.int .i64 S.slo) (.int .i64 S.shi) v (.int .i64 S.last) nilS) true 0)) ∧ ms = [] ∧ f 1 = .pointer (some ⟨h.next, 0, none⟩) ∧ f 2 = .pointer (some ⟨g1.next, 0, none⟩) ∧ f 3 = .pointer (some ⟨g2.next, 0, none⟩) ∧ f 4 = .int .i64 (k : Int)) (by simp; omega) ?_ ?_ ?_
  · simp only [rn0, rn1, rn2, rn3, rn4, rn5, rn6, rn7, rn8, if_true, if_false, Nat.le_refl, true_and, and_true, decide_true, decide_false, Bool.not_true, Bool.not_false, reduceIte, Nat.reduceEqDiff, Nat.reduceAdd, Nat.reduceMul, Nat.reduceSub, Nat.reduceLeDiff, Nat.reduceLT]
    exact ⟨⟨nilS, fun i _ => trivial, by omega, by omega, .nil, hs4.get⟩, rfl⟩
  · rintro k f g' ms hk ⟨⟨v, hs, hfg', hup', hnx', gv, grow'⟩, rfl, p1, p2, p3, p4⟩
    have hk' : (k : Int) < (S.nv : Int) := by omega
    have hw : wrapF .i64 ((k : Int) + 1) = ((k + 1 : Nat) : Int) := by rw [wrap_in (by omega) (by omega)]; rfl
    have oldg' : ∀ i, i < h.next → g'.get i = h.get i := fun i hi => by rw [hs i (by omega), old4 i (by omega), old2 i hi]
    have hyg' := hy.mono (AHeap.subOf oldg')
    have rg' : Row g' h.next (beL S vv sv) := r1.mono fun i cs w gr _ e => by rw [hs i (by have := AHeap.lt_of_get e; omega), old4 i (AHeap.lt_of_get e)]; exact e
    have r3g : Row g' g2.next _ := ⟨_, _, grow'⟩
    simp only [rn0, rn1, rn2, rn3, rn4, rn5, rn6, rn7, rn8, if_true, if_false, Nat.le_refl, true_and, and_true, decide_true, decide_false, Bool.not_true, Bool.not_false, reduceIte, Nat.reduceEqDiff, Nat.reduceAdd, Nat.reduceMul, Nat.reduceSub, Nat.reduceLeDiff, Nat.reduceLT, p1, p2, p3, p4, rg'.ld, beg, Nat.zero_add, Cells.len hyg'.v, hk', Cells.idx hyg'.v hk, vat_ld hyg' hk]
    refine step_new (vs := vaL S k) (by omega) (by omega) rfl (by simp only [rn0, rn1, rn2, rn3, rn4, rn5, rn6, rn7, rn8, if_true, if_false, Nat.le_refl, true_and, and_true, decide_true, decide_false, Bool.not_true, Bool.not_false, reduceIte, Nat.reduceEqDiff, Nat.reduceAdd, Nat.reduceMul, Nat.reduceSub, Nat.reduceLeDiff, Nat.reduceLT]; rfl) rfl rfl rfl fun g5 hx5 => ?_
    have n5 := hx5.next
    have f5 := hx5.floor
    have r35 := r3g.mono hx5.sub
    have gv5 := gv.sub hx5.sub
    have et := to_c (n := n) (h := g5) (by omega) (by omega) (S.nlo k) (S.nhi k)
    have e0 : loadAgg 2 g5 (.pointer (some ⟨g'.next, 0, none⟩)) = some (.agg ⟨[.int .i64 (S.nlo k), .int .i64 (S.nhi k)]⟩) := hx5.ldN 0 2 (by simp [vaL]) (by simp [vaL])
    simp only [rn0, rn1, rn2, rn3, rn4, rn5, rn6, rn7, rn8, if_true, if_false, Nat.le_refl, true_and, and_true, decide_true, decide_false, Bool.not_true, Bool.not_false, reduceIte, Nat.reduceEqDiff, Nat.reduceAdd, Nat.reduceMul, Nat.reduceSub, Nat.reduceLeDiff, Nat.reduceLT]
    refine W_draw All ?_
    simp only [rn0, rn1, rn2, rn3, rn4, rn5, rn6, rn7, rn8, if_true, if_false, Nat.le_refl, true_and, and_true, decide_true, decide_false, Bool.not_true, Bool.not_false, reduceIte, Nat.reduceEqDiff, Nat.reduceAdd, Nat.reduceMul, Nat.reduceSub, Nat.reduceLeDiff, Nat.reduceLT, p1, p2, p3, p4, r35.ld, hx5.ld, vag, e0, Nat.zero_add, List.getElem?_cons_zero, List.getElem?_cons_succ, eqV_int, gv5.cells.self, et, build_va4, sl_va]
    refine up_slice (by omega) rfl (fun g6 hx => hx.sub) fun g6 hx6 => ?_
    have n6 := hx6.next
    obtain ⟨v', g7, e7, gv7, o7, n7, f7, old7, u7⟩ := grow_push (h := g5) (bytes := 32) gv5 (by omega) (by omega) (by omega) hx6 rfl rfl (fun j hj => by
      obtain rfl | rfl | rfl | rfl : j = 0 ∨ j = 1 ∨ j = 2 ∨ j = 3 := by omega
      all_goals rfl) (by simp [maxBytes]; omega) (by simp [maxBytes]; omega)
    simp only [rn0, rn1, rn2, rn3, rn4, rn5, rn6, rn7, rn8, if_true, if_false, Nat.le_refl, true_and, and_true, decide_true, decide_false, Bool.not_true, Bool.not_false, reduceIte, Nat.reduceEqDiff, Nat.reduceAdd, Nat.reduceMul, Nat.reduceSub, Nat.reduceLeDiff, Nat.reduceLT, p1, p2, p3, e7]
    refine ⟨by omega, ?_⟩
    refine up_store (b := g2.next) (off := 2) (vs := [v']) rfl (by rw [old7 _ (by omega), hx5.old _ (by omega)]; exact grow') (by omega) (by omega) (cells1 o7) (by simp [allB, o7]) rfl (by simp) (fun _ _ => trivial) fun g8 hs8 => ?_
    rw [bp2] at hs8
    have n8 := hs8.next
    have f8 := hs8.floor
    simp only [rn0, rn1, rn2, rn3, rn4, rn5, rn6, rn7, rn8, if_true, if_false, Nat.le_refl, true_and, and_true, decide_true, decide_false, Bool.not_true, Bool.not_false, reduceIte, Nat.reduceEqDiff, Nat.reduceAdd, Nat.reduceMul, Nat.reduceSub, Nat.reduceLeDiff, Nat.reduceLT, p1, p2, p3, p4, hw]
    exact ⟨v', fun i hi => by rw [hs8.old i (by omega), old7 i (by omega), hx5.old i (by omega), hs i hi], by omega, by omega, by omega, gv7.keep hs8.keep (by omega), hs8.get⟩
  rintro f ga ms ⟨⟨v', hsa, hfa, hupa, hnxa, gva, growa⟩, rfl, p1, p2, p3, p4⟩
  have olda : ∀ i, i < h.next → ga.get i = h.get i := fun i hi => by rw [hsa i (by omega), old4 i (by omega), old2 i hi]
  have hya := hy.mono (AHeap.subOf olda)
  have rga : Row ga h.next (beL S vv sv) := r1.mono fun i cs w gr _ e => by rw [hsa i (by have := AHeap.lt_of_get e; omega), old4 i (AHeap.lt_of_get e)]; exact e
  have hm3 : ga.get g1.next = g2.get g1.next := by rw [hsa _ (by omega), hm1]
  have bv : ∀ x k q, v' = .slice (some x) k q → x.block < ga.next := fun x k q e => (gva.block e).2
  have bv2 : ∀ x k q, v' = .slice (some x) k q → g2.next ≠ x.block := fun x k q e => by have := (gva.block e).1; omega
  have bvl : ∀ x k q, v' = .slice (some x) k q → g4.next ≤ x.block := fun x k q e => (gva.block e).1
  have cv := gva.cells
  have ov := gva.one
  clear gva hsa
  have e5 : g2.next < ga.next := by omega
  simp only [rn0, rn1, rn2, rn3, rn4, rn5, rn6, rn7, rn8, if_true, if_false, Nat.le_refl, true_and, and_true, decide_true, decide_false, Bool.not_true, Bool.not_false, reduceIte, Nat.reduceEqDiff, Nat.reduceAdd, Nat.reduceMul, Nat.reduceSub, Nat.reduceLeDiff, Nat.reduceLT, p1, p2, p3, p4, rga.ld, beg, Nat.zero_add, Cells.len hya.v, Int.lt_irrefl]
  -- the samples
  refine W_loop S.ns (fun k f g' ms => (∃ v, (∀ i, i < ga.next → i ≠ g2.next → g'.get i = ga.get i) ∧ g'.floor = h.floor ∧ ga.next ≤ g'.next ∧ g'.next ≤ ga.next + 3 * k ∧ GrowC ga.next g' v 3 k (sampC S) ∧ g'.get g2.next = some (.row (beV (.int .i64 S.slo) (.int .i64 S.shi) v' (.int .i64 S.last) v) true 0)) ∧ ms = [] ∧ f 1 = .pointer (some ⟨h.next, 0, none⟩) ∧ f 2 = .pointer (some ⟨g1.next, 0, none⟩) ∧ f 3 = .pointer (some ⟨g2.next, 0, none⟩) ∧ f 6 = .int .i64 (k : Int)) (by simp; omega) ?_ ?_ ?_
  · simp only [rn0, rn1, rn2, rn3, rn4, rn5, rn6, rn7, rn8, if_true, if_false, Nat.le_refl, true_and, and_true, decide_true, decide_false, Bool.not_true, Bool.not_false, reduceIte, Nat.reduceEqDiff, Nat.reduceAdd, Nat.reduceMul, Nat.reduceSub, Nat.reduceLeDiff, Nat.reduceLT, p1, p2, p3]
    exact ⟨⟨nilS, fun i _ _ => trivial, hfa, by omega, .nil, growa⟩, rfl⟩
  · rintro k f g' ms hk ⟨⟨v, hs, hfg', hup', hnx', gv, grow'⟩, rfl, p1, p2, p3, p6⟩
    have hk' : (k : Int) < (S.ns : Int) := by omega
    have hw : wrapF .i64 ((k : Int) + 1) = ((k + 1 : Nat) : Int) := by rw [wrap_in (by omega) (by omega)]; rfl
    have oldg' : ∀ i, i < h.next → g'.get i = h.get i := fun i hi => by rw [hs i (by omega) (by omega), olda i hi]
    have hyg' := hy.mono (AHeap.subOf oldg')
    have rg' : Row g' h.next (beL S vv sv) := by obtain ⟨w, gr, e⟩ := rga; exact ⟨w, gr, by rw [hs _ (by omega) (by omega)]; exact e⟩
    have r3g : Row g' g2.next _ := ⟨_, _, grow'⟩
    simp only [rn0, rn1, rn2, rn3, rn4, rn5, rn6, rn7, rn8, if_true, if_false, Nat.le_refl, true_and, and_true, decide_true, decide_false, Bool.not_true, Bool.not_false, reduceIte, Nat.reduceEqDiff, Nat.reduceAdd, Nat.reduceMul, Nat.reduceSub, Nat.reduceLeDiff, Nat.reduceLT, p1, p2, p3, p6, rg'.ld, beg, Nat.zero_add, Cells.len hyg'.s, hk', Cells.idx hyg'.s hk, samp_ld hyg' hk]
    refine step_new (vs := smL S k) (by omega) (by omega) rfl (by simp only [rn0, rn1, rn2, rn3, rn4, rn5, rn6, rn7, rn8, if_true, if_false, Nat.le_refl, true_and, and_true, decide_true, decide_false, Bool.not_true, Bool.not_false, reduceIte, Nat.reduceEqDiff, Nat.reduceAdd, Nat.reduceMul, Nat.reduceSub, Nat.reduceLeDiff, Nat.reduceLT]; rfl) rfl rfl rfl fun g5 hx5 => ?_
    have n5 := hx5.next
    have f5 := hx5.floor
    have r35 := r3g.mono hx5.sub
    have gv5 := gv.sub hx5.sub
    simp only [rn0, rn1, rn2, rn3, rn4, rn5, rn6, rn7, rn8, if_true, if_false, Nat.le_refl, true_and, and_true, decide_true, decide_false, Bool.not_true, Bool.not_false, reduceIte, Nat.reduceEqDiff, Nat.reduceAdd, Nat.reduceMul, Nat.reduceSub, Nat.reduceLeDiff, Nat.reduceLT, p1, p2, p3, p6, r35.ld, hx5.ld, smg, Nat.zero_add, List.getElem?_cons_zero, List.getElem?_cons_succ, build_smB, sl_smB]
    refine step_slice (by omega) rfl fun g6 hx6 => ?_
    have n6 := hx6.next
    obtain ⟨v'', g7, e7, gv7, o7, n7, f7, old7, u7⟩ := grow_push (h := g5) (bytes := 24) gv5 (by omega) (by omega) (by omega) hx6 rfl rfl (fun j hj => by
      obtain rfl | rfl | rfl : j = 0 ∨ j = 1 ∨ j = 2 := by omega
      all_goals rfl) (by simp [maxBytes]; omega) (by simp [maxBytes]; omega)
    simp only [rn0, rn1, rn2, rn3, rn4, rn5, rn6, rn7, rn8, if_true, if_false, Nat.le_refl, true_and, and_true, decide_true, decide_false, Bool.not_true, Bool.not_false, reduceIte, Nat.reduceEqDiff, Nat.reduceAdd, Nat.reduceMul, Nat.reduceSub, Nat.reduceLeDiff, Nat.reduceLT, p1, p2, p3, e7]
    refine step_store (b := g2.next) (off := 4) (vs := [v'']) rfl (by rw [old7 _ (by omega), hx5.old _ (by omega)]; exact grow') (by omega) (by omega) (cells1 o7) (by simp [allB, o7]) rfl (by simp) fun g8 hs8 => ?_
    rw [bp4] at hs8
    have n8 := hs8.next
    have f8 := hs8.floor
    simp only [rn0, rn1, rn2, rn3, rn4, rn5, rn6, rn7, rn8, if_true, if_false, Nat.le_refl, true_and, and_true, decide_true, decide_false, Bool.not_true, Bool.not_false, reduceIte, Nat.reduceEqDiff, Nat.reduceAdd, Nat.reduceMul, Nat.reduceSub, Nat.reduceLeDiff, Nat.reduceLT, p1, p2, p3, p6, hw]
    exact ⟨v'', fun i hi hne => by rw [hs8.old i hne, old7 i hi, hx5.old i (by omega), hs i hi hne], by omega, by omega, by omega, gv7.keep hs8.keep (by omega), hs8.get⟩
  rintro f gb ms ⟨⟨s', hsb, hfb, hupb, hnxb, gvb, growb⟩, rfl, p1, p2, p3, p6⟩
  have oldb : ∀ i, i < h.next → gb.get i = h.get i := fun i hi => by rw [hsb i (by omega) (by omega), olda i hi]
  have hyb := hy.mono (AHeap.subOf oldb)
  have rgb : Row gb h.next (beL S vv sv) := by obtain ⟨w, gr, e⟩ := rga; exact ⟨w, gr, by rw [hsb _ (by omega) (by omega)]; exact e⟩
  have hm4 : gb.get g1.next = some (.row (beV (.int .i64 0) (.int .i64 0) nilS (.int .i64 0) nilS) true 0) := by rw [hsb _ (by omega) (by omega), hm3]; exact hx2.get
  have rr : Row gb g2.next _ := ⟨_, _, growb⟩
  have hone : allB oneCell (beL S v' s') = true := by simp [beL, allB, one_int, ov, gvb.one]
  simp only [rn0, rn1, rn2, rn3, rn4, rn5, rn6, rn7, rn8, if_true, if_false, Nat.le_refl, true_and, and_true, decide_true, decide_false, Bool.not_true, Bool.not_false, reduceIte, Nat.reduceEqDiff, Nat.reduceAdd, Nat.reduceMul, Nat.reduceSub, Nat.reduceLeDiff, Nat.reduceLT, p1, p2, p3, p6, rgb.ld, beg, Nat.zero_add, Cells.len hyb.s, Int.lt_irrefl, rr.whole (n := 5) rfl]
  refine step_store (b := g1.next) (off := 0) (vs := beL S v' s') rfl hm4 (by omega) (by omega) rfl hone rfl (by simp) fun gc hsc => ?_
  rw [splice_all (by rfl)] at hsc
  have nc := hsc.next
  have fc := hsc.floor
  simp only [rn0, rn1, rn2, rn3, rn4, rn5, rn6, rn7, rn8, if_true, if_false, Nat.le_refl, true_and, and_true, decide_true, decide_false, Bool.not_true, Bool.not_false, reduceIte, Nat.reduceEqDiff, Nat.reduceAdd, Nat.reduceMul, Nat.reduceSub, Nat.reduceLeDiff, Nat.reduceLT, p2, res_cellN, hsc.row.whole (n := 5) rfl]
  have sep : ∀ {v : Value} {s m : Nat} {c : Nat → Nat → Value}, Cells gb v s m c → (∀ x k q, v = .slice (some x) k q → g1.next < x.block) → Cells gc v s m c := fun {v s m c} hc hb => by
    obtain ⟨a, cap, rfl, hsp, h0 | ⟨b, o, cs, w, gr, rfl, h1, h2⟩⟩ := hc
    · exact ⟨a, cap, rfl, hsp, .inl h0⟩
    · have := hb _ _ _ rfl
      have : b ≠ g1.next := by have : g1.next < b := this; omega
      exact ⟨_, cap, rfl, hsp, .inr ⟨b, o, cs, w, gr, rfl, by rw [hsc.old b this]; exact h1, h2⟩⟩
  refine ⟨v', s', rfl, ⟨?_, ?_⟩, fun i hi => by rw [hsc.old i (by omega), oldb i hi], by omega, by omega, by omega⟩
  · have q : Cells gb v' 4 S.nv (vatC S) := by
      obtain ⟨a, cap, rfl, hsp, h0 | ⟨b, o, cs, w, gr, rfl, h1, h2⟩⟩ := cv
      · exact ⟨a, cap, rfl, hsp, .inl h0⟩
      · have hb := bv _ _ _ rfl
        have hb2 := bv2 _ _ _ rfl
        exact ⟨_, cap, rfl, hsp, .inr ⟨b, o, cs, w, gr, rfl, by rw [hsb b hb fun e => hb2 e.symm]; exact h1, h2⟩⟩
    exact sep q fun x k q e => by have := bvl x k q e; omega
  · exact sep gvb.cells fun x k q e => by have := (gvb.block e).1; omega
end Go.Vm.Bt

namespace Go.Vm.Bt
open Go.Proofs Go.Vm.Vat Go.Vm.L2
set_option linter.unusedSimpArgs false
set_option linter.unusedVariables false
set_option maxRecDepth 10000
variable {n : Nat} {h : AHeap}
def FlatP (P : Program) (e : TypeId) (s : Nat) (ok : Nat → Value → Prop) : Prop :=
  ∀ {H : Type} (enc : TypeId × Value → H) (w : World) (base : Nat) (sp : Nat → Bool) (held : Bool) (fuel : Nat) (cs : List Value) (x : DataW H × List MemPlace), DataW.trod enc P w base sp held fuel e cs = some x →
    cs.length = s ∧ ∀ j v, cs[j]? = some v → ok j v
def FlatSP (w : World) (s : Nat) (ok : Nat → Value → Prop) (v : Value) : Prop :=
  v = .slice none 0 0 ∨ ∃ a len cap, v = .slice (some a) len cap ∧ len ≤ cap ∧ ∀ i, i < len * s → ∃ c, w.cell? (a.add i) = some c ∧ ok (i % s) c
theorem flatP_slice {P : Program} {t e : TypeId} {s : Nat} {ok : Nat → Value → Prop} {H : Type} {enc : TypeId × Value → H} {w : World} {base : Nat} {sp : Nat → Bool} {held : Bool} {fuel : Nat} {cs : List Value} {x : DataW H × List MemPlace}
    (ht : P.underlying t = some (.slice e)) (hs : P.cellsOf e = s) (h0 : 0 < s) (hf : FlatP P e s ok) (h : DataW.trod enc P w base sp held fuel t cs = some x) : ∃ v, cs = [v] ∧ FlatSP w s ok v := by
  rcases DataW.trod_slice ht h with ⟨rfl, _⟩ | ⟨a, len, cap, elems, rest, n, _, rfl, _, _, hl, _, hlen, hel, _, _⟩
  · exact ⟨_, rfl, .inl rfl⟩
  · refine ⟨_, rfl, .inr ⟨a, len, cap, rfl, hl, fun i hi => ?_⟩⟩
    have hk : i / s < len := Nat.div_lt_of_lt_mul (by rw [Nat.mul_comm]; exact hi)
    have he := hel (i / s) hk
    rw [List.getElem?_eq_getElem (by omega), hs] at he
    simp only [Option.bind_eq_some_iff] at he
    obtain ⟨l, hl1, hl2⟩ := he
    obtain ⟨_, h3, h4⟩ := World.cells?_some hl1
    obtain ⟨_, h5⟩ := hf _ _ _ _ _ _ _ _ hl2
    have hm : i % s < s := Nat.mod_lt _ h0
    have h6 := h4 (i % s) hm
    rw [Addr.add_add, Nat.mul_comm, Nat.div_add_mod, List.getElem?_eq_getElem (by omega)] at h6
    exact ⟨_, h6, h5 _ _ (List.getElem?_eq_getElem (by omega))⟩
def cellAt (w : World) (a : Addr) (i : Nat) : Value := (w.cell? (a.add i)).getD (.bool false)
theorem _root_.Go.Vm.Loaded.flatP {w : World} {φ : Emb} {h : AHeap} (L : Loaded w φ h) (hn : h.next < far) {s : Nat} {ok : Nat → Value → Prop} {v : Value} (hs : 0 < s) (hok : ∀ j v, ok j v → (∀ (φ : Emb) n, okV φ n v) ∧ oneCell v = true ∧ ∀ φ : Emb, mapV φ v = v) (hf : FlatSP w s ok v) :
    ∃ φ' h' u, Step w φ h φ' h' 1 ∧ Stands φ' h' u v ∧ ∃ c : Nat → Nat → Value, Cells h' u s (vlen v) c ∧ ∀ i j, i < vlen v → j < s → ok j (c i j) := by
  rcases hf with rfl | ⟨a, len, cap, rfl, hl, hc⟩
  · exact ⟨φ, h, .slice none 0 0, ⟨L, Sub.refl, Nat.le_refl _, by omega, rfl, Agree.refl _ _⟩, ⟨by simp [mapV], by simp [okV], rfl⟩, fun _ _ => .bool false, ⟨none, 0, rfl, fun x e => (by cases e), .inl rfl⟩, fun i j hi => absurd hi (Nat.not_lt_zero _)⟩
  · have hlt : ∀ i j, i < len → j < s → i * s + j < len * s := fun i j hi hj => by
      have : (i + 1) * s ≤ len * s := Nat.mul_le_mul_right s hi
      rw [Nat.add_mul] at this
      omega
    have hat : ∀ i, i < len * s → w.cell? (a.add i) = some (cellAt w a i) ∧ ok (i % s) (cellAt w a i) := fun i hi => by
      obtain ⟨c, h1, h2⟩ := hc i hi
      have : cellAt w a i = c := by unfold cellAt; rw [h1]; rfl
      rw [this]; exact ⟨h1, h2⟩
    obtain ⟨φ', h', u, q1, q2, q3, q4, q5, q6, q7, q8, q9⟩ := L.slice hn (a := a) hl hs ((List.range (len * s)).map fun i => cellAt w a i) (by simp) (fun i v hv => by
      rw [List.getElem?_map] at hv
      by_cases hi : i < len * s
      · rw [List.getElem?_range hi] at hv
        cases hv
        obtain ⟨h1, h2⟩ := hat i hi
        obtain ⟨k1, k2, k3⟩ := hok _ _ h2
        exact ⟨k1 _ _, k2, by rw [k3]; exact h1⟩
      · rw [List.getElem?_eq_none (by simp; omega)] at hv
        cases hv) (c := fun i j => cellAt w a (i * s + j)) (fun i j hi hj => by rw [List.getElem?_map, List.getElem?_range (hlt i j hi hj)]; rfl)
    refine ⟨φ', h', u, ⟨q1, q2, by omega, by omega, q4, q5⟩, ⟨q6, q7, q8⟩, _, q9, fun i j hi hj => ?_⟩
    have := (hat _ (hlt i j hi hj)).2
    rw [Nat.mul_comm, Nat.mul_add_mod, Nat.mod_eq_of_lt hj] at this
    rw [Nat.mul_comm]
    exact this
theorem flat_struct3 {P : Program} {k : IntKind} {t : TypeId} {f0 f1 f2 : Field} {s0 s1 s2 : Nat} (ht : P.underlying t = some (.struct #[f0, f1, f2])) (hc : P.cellsOf t = s0 + s1 + s2) (o0 : f0.offset = 0) (o1 : f1.offset = s0) (o2 : f2.offset = s0 + s1)
    (c0 : P.cellsOf f0.type = s0) (c1 : P.cellsOf f1.type = s1) (c2 : P.cellsOf f2.type = s2) (h0 : FlatT P k f0.type s0) (h1 : FlatT P k f1.type s1) (h2 : FlatT P k f2.type s2) : FlatT P k t (s0 + s1 + s2) := by
  intro H enc w base sp held fuel cs x h
  obtain ⟨xs, n, _, _, hl, hx, hf⟩ := DataW.trod_struct ht h
  rw [hc] at hl
  have hx3 : xs.length = 3 := hx
  have e0 := hf 0 _ rfl
  have e1 := hf 1 _ rfl
  have e2 := hf 2 _ rfl
  rw [List.getElem?_eq_getElem (by omega)] at e0 e1 e2
  change DataW.trod enc P w base sp held n f0.type ((cs.drop f0.offset).take (P.cellsOf f0.type)) = _ at e0
  obtain ⟨_, k0⟩ := h0 _ _ _ _ _ _ _ _ e0
  change DataW.trod enc P w base sp held n f1.type ((cs.drop f1.offset).take (P.cellsOf f1.type)) = _ at e1
  obtain ⟨_, k1⟩ := h1 _ _ _ _ _ _ _ _ e1
  change DataW.trod enc P w base sp held n f2.type ((cs.drop f2.offset).take (P.cellsOf f2.type)) = _ at e2
  obtain ⟨_, k2⟩ := h2 _ _ _ _ _ _ _ _ e2
  rw [o0, c0, List.drop_zero] at k0
  rw [o1, c1] at k1
  rw [o2, c2, List.take_of_length_le (by rw [List.length_drop]; omega)] at k2
  refine ⟨hl, fun v hv => ?_⟩
  rw [← List.take_append_drop s0 cs] at hv
  rcases List.mem_append.1 hv with hv | hv
  · exact k0 v hv
  · rw [← List.take_append_drop s1 (cs.drop s0), List.drop_drop] at hv
    rcases List.mem_append.1 hv with hv | hv
    · exact k1 v hv
    · exact k2 v hv
theorem c3 : Try.prog.cellsOf 3 = 1 := by kernel_rfl
theorem c4 : Try.prog.cellsOf 4 = 1 := by kernel_rfl
theorem c23 : Try.prog.cellsOf 23 = 2 := by kernel_rfl
theorem c107 : Try.prog.cellsOf 107 = 4 := by kernel_rfl
theorem c113 : Try.prog.cellsOf 113 = 3 := by kernel_rfl
theorem c24 : Try.prog.cellsOf 24 = 1 := by kernel_rfl
theorem c25 : Try.prog.cellsOf 25 = 1 := by kernel_rfl
theorem c27 : Try.prog.cellsOf 27 = 5 := by kernel_rfl
theorem c95 : Try.prog.cellsOf 95 = 1 := by kernel_rfl
theorem flat3 : FlatT Try.prog .i64 3 1 := flat_int (by rfl)
theorem flat23 : FlatT Try.prog .i64 23 2 := flat_struct2 (s0 := 1) (s1 := 1) Try.underlying23 c23 rfl rfl c3 c3 flat3 flat3
theorem flat107 : FlatT Try.prog .i64 107 4 := flat_struct3 (s0 := 2) (s1 := 1) (s2 := 1) Try.underlying107 c107 rfl rfl rfl c23 c3 c3 flat23 flat3 flat3
def sampOk (j : Nat) (v : Value) : Prop := if j = 2 then ∃ b, v = .bool b else ∃ n, v = .int .i64 n
theorem sampOk_fine : ∀ j v, sampOk j v → (∀ (φ : Emb) n, okV φ n v) ∧ oneCell v = true ∧ ∀ φ : Emb, mapV φ v = v := fun j v h => by
  unfold sampOk at h
  split at h
  · obtain ⟨b, rfl⟩ := h; exact ⟨fun _ _ => by simp [okV], rfl, fun _ => by simp [mapV]⟩
  · obtain ⟨b, rfl⟩ := h; exact ⟨fun _ _ => by simp [okV], rfl, fun _ => by simp [mapV]⟩
theorem samp_cells {H : Type} {enc : TypeId × Value → H} {w : World} {base : Nat} {sp : Nat → Bool} {held : Bool} {fuel : Nat} {cs : List Value} {x : DataW H × List MemPlace} (h : DataW.trod enc Try.prog w base sp held fuel 113 cs = some x) : ∃ a b d, cs = [.int .i64 a, .int .i64 b, .bool d] := by
  obtain ⟨xs, n, _, _, hl, hx, hf⟩ := DataW.trod_struct Try.underlying113 h
  rw [c113] at hl
  obtain ⟨a, b, d, rfl⟩ : ∃ a b c, cs = [a, b, c] := by
    match cs, hl with
    | [a, b, c], _ => exact ⟨a, b, c, rfl⟩
  have hx3 : xs.length = 3 := hx
  have h0 := hf 0 _ rfl
  have h1 := hf 1 _ rfl
  have h2 := hf 2 _ rfl
  rw [List.getElem?_eq_getElem (by omega)] at h0 h1 h2
  change DataW.trod enc Try.prog w base sp held n 3 (([a, b, d].drop 0).take (Try.prog.cellsOf 3)) = _ at h0
  change DataW.trod enc Try.prog w base sp held n 3 (([a, b, d].drop 1).take (Try.prog.cellsOf 3)) = _ at h1
  change DataW.trod enc Try.prog w base sp held n 4 (([a, b, d].drop 2).take (Try.prog.cellsOf 4)) = _ at h2
  rw [c3] at h0 h1
  rw [c4] at h2
  obtain ⟨n0, e0, _⟩ := DataW.trod_int (show Try.prog.underlying 3 = some (.int .i64) by rfl) h0
  obtain ⟨n1, e1, _⟩ := DataW.trod_int (show Try.prog.underlying 3 = some (.int .i64) by rfl) h1
  obtain ⟨b2, e2, _⟩ := DataW.trod_bool Try.underlying4 h2
  cases e0
  cases e1
  cases e2
  exact ⟨_, _, _, rfl⟩
theorem flat113 : FlatP Try.prog 113 3 sampOk := by
  intro H enc w base sp held fuel cs x h
  obtain ⟨a, b, d, rfl⟩ := samp_cells h
  refine ⟨rfl, fun j v hv => ?_⟩
  unfold sampOk
  rcases j with _ | _ | _ | j
  · cases hv; exact ⟨_, rfl⟩
  · cases hv; exact ⟨_, rfl⟩
  · cases hv; exact ⟨_, rfl⟩
  · simp at hv
section
variable {H : Type} {enc : TypeId × Value → H} {w : World} {base : Nat} {sp : Nat → Bool} {held : Bool} {fuel : Nat} {cs : List Value} {x : DataW H × List MemPlace}
theorem flat95 : FlatT Try.prog .u16 95 1 := flat_int Try.underlying95
theorem flatS_words (h : DataW.trod enc Try.prog w base sp held fuel 96 cs = some x) : ∃ v, cs = [v] ∧ FlatS w .u16 1 v := flat_slice Try.underlying96 c95 (by omega) flat95 h
structure BeatW (wd : World) (vv sv : Value) : Prop where
  v : FlatS wd .i64 4 vv
  s : FlatSP wd 3 sampOk sv
theorem beatW_of (h : DataW.trod enc Try.prog w base sp held fuel 27 cs = some x) : ∃ a b vv c sv, cs = [.int .i64 a, .int .i64 b, vv, .int .i64 c, sv] ∧ BeatW w vv sv := by
  obtain ⟨xs, n, _, _, hl, hx, hf⟩ := DataW.trod_struct Try.underlying27 h
  rw [c27] at hl
  obtain ⟨a, b, vv, c, sv, rfl⟩ : ∃ a b c d e, cs = [a, b, c, d, e] := by
    match cs, hl with
    | [a, b, c, d, e], _ => exact ⟨a, b, c, d, e, rfl⟩
  have hx3 : xs.length = 4 := hx
  have h0 := hf 0 _ rfl
  have h1 := hf 1 _ rfl
  have h2 := hf 2 _ rfl
  have h3 := hf 3 _ rfl
  rw [List.getElem?_eq_getElem (by omega)] at h0 h1 h2 h3
  change DataW.trod enc Try.prog w base sp held n 23 (([a, b, vv, c, sv].drop 0).take (Try.prog.cellsOf 23)) = _ at h0
  change DataW.trod enc Try.prog w base sp held n 24 (([a, b, vv, c, sv].drop 2).take (Try.prog.cellsOf 24)) = _ at h1
  change DataW.trod enc Try.prog w base sp held n 3 (([a, b, vv, c, sv].drop 3).take (Try.prog.cellsOf 3)) = _ at h2
  change DataW.trod enc Try.prog w base sp held n 25 (([a, b, vv, c, sv].drop 4).take (Try.prog.cellsOf 25)) = _ at h3
  rw [c23] at h0
  rw [c24] at h1
  rw [c3] at h2
  rw [c25] at h3
  obtain ⟨_, k0⟩ := flat23 _ _ _ _ _ _ _ _ h0
  obtain ⟨_, k2⟩ := flat3 _ _ _ _ _ _ _ _ h2
  obtain ⟨_, e1, k1⟩ := flat_slice Try.underlying24 c107 (by omega) flat107 h1
  obtain ⟨_, e3, k3⟩ := flatP_slice Try.underlying25 c113 (by omega) flat113 h3
  cases e1
  cases e3
  obtain ⟨a', rfl, _⟩ := k0 a (by simp)
  obtain ⟨b', rfl, _⟩ := k0 b (by simp)
  obtain ⟨c', rfl, _⟩ := k2 c (by simp)
  exact ⟨a', b', vv, c', sv, rfl, k1, k3⟩
end
def intOf : Value → Int
  | .int _ n => n
  | _ => 0
def boolOf : Value → Bool
  | .bool b => b
  | _ => false
theorem beat_load {w : World} {φ : Emb} (L : Loaded w φ h) (hn : h.next + 40 < far) {vv sv : Value} (hy : BeatW w vv sv) (a b c : Int) :
    ∃ φ' h' u1 u2 S, Step w φ h φ' h' 2 ∧ Stands φ' h' u1 vv ∧ Stands φ' h' u2 sv ∧ BeatR h' u1 u2 S ∧ S.slo = a ∧ S.shi = b ∧ S.last = c := by
  obtain ⟨φ1, h1, u1, s1, t1, c1, r1⟩ := L.flat (by omega) (by omega) hy.v
  have n1 := s1.next
  obtain ⟨φ2, h2, u2, s2, t2, c2, r2, k2⟩ := s1.ld.flatP (by omega) (by omega) sampOk_fine hy.s
  have n2 := s2.next
  refine ⟨φ2, h2, u1, u2, ⟨a, b, vlen vv, fun k => c1 k 0, fun k => c1 k 1, fun k => c1 k 2, fun k => c1 k 3, c, vlen sv, fun k => intOf (c2 k 0), fun k => intOf (c2 k 1), fun k => boolOf (c2 k 2)⟩, s1.trans s2, t1.step s2, t2, ⟨?_, ?_⟩, rfl, rfl, rfl⟩
  · refine cells_congr (r1.mono s2.sub) fun k j hk hj => ?_
    rcases j with _ | _ | _ | _ | j
    · rfl
    · rfl
    · rfl
    · rfl
    · omega
  · refine cells_congr r2 fun k j hk hj => ?_
    have := k2 k j hk hj
    unfold sampOk at this
    rcases j with _ | _ | _ | j
    · obtain ⟨n, e⟩ := this; simp only [sampC, e, intOf]; rfl
    · obtain ⟨n, e⟩ := this; simp only [sampC, e, intOf]; rfl
    · obtain ⟨n, e⟩ := this; simp only [sampC, e, boolOf]; rfl
    · omega
end Go.Vm.Bt

namespace Go.Vm.BtAwake
def quiet : List Nat := [81]
def e0 : Entry :=
  { next := 51, f := 36, args := [(.agg ⟨[(.int Go.IntKind.i64 (0)), (.int Go.IntKind.i64 (1)), (.slice (some ⟨50, 0, none⟩) 2 2), (.int Go.IntKind.i64 (6)), (.slice none 0 0)]⟩)], objs := [(50, .row [(.int Go.IntKind.i64 (2)), (.int Go.IntKind.i64 (4)), (.int Go.IntKind.i64 (3)), (.int Go.IntKind.i64 (2)), (.int Go.IntKind.i64 (3)), (.int Go.IntKind.i64 (3)), (.int Go.IntKind.i64 (1)), (.int Go.IntKind.i64 (5))] true 0)], val := (.tuple ⟨[(.slice (some ⟨209, 0, none⟩) 2 4611686018427387904), (.int Go.IntKind.i64 (0))]⟩), next' := 210, objs' := [(209, .row [(.int Go.IntKind.i64 (2)), (.int Go.IntKind.i64 (5)), (.int Go.IntKind.i64 (3)), (.int Go.IntKind.i64 (4))] true 2)] }
def e1 : Entry :=
  { next := 215, f := 37, args := [(.agg ⟨[(.int Go.IntKind.i64 (0)), (.int Go.IntKind.i64 (1)), (.slice (some ⟨214, 0, none⟩) 2 2), (.int Go.IntKind.i64 (6)), (.slice none 0 0)]⟩), (.int Go.IntKind.i64 (1)), (.int Go.IntKind.i64 (3))], objs := [(214, .row [(.int Go.IntKind.i64 (2)), (.int Go.IntKind.i64 (4)), (.int Go.IntKind.i64 (3)), (.int Go.IntKind.i64 (2)), (.int Go.IntKind.i64 (3)), (.int Go.IntKind.i64 (3)), (.int Go.IntKind.i64 (1)), (.int Go.IntKind.i64 (5))] true 0)], val := (.tuple ⟨[(.int Go.IntKind.i64 (3)), (.int Go.IntKind.i64 (0))]⟩), next' := 380, objs' := [] }
def e2 : Entry :=
  { next := 386, f := 44, args := [(.agg ⟨[(.int Go.IntKind.i64 (0)), (.int Go.IntKind.i64 (1)), (.slice (some ⟨384, 0, none⟩) 2 2), (.int Go.IntKind.i64 (6)), (.slice none 0 0)]⟩), (.slice (some ⟨385, 0, none⟩) 2 2)], objs := [(385, .row [(.int Go.IntKind.i64 (6)), (.int Go.IntKind.i64 (6))] true 0), (384, .row [(.int Go.IntKind.i64 (2)), (.int Go.IntKind.i64 (4)), (.int Go.IntKind.i64 (3)), (.int Go.IntKind.i64 (2)), (.int Go.IntKind.i64 (3)), (.int Go.IntKind.i64 (3)), (.int Go.IntKind.i64 (1)), (.int Go.IntKind.i64 (5))] true 0)], val := (.tuple ⟨[(.agg ⟨[(.int Go.IntKind.i64 (12)), (.int Go.IntKind.i64 (23))]⟩), (.int Go.IntKind.i64 (0))]⟩), next' := 534, objs' := [] }
def e3 : Entry :=
  { next := 540, f := 47, args := [(.agg ⟨[(.int Go.IntKind.i64 (0)), (.int Go.IntKind.i64 (1)), (.slice (some ⟨539, 0, none⟩) 2 2), (.int Go.IntKind.i64 (6)), (.slice none 0 0)]⟩)], objs := [(539, .row [(.int Go.IntKind.i64 (2)), (.int Go.IntKind.i64 (4)), (.int Go.IntKind.i64 (3)), (.int Go.IntKind.i64 (2)), (.int Go.IntKind.i64 (3)), (.int Go.IntKind.i64 (3)), (.int Go.IntKind.i64 (1)), (.int Go.IntKind.i64 (5))] true 0)], val := (.tuple ⟨[(.slice (some ⟨1817, 0, none⟩) 2 4611686018427387904), (.int Go.IntKind.i64 (4)), (.int Go.IntKind.i64 (0))]⟩), next' := 1963, objs' := [(1817, .row [(.int Go.IntKind.i64 (4)), (.int Go.IntKind.i64 (3))] true 1)] }
def e4 : Entry :=
  { next := 1971, f := 86, args := [(.agg ⟨[(.int Go.IntKind.i64 (0)), (.int Go.IntKind.i64 (1)), (.slice (some ⟨1969, 0, none⟩) 2 2), (.int Go.IntKind.i64 (6)), (.slice (some ⟨1964, 0, none⟩) 1 1)]⟩), (.slice none 0 0)], objs := [(1964, .row [(.int Go.IntKind.i64 (0)), (.int Go.IntKind.i64 (3)), (.bool false)] true 0), (1969, .row [(.int Go.IntKind.i64 (2)), (.int Go.IntKind.i64 (4)), (.int Go.IntKind.i64 (3)), (.int Go.IntKind.i64 (2)), (.int Go.IntKind.i64 (3)), (.int Go.IntKind.i64 (3)), (.int Go.IntKind.i64 (1)), (.int Go.IntKind.i64 (5))] true 0)], val := (.tuple ⟨[(.agg ⟨[(.int Go.IntKind.i64 (0)), (.int Go.IntKind.i64 (1)), (.slice (some ⟨1969, 0, none⟩) 2 2), (.int Go.IntKind.i64 (6)), (.slice (some ⟨1964, 0, none⟩) 1 1), (.slice (some ⟨2092, 0, none⟩) 3 4611686018427387904)]⟩), (.int Go.IntKind.i64 (0))]⟩), next' := 2093, objs' := [(2092, .row [(.int Go.IntKind.i64 (4)), (.int Go.IntKind.i64 (3)), (.int Go.IntKind.i64 (0)), (.int Go.IntKind.i64 (4)), (.int Go.IntKind.i64 (4)), (.int Go.IntKind.i64 (0)), (.int Go.IntKind.i64 (5)), (.int Go.IntKind.i64 (4)), (.int Go.IntKind.i64 (0))] true 3)] }
def e5 : Entry :=
  { next := 2123, f := 96, args := [(.agg ⟨[(.int Go.IntKind.i64 (0)), (.int Go.IntKind.i64 (1)), (.slice (some ⟨1969, 0, none⟩) 2 2), (.int Go.IntKind.i64 (6)), (.slice (some ⟨1964, 0, none⟩) 1 1), (.slice (some ⟨2092, 0, none⟩) 3 4611686018427387904)]⟩)], objs := [(2092, .row [(.int Go.IntKind.i64 (4)), (.int Go.IntKind.i64 (3)), (.int Go.IntKind.i64 (0)), (.int Go.IntKind.i64 (4)), (.int Go.IntKind.i64 (4)), (.int Go.IntKind.i64 (0)), (.int Go.IntKind.i64 (5)), (.int Go.IntKind.i64 (4)), (.int Go.IntKind.i64 (0))] true 3), (1964, .row [(.int Go.IntKind.i64 (0)), (.int Go.IntKind.i64 (3)), (.bool false)] true 0), (1969, .row [(.int Go.IntKind.i64 (2)), (.int Go.IntKind.i64 (4)), (.int Go.IntKind.i64 (3)), (.int Go.IntKind.i64 (2)), (.int Go.IntKind.i64 (3)), (.int Go.IntKind.i64 (3)), (.int Go.IntKind.i64 (1)), (.int Go.IntKind.i64 (5))] true 0)], val := (.tuple ⟨[(.slice (some ⟨2957, 0, none⟩) 2 4611686018427387904), (.int Go.IntKind.i64 (3))]⟩), next' := 3026, objs' := [(2957, .row [(.int Go.IntKind.i64 (5)), (.int Go.IntKind.i64 (3))] true 1)] }
def e6 : Entry :=
  { next := 3026, f := 128, args := [(.agg ⟨[(.int Go.IntKind.i64 (0)), (.int Go.IntKind.i64 (1)), (.slice (some ⟨1969, 0, none⟩) 2 2), (.int Go.IntKind.i64 (6)), (.slice (some ⟨1964, 0, none⟩) 1 1), (.slice (some ⟨2092, 0, none⟩) 3 4611686018427387904)]⟩), (.agg ⟨[(.int Go.IntKind.i64 (0)), (.int Go.IntKind.i64 (4)), (.bool true)]⟩)], objs := [(2092, .row [(.int Go.IntKind.i64 (4)), (.int Go.IntKind.i64 (3)), (.int Go.IntKind.i64 (0)), (.int Go.IntKind.i64 (4)), (.int Go.IntKind.i64 (4)), (.int Go.IntKind.i64 (0)), (.int Go.IntKind.i64 (5)), (.int Go.IntKind.i64 (4)), (.int Go.IntKind.i64 (0))] true 3), (1964, .row [(.int Go.IntKind.i64 (0)), (.int Go.IntKind.i64 (3)), (.bool false)] true 0), (1969, .row [(.int Go.IntKind.i64 (2)), (.int Go.IntKind.i64 (4)), (.int Go.IntKind.i64 (3)), (.int Go.IntKind.i64 (2)), (.int Go.IntKind.i64 (3)), (.int Go.IntKind.i64 (3)), (.int Go.IntKind.i64 (1)), (.int Go.IntKind.i64 (5))] true 0)], val := (.int Go.IntKind.i64 (1)), next' := 3645, objs' := [] }
def e7 : Entry :=
  { next := 3645, f := 128, args := [(.agg ⟨[(.int Go.IntKind.i64 (0)), (.int Go.IntKind.i64 (1)), (.slice (some ⟨1969, 0, none⟩) 2 2), (.int Go.IntKind.i64 (6)), (.slice (some ⟨1964, 0, none⟩) 1 1), (.slice (some ⟨2092, 0, none⟩) 3 4611686018427387904)]⟩), (.agg ⟨[(.int Go.IntKind.i64 (0)), (.int Go.IntKind.i64 (4)), (.bool false)]⟩)], objs := [(2092, .row [(.int Go.IntKind.i64 (4)), (.int Go.IntKind.i64 (3)), (.int Go.IntKind.i64 (0)), (.int Go.IntKind.i64 (4)), (.int Go.IntKind.i64 (4)), (.int Go.IntKind.i64 (0)), (.int Go.IntKind.i64 (5)), (.int Go.IntKind.i64 (4)), (.int Go.IntKind.i64 (0))] true 3), (1964, .row [(.int Go.IntKind.i64 (0)), (.int Go.IntKind.i64 (3)), (.bool false)] true 0), (1969, .row [(.int Go.IntKind.i64 (2)), (.int Go.IntKind.i64 (4)), (.int Go.IntKind.i64 (3)), (.int Go.IntKind.i64 (2)), (.int Go.IntKind.i64 (3)), (.int Go.IntKind.i64 (3)), (.int Go.IntKind.i64 (1)), (.int Go.IntKind.i64 (5))] true 0)], val := (.int Go.IntKind.i64 (0)), next' := 4212, objs' := [] }
def e8 : Entry :=
  { next := 4212, f := 128, args := [(.agg ⟨[(.int Go.IntKind.i64 (0)), (.int Go.IntKind.i64 (1)), (.slice (some ⟨1969, 0, none⟩) 2 2), (.int Go.IntKind.i64 (6)), (.slice (some ⟨1964, 0, none⟩) 1 1), (.slice (some ⟨2092, 0, none⟩) 3 4611686018427387904)]⟩), (.agg ⟨[(.int Go.IntKind.i64 (1)), (.int Go.IntKind.i64 (3)), (.bool true)]⟩)], objs := [(2092, .row [(.int Go.IntKind.i64 (4)), (.int Go.IntKind.i64 (3)), (.int Go.IntKind.i64 (0)), (.int Go.IntKind.i64 (4)), (.int Go.IntKind.i64 (4)), (.int Go.IntKind.i64 (0)), (.int Go.IntKind.i64 (5)), (.int Go.IntKind.i64 (4)), (.int Go.IntKind.i64 (0))] true 3), (1964, .row [(.int Go.IntKind.i64 (0)), (.int Go.IntKind.i64 (3)), (.bool false)] true 0), (1969, .row [(.int Go.IntKind.i64 (2)), (.int Go.IntKind.i64 (4)), (.int Go.IntKind.i64 (3)), (.int Go.IntKind.i64 (2)), (.int Go.IntKind.i64 (3)), (.int Go.IntKind.i64 (3)), (.int Go.IntKind.i64 (1)), (.int Go.IntKind.i64 (5))] true 0)], val := (.int Go.IntKind.i64 (0)), next' := 4700, objs' := [] }
def e9 : Entry :=
  { next := 4700, f := 128, args := [(.agg ⟨[(.int Go.IntKind.i64 (0)), (.int Go.IntKind.i64 (1)), (.slice (some ⟨1969, 0, none⟩) 2 2), (.int Go.IntKind.i64 (6)), (.slice (some ⟨1964, 0, none⟩) 1 1), (.slice (some ⟨2092, 0, none⟩) 3 4611686018427387904)]⟩), (.agg ⟨[(.int Go.IntKind.i64 (1)), (.int Go.IntKind.i64 (3)), (.bool false)]⟩)], objs := [(2092, .row [(.int Go.IntKind.i64 (4)), (.int Go.IntKind.i64 (3)), (.int Go.IntKind.i64 (0)), (.int Go.IntKind.i64 (4)), (.int Go.IntKind.i64 (4)), (.int Go.IntKind.i64 (0)), (.int Go.IntKind.i64 (5)), (.int Go.IntKind.i64 (4)), (.int Go.IntKind.i64 (0))] true 3), (1964, .row [(.int Go.IntKind.i64 (0)), (.int Go.IntKind.i64 (3)), (.bool false)] true 0), (1969, .row [(.int Go.IntKind.i64 (2)), (.int Go.IntKind.i64 (4)), (.int Go.IntKind.i64 (3)), (.int Go.IntKind.i64 (2)), (.int Go.IntKind.i64 (3)), (.int Go.IntKind.i64 (3)), (.int Go.IntKind.i64 (1)), (.int Go.IntKind.i64 (5))] true 0)], val := (.int Go.IntKind.i64 (2)), next' := 5416, objs' := [] }
def e10 : Entry :=
  { next := 5423, f := 53, args := [(.agg ⟨[(.int Go.IntKind.i64 (0)), (.int Go.IntKind.i64 (1)), (.slice (some ⟨5422, 0, none⟩) 2 2), (.int Go.IntKind.i64 (6)), (.slice (some ⟨5417, 0, none⟩) 2 2)]⟩)], objs := [(5417, .row [(.int Go.IntKind.i64 (1)), (.int Go.IntKind.i64 (3)), (.bool false), (.int Go.IntKind.i64 (0)), (.int Go.IntKind.i64 (2)), (.bool true)] true 0), (5422, .row [(.int Go.IntKind.i64 (2)), (.int Go.IntKind.i64 (4)), (.int Go.IntKind.i64 (3)), (.int Go.IntKind.i64 (2)), (.int Go.IntKind.i64 (3)), (.int Go.IntKind.i64 (3)), (.int Go.IntKind.i64 (1)), (.int Go.IntKind.i64 (5))] true 0)], val := (.tuple ⟨[(.int Go.IntKind.i64 (1)), (.int Go.IntKind.i64 (0))]⟩), next' := 5572, objs' := [] }
def e11 : Entry :=
  { next := 5579, f := 54, args := [(.agg ⟨[(.int Go.IntKind.i64 (0)), (.int Go.IntKind.i64 (1)), (.slice (some ⟨5578, 0, none⟩) 2 2), (.int Go.IntKind.i64 (6)), (.slice (some ⟨5573, 0, none⟩) 2 2)]⟩)], objs := [(5573, .row [(.int Go.IntKind.i64 (1)), (.int Go.IntKind.i64 (3)), (.bool false), (.int Go.IntKind.i64 (0)), (.int Go.IntKind.i64 (2)), (.bool true)] true 0), (5578, .row [(.int Go.IntKind.i64 (2)), (.int Go.IntKind.i64 (4)), (.int Go.IntKind.i64 (3)), (.int Go.IntKind.i64 (2)), (.int Go.IntKind.i64 (3)), (.int Go.IntKind.i64 (3)), (.int Go.IntKind.i64 (1)), (.int Go.IntKind.i64 (5))] true 0)], val := (.tuple ⟨[(.slice (some ⟨5632, 0, none⟩) 1 4611686018427387904), (.int Go.IntKind.i64 (0))]⟩), next' := 5733, objs' := [(5632, .row [(.int Go.IntKind.i64 (0))] true 1)] }
def tab : List Entry := [e0, e1, e2, e3, e4, e5, e6, e7, e8, e9, e10, e11]
end Go.Vm.BtAwake

namespace Go.Vm.BtAwake
open Go.Proofs
set_option maxRecDepth 100000
def isTrue (x : Option (Value × AHeap)) : Bool := match x with
  | some (.bool true, _) => true
  | _ => false
theorem main_ok : isTrue (acallO Try.prog quiet tab 1000 (.func (.func 24) #[] #[]) [] AHeap.empty) = true := by kernel_rfl
end Go.Vm.BtAwake
