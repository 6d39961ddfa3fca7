/- Texts of the proofs of this seat, put together: StBnds, StTruths, StMem, StOut, StVerd, StOpenH, StRightP, StGoodH, StOutL, StRightL, StRightM, StGoodP, StRightN, StGoodL, StStuckL, StAskP, StAskL, StStay, StLess, StWarmer, StAskedL. -/
import Derived.Test.YtffgdpkogokdhaaPk14

namespace Go.Vm.St
open Go.Proofs Go.Vm.Vat
set_option linter.unusedSimpArgs false
set_option linter.unusedVariables false
set_option maxRecDepth 10000
variable {n : Nat} {h : AHeap}
/-! ### What is out of a vat, between which bounds -/
theorem cs_flat {s m : Nat} {cs : List Value} {c : Nat → Nat → Value} (hs : 0 < s) (hl : cs.length = m * s) (hc : ∀ k j, k < m → j < s → cs[k * s + j]? = some (c k j)) : cs = flatL s m c := by
  apply List.ext_getElem?
  intro i
  by_cases hi : i < m * s
  · have h1 : i / s < m := Nat.div_lt_of_lt_mul (by rw [Nat.mul_comm]; exact hi)
    have h2 : i % s < s := Nat.mod_lt _ hs
    have h3 : i / s * s + i % s = i := by rw [Nat.mul_comm]; exact Nat.div_add_mod i s
    have a := hc _ _ h1 h2
    have b := flatL_get (c := c) h1 h2
    rw [h3] at a b
    rw [a, b]
  · rw [List.getElem?_eq_none (by omega), List.getElem?_eq_none (by rw [flatL_len]; omega)]
def rngL (m : Nat) (lo hi : Nat → Int) : List Value := flatL 2 m fun k j => .int .i64 (if j = 0 then lo k else hi k)
theorem rngL_congr {m : Nat} {lo hi lo' hi' : Nat → Int} (he : ∀ k, k < m → lo k = lo' k ∧ hi k = hi' k) : rngL m lo hi = rngL m lo' hi' := by
  refine cs_flat (by omega) flatL_len fun k j hk hj => ?_
  rw [rngL, flatL_get (c := fun k j => .int .i64 (if j = 0 then lo k else hi k)) hk hj, (he k hk).1, (he k hk).2]
theorem rngL_cells {g : AHeap} {b m cap gr : Nat} {w : Bool} {lo hi : Nat → Int} (hg : g.get b = some (.row (rngL m lo hi) w gr)) : Ranges g (.slice (some ⟨b, 0, none⟩) m cap) m lo hi :=
  cells_row ⟨w, gr, hg⟩ fun k j hk hj => flatL_get (c := fun k j => .int .i64 (if j = 0 then lo k else hi k)) hk hj
theorem sl_pair {x y : Int} : buildSl 2 1 [.int .i64 0, .int .i64 0] [0] h [.agg ⟨[.int .i64 x, .int .i64 y]⟩] = newSlice h [.int .i64 x, .int .i64 y] 1 1 0 := id rfl
def loB (S : MS) (v : Nat) (L : List (Nat → Int)) (i q : Nat) : Int := minN (blueS S (L.getD 0 fun _ => 0) v (S.vb v + (q : Int))) (fun i => blueS S (L.getD (i + 1) fun _ => 0) v (S.vb v + (q : Int))) i
def hiB (S : MS) (v : Nat) (L : List (Nat → Int)) (i q : Nat) : Int := maxN (blueS S (L.getD 0 fun _ => 0) v (S.vb v + (q : Int))) (fun i => blueS S (L.getD (i + 1) fun _ => 0) v (S.vb v + (q : Int))) i
def s89 : SCode := (.seq (.ops [⟨(some 3), none, .box (T 0)⟩, ⟨(some 4), none, .box (T 1)⟩, ⟨(some 6), none, .mov (.const (.slice none 0 0))⟩]) (.seq (.ops [⟨(some 7), none, .mov (.const (.slice none 0 0))⟩]) (.seq (.seq (.draw [⟨.rd1, ⟨(some 14), none, .loadN 1 (T 3)⟩⟩, ⟨.rd1, ⟨(some 15), none, .loadN 8 (T 4)⟩⟩, ⟨.free, ⟨(some 16), none, .fieldAddr 7 (T 4)⟩⟩, ⟨.rd1, ⟨(some 17), none, .load1 (T 16)⟩⟩, ⟨.free, ⟨(some 18), none, .idxSl 11 (T 17) (.const (.int .i64 (0)))⟩⟩, ⟨.rd1, ⟨(some 19), none, .loadN 11 (T 18)⟩⟩, ⟨.free, ⟨(some 20), none, .mov (T 2)⟩⟩, ⟨.any, ⟨(some 21), none, .call (.func 77) [(T 14), (T 15), (T 19), (T 20)]⟩⟩, ⟨.free, ⟨(some 22), none, .len (T 21)⟩⟩, ⟨.free, ⟨(some 23), none, .mov (.const (.int .i64 (0)))⟩⟩]) (.block 0 (.loop (.seq (.ops [⟨(some 24), none, .int2 .lss (T 23) (T 22)⟩]) (.seq (.cond (T 24) .skip (.exit 0)) (.seq (.block 1 (.seq (.ops [⟨(some 25), none, .idxSl 1 (T 21) (T 23)⟩, ⟨(some 26), none, .load1 (T 25)⟩, ⟨(some 9), none, .mov (T 26)⟩]) (.ops [⟨(some 27), none, .mov (T 7)⟩, ⟨(some 28), none, .mov (T 9)⟩, ⟨(some 29), none, .mov (T 9)⟩, ⟨(some 30), none, .build #[(0, 1), (1, 1)] [(.int .i64 (0)), (.int .i64 (0))] [0, 1] [(T 28), (T 29)]⟩, ⟨(some 31), none, .bslice 2 1 [(.int .i64 (0)), (.int .i64 (0))] [0] [(T 30)]⟩, ⟨(some 32), none, .append 2 16 (T 27) (T 31)⟩, ⟨(some 7), none, .mov (T 32)⟩]))) (.ops [⟨(some 33), none, .int2 .add (T 23) (.const (.int .i64 (1)))⟩, ⟨(some 23), none, .mov (T 33)⟩]))))))) (.seq (.seq (.ops [⟨(some 34), none, .fieldAddr 7 (T 4)⟩, ⟨(some 35), none, .load1 (T 34)⟩, ⟨(some 36), none, .slice 11 (T 35) (some (.const (.int .i64 (1)))) none none⟩, ⟨(some 37), none, .len (T 36)⟩, ⟨(some 38), none, .mov (.const (.int .i64 (0)))⟩]) (.block 2 (.loop (.seq (.ops [⟨(some 39), none, .int2 .lss (T 38) (T 37)⟩]) (.seq (.cond (T 39) .skip (.exit 2)) (.seq (.block 3 (.seq (.ops [⟨(some 40), none, .idxSl 11 (T 36) (T 38)⟩, ⟨(some 41), none, .loadN 11 (T 40)⟩, ⟨(some 11), none, .alloc [(.int .i64 (0)), (.int .i64 (0)), (.int .i64 (0)), (.int .i64 (0)), (.int .i64 (0)), (.int .i64 (0)), (.int .i64 (0)), (.int .i64 (0)), (.int .i64 (0)), (.int .i64 (0)), (.int .i64 (0))]⟩, ⟨none, none, .store 11 (T 11) (T 41)⟩]) (.seq (.ops [⟨(some 42), none, .loadN 1 (T 3)⟩, ⟨(some 43), none, .loadN 8 (T 4)⟩, ⟨(some 44), none, .loadN 11 (T 11)⟩, ⟨(some 45), none, .mov (T 2)⟩, ⟨(some 46), none, .call (.func 77) [(T 42), (T 43), (T 44), (T 45)]⟩, ⟨(some 47), none, .len (T 46)⟩, ⟨(some 48), none, .mov (.const (.int .i64 (0)))⟩]) (.block 4 (.loop (.seq (.ops [⟨(some 49), none, .int2 .lss (T 48) (T 47)⟩]) (.seq (.cond (T 49) .skip (.exit 4)) (.seq (.block 5 (.seq (.ops [⟨(some 50), none, .mov (T 48)⟩, ⟨(some 51), none, .idxSl 1 (T 46) (T 48)⟩, ⟨(some 52), none, .load1 (T 51)⟩, ⟨(some 12), none, .mov (T 50)⟩, ⟨(some 13), none, .mov (T 52)⟩]) (.draw [⟨.free, ⟨(some 53), none, .mov (T 7)⟩⟩, ⟨.free, ⟨(some 54), none, .mov (T 12)⟩⟩, ⟨.free, ⟨(some 55), none, .mov (T 7)⟩⟩, ⟨.free, ⟨(some 56), none, .mov (T 12)⟩⟩, ⟨.free, ⟨(some 57), none, .idxSl 2 (T 55) (T 56)⟩⟩, ⟨.free, ⟨(some 58), none, .fieldAddr 0 (T 57)⟩⟩, ⟨.rd, ⟨(some 59), none, .load1 (T 58)⟩⟩, ⟨.free, ⟨(some 60), none, .mov (T 13)⟩⟩, ⟨.up, ⟨(some 61), none, .bslice 1 1 [(.int .i64 (0))] [0] [(T 60)]⟩⟩, ⟨.up, ⟨(some 62), none, .call (.func 105) [(T 59), (T 61)]⟩⟩, ⟨.free, ⟨(some 63), none, .mov (T 7)⟩⟩, ⟨.free, ⟨(some 64), none, .mov (T 12)⟩⟩, ⟨.free, ⟨(some 65), none, .idxSl 2 (T 63) (T 64)⟩⟩, ⟨.free, ⟨(some 66), none, .fieldAddr 1 (T 65)⟩⟩, ⟨.rd, ⟨(some 67), none, .load1 (T 66)⟩⟩, ⟨.free, ⟨(some 68), none, .mov (T 13)⟩⟩, ⟨.free, ⟨(some 69), none, .plain (.call { callee := .builtin .max, args := #[(T 67), (T 68)], argTypes := #[3, 3] }) 3⟩⟩, ⟨.free, ⟨(some 70), none, .build #[(0, 1), (1, 1)] [(.int .i64 (0)), (.int .i64 (0))] [0, 1] [(T 62), (T 69)]⟩⟩, ⟨.free, ⟨(some 71), none, .idxSl 2 (T 53) (T 54)⟩⟩, ⟨.any, ⟨none, none, .store 2 (T 71) (T 70)⟩⟩]))) (.ops [⟨(some 72), none, .int2 .add (T 48) (.const (.int .i64 (1)))⟩, ⟨(some 48), none, .mov (T 72)⟩]))))))))) (.ops [⟨(some 73), none, .int2 .add (T 38) (.const (.int .i64 (1)))⟩, ⟨(some 38), none, .mov (T 73)⟩]))))))) (.seq (.ops [⟨(some 74), none, .mov (T 7)⟩, ⟨(some 6), none, .mov (T 74)⟩]) .ret)))))
theorem fok89 : FnOk Try.prog 89 75 s89 [.tmp 6] := ⟨Try.f89, _, Try.func89, rfl, Try.ntmps89, by kernel_rfl, by kernel_rfl⟩
set_option maxHeartbeats 4000000 in
theorem bounds_c (hn : 2300 ≤ n) (hr : h.next + 200000 < far) (hfl : h.floor ≤ h.next) {wv vv sv tv : Value} {S : MS} (hy : SteepR h wv vv sv S) (ho : oneCell tv = true) (hG : Good S) {L : List (Nat → Int)} (hL : L ≠ []) (hlen : L.length ≤ 2000) (hin : ∀ t, t ∈ L → InU S t) (htr : TruthsR h S tv L) (hlong : Long tv) {v : Nat} (hv : v < S.nv) :
    ∃ r h', call n (.func (.func 89) #[] #[]) [.agg ⟨[.func (.func 76) #[] #[]]⟩, .agg ⟨wkL S wv vv sv tv⟩, .int .i64 (v : Int)] h = some (r, h') ∧ Ranges h' r (hoursN S v) (loB S v L (L.length - 1)) (hiB S v L (L.length - 1)) ∧ oneCell r = true ∧
      Sub All h h' ∧ h.next ≤ h'.next ∧ h'.next ≤ h.next + 100000 ∧ h'.floor = h.floor := by
  obtain ⟨n, rfl⟩ : ∃ p, n = p + 1 := ⟨n - 1, by omega⟩
  have hpos : 0 < L.length := List.length_pos_iff.2 hL
  obtain ⟨mh1, mh2, mh3⟩ := hoursN_ok hG hv
  refine call_any0 fok89 rfl rfl (by simp) ?_
  simp only [s89, W_seq, W_ops]
  refine ops_box (cs := [.func (.func 76) #[] #[]]) (by omega) rfl rfl fun g1 hx1 => ?_
  have n1 := hx1.next
  have f1 := hx1.floor
  refine ops_box (cs := wkL S wv vv sv tv) (by omega) rfl (wk_one hy ho) fun g2 hx2 => ?_
  have n2 := hx2.next
  have f2 := hx2.floor
  have sub2 : Sub All h g2 := hx1.sub.trans hx2.sub
  have old2 : ∀ i, i < h.next → g2.get i = h.get i := fun i hi => by rw [hx2.old i (by omega), hx1.old i hi]
  have r1 := hx1.row.mono hx2.sub
  have r2 := hx2.row
  have hy2 := hy.mono sub2
  have ht2 : TruthsR g2 S tv L := Cells.mono htr sub2
  have hH := fun (u : Nat → Int) (hu : InU S u) (g : AHeap) (hg : g.next + 200 < far) (hfg : g.floor ≤ g.next) (hyg : SteepR g wv vv sv S) => hourly_c (n := n) (h := g) (by omega) hg hfg hyg (tv := tv) ho hG (u := u) hv (G := 76) (val := fun hh => blueS S u v hh) fun gg hsub hgg hh hho => blueOut_c (by omega) (by omega) (hyg.mono hsub) ho hG hu hho
  have hat : ∀ i, i < L.length → InU S (L.getD i fun _ => 0) := fun i hi => hin _ (getD_mem hi)
  obtain ⟨g3, b3, e3, i3, lb3, ub3, o3, u3, m3, f3⟩ := hH _ (hat 0 hpos) g2 (by omega) (by omega) hy2
  have sub3 : Sub All g2 g3 := AHeap.subOf o3
  simp only [rn0, rn1, rn2, rn3, rn4, rn5, rn6, rn7, rn8, if_true, if_false, Nat.le_refl, true_and, and_true, decide_true, decide_false, Bool.not_true, Bool.not_false, reduceIte, Nat.reduceEqDiff, Nat.reduceAdd, Nat.reduceMul, Nat.reduceSub, Nat.reduceLeDiff, Nat.reduceLT]
  refine W_draw All ?_
  have i0 : indexSl 11 tv (.int .i64 0) = some (ptrO tv 11 0 0) := Cells.idx ht2 hpos
  simp only [rn0, rn1, rn2, rn3, rn4, rn5, rn6, rn7, rn8, if_true, if_false, Nat.le_refl, true_and, and_true, decide_true, decide_false, Bool.not_true, Bool.not_false, reduceIte, Nat.reduceEqDiff, Nat.reduceAdd, Nat.reduceMul, Nat.reduceSub, Nat.reduceLeDiff, Nat.reduceLT, r1.whole (n := 1) rfl, r2.whole (n := 8) rfl, r2.ld, wkg, Nat.zero_add, i0, truths_ld ht2 hpos, e3, len_slice]
  refine ⟨by omega, ?_⟩
  have f0 := fun (q : Nat) => loB S v L 0 q
  refine W_loop (hoursN S v) (fun k f g ms => (∃ w, (∀ i, i < g3.next → g.get i = g3.get i) ∧ g.floor = h.floor ∧ g3.next ≤ g.next ∧ g.next ≤ g3.next + 2 * k ∧ GrowC g3.next g w 2 k (fun k j => .int .i64 (if j = 0 then loB S v L 0 k else hiB S v L 0 k)) ∧ f 7 = w) ∧ ms = [] ∧ f 2 = .int .i64 (v : Int) ∧ f 3 = .pointer (some ⟨h.next, 0, none⟩) ∧ f 4 = .pointer (some ⟨g1.next, 0, none⟩) ∧ f 21 = .slice (some ⟨b3, 0, none⟩) (hoursN S v) (hoursN S v) ∧ f 22 = .int .i64 (hoursN S v : Int) ∧ f 23 = .int .i64 (k : Int)) (by simp; omega) ?_ ?_ ?_
  · simp only [rn0, rn1, rn2, rn3, rn4, rn5, rn6, rn7, rn8, if_true, if_false, Nat.le_refl, true_and, and_true, decide_true, decide_false, Bool.not_true, Bool.not_false, reduceIte, Nat.reduceEqDiff, Nat.reduceAdd, Nat.reduceMul, Nat.reduceSub, Nat.reduceLeDiff, Nat.reduceLT]
    exact ⟨⟨_, fun i _ => trivial, by omega, by omega, .nil, rfl⟩, rfl⟩
  · rintro k f g ms hk ⟨⟨w, hs, hfg, hup, hnx, gw, p7⟩, rfl, p2, p3, p4, p21, p22, p23⟩
    have hk' : (k : Int) < (hoursN S v : Int) := by omega
    have hw : wrapF .i64 ((k : Int) + 1) = ((k + 1 : Nat) : Int) := by rw [wrap_in (by omega) (by omega)]; rfl
    have i3g := Cells.mono i3 (AHeap.subOf hs)
    simp only [rn0, rn1, rn2, rn3, rn4, rn5, rn6, rn7, rn8, if_true, if_false, Nat.le_refl, true_and, and_true, decide_true, decide_false, Bool.not_true, Bool.not_false, reduceIte, Nat.reduceEqDiff, Nat.reduceAdd, Nat.reduceMul, Nat.reduceSub, Nat.reduceLeDiff, Nat.reduceLT, p2, p3, p4, p7, p21, p22, p23, hk', Cells.idx i3g hk, Cells.ld i3g hk Nat.zero_lt_one, build_range, sl_pair]
    refine step_slice (by omega) rfl fun g4 hx4 => ?_
    have n4 := hx4.next
    have f4 := hx4.floor
    obtain ⟨g5, e5, gw5, n5, f5, o5, u5⟩ := grow_push3 (bytes := 16) gw (by omega) (by omega) (by omega) hx4 rfl rfl (fun j hj => by
      rcases j with _ | _ | j
      · rfl
      · rfl
      · omega) (by simp [maxBytes]; omega) (by simp [maxBytes]; omega)
    simp only [rn0, rn1, rn2, rn3, rn4, rn5, rn6, rn7, rn8, if_true, if_false, Nat.le_refl, true_and, and_true, decide_true, decide_false, Bool.not_true, Bool.not_false, reduceIte, Nat.reduceEqDiff, Nat.reduceAdd, Nat.reduceMul, Nat.reduceSub, Nat.reduceLeDiff, Nat.reduceLT, p2, p3, p4, p7, p21, p22, p23, e5, hw]
    have hfin := And.intro (fun i (hi : i < g3.next) => (by rw [o5 i (by omega) (neB_of gw (by left; exact hi)), hs i hi] : g5.get i = g3.get i)) (And.intro (by omega : g5.floor = h.floor) (And.intro (by omega : g3.next ≤ g5.next) (And.intro (by omega : g5.next ≤ g3.next + 2 * (k + 1)) (And.intro gw5 (rfl : (Value.slice (some ⟨g.next + 1, 0, none⟩) (k + 1) unk) = .slice (some ⟨g.next + 1, 0, none⟩) (k + 1) unk)))))
    first | exact ⟨⟨_, hfin⟩, rfl⟩ | exact ⟨_, hfin⟩
  rintro f g ms ⟨⟨w, hs, hfg, hup, hnx, gw, p7⟩, rfl, p2, p3, p4, p21, p22, p23⟩
  obtain ⟨bw, hbw, hrow, ewb⟩ : ∃ b, g3.next ≤ b ∧ g.get b = some (.row (rngL (hoursN S v) (loB S v L 0) (hiB S v L 0)) true 2) ∧ w = .slice (some ⟨b, 0, none⟩) (hoursN S v) unk := by
    obtain ⟨cs, q1, _, q3⟩ := gw
    rcases q1 with ⟨_, q, _⟩ | ⟨b, e, q4, q5, q6⟩
    · omega
    · exact ⟨b, q6, by rw [q4, cs_flat (by omega) q5 q3]; rfl, e⟩
  subst ewb
  have hblt := AHeap.lt_of_get hrow
  have sub3g : Sub All g3 g := AHeap.subOf hs
  have sub2g : Sub All g2 g := sub3.trans sub3g
  have r1g := r1.mono sub2g
  have r2g := r2.mono sub2g
  have htg : TruthsR g S tv L := Cells.mono ht2 sub2g
  obtain ⟨tl, g6, et, _, s6, u6, b6, f6, o6, htl⟩ := tail_c htg hpos hlong (by omega)
  have ht6 := htl g6 (Cells.mono htg s6)
  simp only [rn0, rn1, rn2, rn3, rn4, rn5, rn6, rn7, rn8, if_true, if_false, Nat.le_refl, true_and, and_true, decide_true, decide_false, Bool.not_true, Bool.not_false, reduceIte, Nat.reduceEqDiff, Nat.reduceAdd, Nat.reduceMul, Nat.reduceSub, Nat.reduceLeDiff, Nat.reduceLT, p2, p3, p4, p7, p21, p22, p23, Int.lt_irrefl, r2g.ld, wkg, Nat.zero_add, Option.isSome_none, Option.map_some, Option.map_none, et, Cells.len ht6]
  have hrow6 : g6.get bw = some (.row (rngL (hoursN S v) (loB S v L 0) (hiB S v L 0)) true 2) := s6 _ _ _ _ trivial hrow
  refine W_loop (L.length - 1) (fun i f g' ms => (Keep bw g6 g' ∧ g'.get bw = some (.row (rngL (hoursN S v) (loB S v L i) (hiB S v L i)) true 2) ∧ g'.next ≤ g6.next + 40 * i) ∧ ms = [] ∧ f 2 = .int .i64 (v : Int) ∧ f 3 = .pointer (some ⟨h.next, 0, none⟩) ∧ f 4 = .pointer (some ⟨g1.next, 0, none⟩) ∧ f 7 = .slice (some ⟨bw, 0, none⟩) (hoursN S v) unk ∧ f 36 = tl ∧ f 37 = .int .i64 ((L.length - 1 : Nat) : Int) ∧ f 38 = .int .i64 (i : Int)) (by simp; omega) ?_ ?_ ?_
  · simp only [rn0, rn1, rn2, rn3, rn4, rn5, rn6, rn7, rn8, if_true, if_false, Nat.le_refl, true_and, and_true, decide_true, decide_false, Bool.not_true, Bool.not_false, reduceIte, Nat.reduceEqDiff, Nat.reduceAdd, Nat.reduceMul, Nat.reduceSub, Nat.reduceLeDiff, Nat.reduceLT, p2, p3, p4, p7]
    exact ⟨⟨Keep.refl, hrow6, by omega⟩, rfl⟩
  · rintro i f g' ms hi ⟨⟨kin, gi, gin⟩, rfl, p2, p3, p4, p7, p36, p37, p38⟩
    have hi' : (i : Int) < ((L.length - 1 : Nat) : Int) := by omega
    have hwi : wrapF .i64 ((i : Int) + 1) = ((i + 1 : Nat) : Int) := by rw [wrap_in (by omega) (by omega)]; rfl
    have kup := kin.up
    have kfl := kin.floor
    have sg' : Sub All g2 g' := fun j cs w gr t hg => by
      have hlt := AHeap.lt_of_get hg
      exact kin.sub _ _ _ _ (by omega) (s6 _ _ _ _ trivial (sub2g _ _ _ _ trivial hg))
    have ht' := htl g' (Cells.mono ht2 sg')
    have hld : loadAgg 11 g' (ptrO tl 11 i 0) = some (.agg ⟨tarr S (L.getD (i + 1) fun _ => 0)⟩) := by
      rw [Cells.ldN ht' hi (by omega) (by omega)]; simp [tarr, List.range_succ]
    have r1' := r1.mono sg'
    have r2' := r2.mono sg'
    have hy' := hy2.mono sg'
    simp only [rn0, rn1, rn2, rn3, rn4, rn5, rn6, rn7, rn8, if_true, if_false, Nat.le_refl, true_and, and_true, decide_true, decide_false, Bool.not_true, Bool.not_false, reduceIte, Nat.reduceEqDiff, Nat.reduceAdd, Nat.reduceMul, Nat.reduceSub, Nat.reduceLeDiff, Nat.reduceLT, p2, p3, p4, p7, p36, p37, p38, hi', Cells.idx ht' hi, hld]
    refine step_new (vs := tarr S (L.getD (i + 1) fun _ => 0)) (by omega) (by omega) rfl (by simp only [rn0, rn1, rn2, rn3, rn4, rn5, rn6, rn7, rn8, if_true, if_false, Nat.le_refl, true_and, and_true, decide_true, decide_false, Bool.not_true, Bool.not_false, reduceIte, Nat.reduceEqDiff, Nat.reduceAdd, Nat.reduceMul, Nat.reduceSub, Nat.reduceLeDiff, Nat.reduceLT]; rfl) tarr_one tarr_len rfl fun g7 hx7 => ?_
    have n7 := hx7.next
    have f7 := hx7.floor
    have r17 := r1'.mono hx7.sub
    have r27 := r2'.mono hx7.sub
    obtain ⟨g8, b8, e8, i8, lb8, ub8, o8, u8, m8, f8⟩ := hH _ (hat (i + 1) (by omega)) g7 (by omega) (by omega) (hy'.mono hx7.sub)
    have sub8 : Sub All g7 g8 := AHeap.subOf o8
    simp only [rn0, rn1, rn2, rn3, rn4, rn5, rn6, rn7, rn8, if_true, if_false, Nat.le_refl, true_and, and_true, decide_true, decide_false, Bool.not_true, Bool.not_false, reduceIte, Nat.reduceEqDiff, Nat.reduceAdd, Nat.reduceMul, Nat.reduceSub, Nat.reduceLeDiff, Nat.reduceLT, p2, p3, p4, p7, p36, p37, p38, r17.whole (n := 1) rfl, r27.whole (n := 8) rfl, hx7.row.whole tarr_len, e8, len_slice]
    have gi8 : g8.get bw = some (.row (rngL (hoursN S v) (loB S v L i) (hiB S v L i)) true 2) := by
      have := AHeap.lt_of_get gi
      rw [o8 _ (by omega), hx7.old _ this]; exact gi
    refine W_loop (hoursN S v) (fun j f g'' ms => (Keep bw g8 g'' ∧ g''.get bw = some (.row (rngL (hoursN S v) (fun q => if q < j then loB S v L (i + 1) q else loB S v L i q) (fun q => if q < j then hiB S v L (i + 1) q else hiB S v L i q)) true 2) ∧ g''.next ≤ g8.next + 2 * j) ∧ ms = [] ∧ f 2 = .int .i64 (v : Int) ∧ f 3 = .pointer (some ⟨h.next, 0, none⟩) ∧ f 4 = .pointer (some ⟨g1.next, 0, none⟩) ∧ f 7 = .slice (some ⟨bw, 0, none⟩) (hoursN S v) unk ∧ f 36 = tl ∧ f 37 = .int .i64 ((L.length - 1 : Nat) : Int) ∧ f 38 = .int .i64 (i : Int) ∧ f 46 = .slice (some ⟨b8, 0, none⟩) (hoursN S v) (hoursN S v) ∧ f 47 = .int .i64 (hoursN S v : Int) ∧ f 48 = .int .i64 (j : Int)) (by simp; omega) ?_ ?_ ?_
    · simp only [rn0, rn1, rn2, rn3, rn4, rn5, rn6, rn7, rn8, if_true, if_false, Nat.le_refl, true_and, and_true, decide_true, decide_false, Bool.not_true, Bool.not_false, reduceIte, Nat.reduceEqDiff, Nat.reduceAdd, Nat.reduceMul, Nat.reduceSub, Nat.reduceLeDiff, Nat.reduceLT, p2, p3, p4, p7, p36, p37, p38]
      have e0 : rngL (hoursN S v) (fun q => if q < 0 then loB S v L (i + 1) q else loB S v L i q) (fun q => if q < 0 then hiB S v L (i + 1) q else hiB S v L i q) = rngL (hoursN S v) (loB S v L i) (hiB S v L i) := rngL_congr fun k _ => ⟨if_neg (by omega), if_neg (by omega)⟩
      rw [e0]
      exact ⟨⟨Keep.refl, gi8, by omega⟩, rfl⟩
    · rintro j f g'' ms hj ⟨⟨kj, gj, gjn⟩, rfl, p2, p3, p4, p7, p36, p37, p38, p46, p47, p48⟩
      have hj' : (j : Int) < (hoursN S v : Int) := by omega
      have hwj : wrapF .i64 ((j : Int) + 1) = ((j + 1 : Nat) : Int) := by rw [wrap_in (by omega) (by omega)]; rfl
      have jup := kj.up
      have jfl := kj.floor
      have hb8 : b8 ≠ bw := by have := AHeap.lt_of_get gi; omega
      have i8' := i8.keep kj fun a k c e => by cases e; exact hb8
      have hrg := rngL_cells (cap := unk) gj
      have hlo : loadCell g'' (.pointer (some ⟨bw, j * 2, none⟩)) = some (.int .i64 (loB S v L i j)) := by
        have := Cells.ld hrg hj (by omega : 0 < 2)
        simpa [ptrO] using this
      have hhi : loadCell g'' (.pointer (some ⟨bw, j * 2 + 1, none⟩)) = some (.int .i64 (hiB S v L i j)) := by
        have := Cells.ld hrg hj (by omega : 1 < 2)
        simpa [ptrO] using this
      simp only [rn0, rn1, rn2, rn3, rn4, rn5, rn6, rn7, rn8, if_true, if_false, Nat.le_refl, true_and, and_true, decide_true, decide_false, Bool.not_true, Bool.not_false, reduceIte, Nat.reduceEqDiff, Nat.reduceAdd, Nat.reduceMul, Nat.reduceSub, Nat.reduceLeDiff, Nat.reduceLT, p2, p3, p4, p7, p36, p37, p38, p46, p47, p48, hj', Cells.idx i8' hj, Cells.ld i8' hj Nat.zero_lt_one]
      refine W_draw All ?_
      simp only [rn0, rn1, rn2, rn3, rn4, rn5, rn6, rn7, rn8, if_true, if_false, Nat.le_refl, true_and, and_true, decide_true, decide_false, Bool.not_true, Bool.not_false, reduceIte, Nat.reduceEqDiff, Nat.reduceAdd, Nat.reduceMul, Nat.reduceSub, Nat.reduceLeDiff, Nat.reduceLT, p2, p3, p4, p7, p36, p37, p38, p46, p47, p48, idxSl_s (s := 2) hj, Nat.add_zero, hlo, hhi, eqV_int, sl_int]
      refine up_slice (by omega) rfl (fun g9 hx => hx.sub) fun g9 hx9 => ?_
      have n9 := hx9.next
      have f9 := hx9.floor
      have em := min_one (n := n) (by omega) (x := loB S v L i j) hx9.get
      have hmin : min (loB S v L i j) (blueS S (L.getD (i + 1) fun _ => 0) v (S.vb v + (j : Int))) = loB S v L (i + 1) j := rfl
      have hmax : max (hiB S v L i j) (blueS S (L.getD (i + 1) fun _ => 0) v (S.vb v + (j : Int))) = hiB S v L (i + 1) j := rfl
      rw [hmin] at em
      simp only [rn0, rn1, rn2, rn3, rn4, rn5, rn6, rn7, rn8, if_true, if_false, Nat.le_refl, true_and, and_true, decide_true, decide_false, Bool.not_true, Bool.not_false, reduceIte, Nat.reduceEqDiff, Nat.reduceAdd, Nat.reduceMul, Nat.reduceSub, Nat.reduceLeDiff, Nat.reduceLT, p2, p3, p4, p7, p36, p37, p38, p46, p47, p48, em, idxSl_s (s := 2) hj, Nat.add_zero, hlo, hhi, eqV_int, p_max, r_max, valN_tmp, Nat.reduceLT, hmax, build_range]
      refine ⟨hx9.sub, ?_⟩
      refine up_store (b := bw) (off := j * 2) (vs := [.int .i64 (loB S v L (i + 1) j), .int .i64 (hiB S v L (i + 1) j)]) rfl (hx9.sub _ _ _ _ trivial gj) (by have := AHeap.lt_of_get gj; omega) (by omega) rfl rfl rfl (by rw [rngL, flatL_len]; omega) (fun _ _ => trivial) fun g10 hs10 => ?_
      have n10 := hs10.next
      have f10 := hs10.floor
      have h10 := hs10.get
      rw [rngL, flatR_splice hj] at h10
      have e10 : (flatL 2 (hoursN S v) fun k' q => Value.int .i64 (if q = 0 then (fun i_1 => if i_1 = j then loB S v L (i + 1) j else (fun q => if q < j then loB S v L (i + 1) q else loB S v L i q) i_1) k' else (fun i_1 => if i_1 = j then hiB S v L (i + 1) j else (fun q => if q < j then hiB S v L (i + 1) q else hiB S v L i q) i_1) k')) = rngL (hoursN S v) (fun q => if q < j + 1 then loB S v L (i + 1) q else loB S v L i q) (fun q => if q < j + 1 then hiB S v L (i + 1) q else hiB S v L i q) := rngL_congr fun k hk => by
        by_cases c : k = j
        · subst c
          simp
        · by_cases c' : k < j
          · have : k < j + 1 := by omega
            simp [c, c', this]
          · have : ¬ k < j + 1 := by omega
            simp [c, c', this]
      rw [e10] at h10
      simp only [rn0, rn1, rn2, rn3, rn4, rn5, rn6, rn7, rn8, if_true, if_false, Nat.le_refl, true_and, and_true, decide_true, decide_false, Bool.not_true, Bool.not_false, reduceIte, Nat.reduceEqDiff, Nat.reduceAdd, Nat.reduceMul, Nat.reduceSub, Nat.reduceLeDiff, Nat.reduceLT, p2, p3, p4, p7, p36, p37, p38, p46, p47, p48, hwj]
      exact ⟨(kj.trans hx9.keep).trans hs10.keep, h10, by omega⟩
    · rintro f g'' ms ⟨⟨kj, gj, gjn⟩, rfl, p2, p3, p4, p7, p36, p37, p38, p46, p47, p48⟩
      have jup := kj.up
      have jfl := kj.floor
      simp only [rn0, rn1, rn2, rn3, rn4, rn5, rn6, rn7, rn8, if_true, if_false, Nat.le_refl, true_and, and_true, decide_true, decide_false, Bool.not_true, Bool.not_false, reduceIte, Nat.reduceEqDiff, Nat.reduceAdd, Nat.reduceMul, Nat.reduceSub, Nat.reduceLeDiff, Nat.reduceLT, p2, p3, p4, p7, p36, p37, p38, p46, p47, p48, Int.lt_irrefl, hwi]
      have e1 : rngL (hoursN S v) (fun q => if q < hoursN S v then loB S v L (i + 1) q else loB S v L i q) (fun q => if q < hoursN S v then hiB S v L (i + 1) q else hiB S v L i q) = rngL (hoursN S v) (loB S v L (i + 1)) (hiB S v L (i + 1)) := rngL_congr fun k hk => ⟨if_pos hk, if_pos hk⟩
      rw [e1] at gj
      have k78 : Keep bw g' g8 := ⟨fun q cs w gr hq hg => by have := AHeap.lt_of_get hg; rw [o8 _ (by omega), hx7.old _ this]; exact hg, by omega, by omega⟩
      exact ⟨(kin.trans k78).trans kj, gj, by omega⟩
  · rintro f g' ms ⟨⟨kin, gi, gin⟩, rfl, p2, p3, p4, p7, p36, p37, p38⟩
    have kup := kin.up
    have kfl := kin.floor
    simp only [rn0, rn1, rn2, rn3, rn4, rn5, rn6, rn7, rn8, if_true, if_false, Nat.le_refl, true_and, and_true, decide_true, decide_false, Bool.not_true, Bool.not_false, reduceIte, Nat.reduceEqDiff, Nat.reduceAdd, Nat.reduceMul, Nat.reduceSub, Nat.reduceLeDiff, Nat.reduceLT, p2, p3, p4, p7, p36, p37, p38, Int.lt_irrefl]
    exact ⟨rngL_cells gi, rfl, fun q cs w gr t hg => by
      have hlt := AHeap.lt_of_get hg
      exact kin.sub _ _ _ _ (by omega) (s6 _ _ _ _ trivial (sub2g _ _ _ _ trivial (sub2 _ _ _ _ trivial hg))), by omega, by omega, by omega⟩
end Go.Vm.St

namespace Go.Vm.St
open Go.Proofs Go.Vm.Vat
set_option linter.unusedSimpArgs false
set_option linter.unusedVariables false
set_option maxRecDepth 10000
variable {n : Nat} {h : AHeap}
/-! ### The truths of the reference, as a list in memory -/
/-- a truth in a list v: its own lists are not v -/
structure TruIn (h : AHeap) (v r1 r2 : Value) (S : MS) (u : Nat → Int) : Prop where
  tru : TruR h r1 r2 S u
  b1 : ∀ x m c, r1 = .slice (some x) m c → x.block < h.next ∧ NeB v x.block
  b2 : ∀ x m c, r2 = .slice (some x) m c → x.block < h.next ∧ NeB v x.block
def trsC (S : MS) (l : List (Nat → Int)) (R1 R2 : Nat → Value) (k j : Nat) : Value := if j = 0 then R1 k else if j = 1 then .int .i64 ((l.getD k fun _ => 0) S.nw) else R2 k
structure TrsG (B : Nat) (h : AHeap) (v : Value) (S : MS) (l : List (Nat → Int)) (R1 R2 : Nat → Value) : Prop where
  g : GrowC B h v 3 l.length (trsC S l R1 R2)
  t : ∀ k, k < l.length → TruIn h v (R1 k) (R2 k) S (l.getD k fun _ => 0)
/-- the list, as it is read -/
def TruthsL (h : AHeap) (v : Value) (S : MS) (l : List (Nat → Int)) : Prop := ∃ R1 R2 : Nat → Value, Cells h v 3 l.length (trsC S l R1 R2) ∧ ∀ k, k < l.length → TruR h (R1 k) (R2 k) S (l.getD k fun _ => 0)
theorem TrsG.nil {B : Nat} {S : MS} : TrsG B h nilS S [] (fun _ => nilS) (fun _ => nilS) := ⟨.nil, fun k hk => absurd hk (Nat.not_lt_zero _)⟩
theorem TrsG.out {B : Nat} {v : Value} {S : MS} {l : List (Nat → Int)} {R1 R2 : Nat → Value} (ht : TrsG B h v S l R1 R2) : TruthsL h v S l := ⟨R1, R2, ht.g.cells, fun k hk => (ht.t k hk).tru⟩
theorem TruIn.old {g : AHeap} {v r1 r2 : Value} {S : MS} {u : Nat → Int} (ht : TruIn h v r1 r2 S u) (ho : ∀ i, i < h.next → NeB v i → g.get i = h.get i) (hn : h.next ≤ g.next) : TruIn g v r1 r2 S u :=
  ⟨⟨cells_at ht.tru.w fun a k c e hlt => ho _ hlt (ht.b1 a k c e).2, cells_at ht.tru.f fun a k c e hlt => ho _ hlt (ht.b2 a k c e).2⟩, fun x m c e => ⟨by have := (ht.b1 x m c e).1; omega, (ht.b1 x m c e).2⟩, fun x m c e => ⟨by have := (ht.b2 x m c e).1; omega, (ht.b2 x m c e).2⟩⟩
theorem TrsG.old {B : Nat} {g : AHeap} {v : Value} {S : MS} {l : List (Nat → Int)} {R1 R2 : Nat → Value} (ht : TrsG B h v S l R1 R2) (ho : ∀ i, i < h.next → g.get i = h.get i) (hn : h.next ≤ g.next) : TrsG B g v S l R1 R2 :=
  ⟨GrowC.at' ht.g fun a k c e => ho _ (ht.g.block e).2, fun k hk => (ht.t k hk).old (fun i hi _ => ho i hi) hn⟩
theorem TrsG.push {B : Nat} {g1 : AHeap} {v r1 r2 : Value} {S : MS} {l : List (Nat → Int)} {R1 R2 : Nat → Value} {u : Nat → Int} (ht : TrsG B h v S l R1 R2) (hB : h.floor ≤ B) (hf : h.next + 2 < far) (hBn : B ≤ h.next) (hx : New h g1 (trL r1 r2 (u S.nw)) 0) (hu : TruIn h v r1 r2 S u) (o1 : oneCell r1 = true) (o2 : oneCell r2 = true) (hl : l.length ≤ 5000) :
    ∃ v' g2, appendA 3 56 g1 v (.slice (some ⟨h.next, 0, none⟩) 1 1) = some (v', g2) ∧ TrsG B g2 v' S (l ++ [u]) (fun k => if k = l.length then r1 else R1 k) (fun k => if k = l.length then r2 else R2 k) ∧ oneCell v' = true ∧ g2.next = h.next + 2 ∧ g2.floor = h.floor ∧ (∀ i, i < h.next → NeB v i → g2.get i = h.get i) := by
  have hlen : (l ++ [u]).length = l.length + 1 := by simp
  have hg : GrowC B h v 3 l.length (trsC S (l ++ [u]) (fun k => if k = l.length then r1 else R1 k) (fun k => if k = l.length then r2 else R2 k)) := growC_congr ht.g fun k j hk hj => by
    have : ¬ k = l.length := by omega
    simp only [trsC, this, if_false]
    rw [List.getD_eq_getElem?_getD, List.getD_eq_getElem?_getD, List.getElem?_append_left hk]
  obtain ⟨g2, e, gv, n2, f2, o2', u2⟩ := grow_push3 (bytes := 56) hg hB hf hBn hx rfl (by simp [trL, allB, o1, o2, one_int]) (fun j hj => by
    have hlast : ((l ++ [u]).getD l.length fun _ => 0) = u := by rw [List.getD_eq_getElem?_getD, List.getElem?_append_right (Nat.le_refl _)]; simp
    simp only [trsC, if_true, hlast]
    rcases j with _ | _ | _ | j
    · rfl
    · rfl
    · rfl
    · omega) (by simp [maxBytes]; omega) (by simp [maxBytes]; omega)
  refine ⟨_, g2, e, ⟨by rw [hlen]; exact gv, fun k hk => ?_⟩, rfl, n2, f2, o2'⟩
  have fresh : ∀ i, i < h.next → NeB (.slice (some ⟨h.next + 1, 0, none⟩) (l.length + 1) unk) i := fun i hi b m c e => by cases e; show i ≠ h.next + 1; omega
  have re : ∀ {a b : Value} {w : Nat → Int}, TruIn h v a b S w → TruIn g2 (.slice (some ⟨h.next + 1, 0, none⟩) (l.length + 1) unk) a b S w := fun {a b w} hi => by
    have h1 := hi.old (g := g2) o2' (by omega)
    exact ⟨h1.tru, fun x m c e => ⟨(h1.b1 x m c e).1, fresh _ (hi.b1 x m c e).1⟩, fun x m c e => ⟨(h1.b2 x m c e).1, fresh _ (hi.b2 x m c e).1⟩⟩
  by_cases c : k = l.length
  · subst c
    have hlast : ((l ++ [u]).getD l.length fun _ => 0) = u := by rw [List.getD_eq_getElem?_getD, List.getElem?_append_right (Nat.le_refl _)]; simp
    simp only [if_true, hlast]
    exact re hu
  · have hk' : k < l.length := by omega
    simp only [c, if_false]
    rw [List.getD_eq_getElem?_getD, List.getElem?_append_left hk', ← List.getD_eq_getElem?_getD]
    exact re (ht.t k hk')
end Go.Vm.St

namespace Go.Vm.St
open Go.Proofs Go.Vm.Vat
set_option linter.unusedSimpArgs false
set_option linter.unusedVariables false
set_option maxRecDepth 10000
variable {n : Nat} {h : AHeap}
end Go.Vm.St

namespace Go.Vm.St
open Go.Proofs Go.Vm.Vat
set_option linter.unusedSimpArgs false
set_option linter.unusedVariables false
set_option maxRecDepth 10000
variable {n : Nat} {h : AHeap}
/-- what 'Out' answers -/
def OutR (h : AHeap) (S : MS) (at_ : Int) (v : Value) (h' : AHeap) : Prop := Sub All h h' ∧ h.next ≤ h'.next ∧ h'.next ≤ h.next + 700000 ∧ h'.floor = h.floor ∧
  ((faultS S ≠ 0 ∧ v = .tuple ⟨[nilS, .int .i64 (faultS S)]⟩) ∨ (faultS S = 0 ∧ ¬ InV S at_ ∧ v = .tuple ⟨[nilS, .int .i64 2]⟩) ∨ (faultS S = 0 ∧ InV S at_ ∧ truthsS S = [] ∧ v = .tuple ⟨[nilS, .int .i64 11]⟩) ∨
    (faultS S = 0 ∧ InV S at_ ∧ truthsS S ≠ [] ∧ ∃ r, v = .tuple ⟨[r, .int .i64 0]⟩ ∧ Ranges h' r (hoursN S at_.toNat) (loB S at_.toNat (truthsS S) ((truthsS S).length - 1)) (hiB S at_.toNat (truthsS S) ((truthsS S).length - 1))))
def s35 : SCode := (.seq (.ops [⟨(some 2), none, .box (T 0)⟩, ⟨(some 4), none, .mov (.const (.slice none 0 0))⟩, ⟨(some 5), none, .mov (.const (.int .i64 (0)))⟩]) (.seq (.ops [⟨(some 9), none, .loadN 7 (T 2)⟩, ⟨(some 10), none, .mov (T 1)⟩, ⟨(some 11), none, .call (.func 88) [(T 9), (T 10), (.const (.slice none 0 0))]⟩, ⟨(some 8), none, .mov (T 11)⟩, ⟨(some 12), none, .extract 0 (T 8)⟩, ⟨(some 13), none, .extract 1 (T 8)⟩, ⟨(some 6), none, .alloc [(.int .i64 (0)), (.int .i64 (0)), (.slice none 0 0), (.int .i64 (0)), (.int .i64 (0)), (.slice none 0 0), (.slice none 0 0), (.slice none 0 0)]⟩, ⟨none, none, .store 8 (T 6) (T 12)⟩, ⟨(some 7), none, .mov (T 13)⟩]) (.seq (.seq (.ops [⟨(some 14), none, .mov (T 7)⟩, ⟨(some 15), none, .int2 .neq (T 14) (.const (.int .i64 (0)))⟩]) (.cond (T 15) (.seq (.ops [⟨(some 16), none, .mov (T 7)⟩, ⟨(some 4), none, .mov (.const (.slice none 0 0))⟩, ⟨(some 5), none, .mov (T 16)⟩]) .ret) .skip)) (.seq (.ops [⟨(some 17), none, .build #[(0, 1)] [.nilFunc] [0] [(.func 76)]⟩, ⟨(some 18), none, .loadN 8 (T 6)⟩, ⟨(some 19), none, .mov (T 1)⟩, ⟨(some 20), none, .call (.func 89) [(T 17), (T 18), (T 19)]⟩, ⟨(some 4), none, .mov (T 20)⟩, ⟨(some 5), none, .mov (.const (.int .i64 (0)))⟩]) .ret))))
theorem fok35 : FnOk Try.prog 35 21 s35 [.tmp 4, .tmp 5] := ⟨Try.f35, _, Try.func35, rfl, Try.ntmps35, by kernel_rfl, by kernel_rfl⟩
set_option maxHeartbeats 1000000 in
theorem out_c (hn : 2400 ≤ n) (hr : h.next + 1000000 < far) (hfl : h.floor ≤ h.next) {wv vv sv : Value} {S : MS} (hy : SteepR h wv vv sv S) (hT : ThinS S) (at_ : Int) :
    ∃ v h', call n (.func (.func 35) #[] #[]) [.agg ⟨stL S wv vv sv⟩, .int .i64 at_] h = some (v, h') ∧ OutR h S at_ v h' := by
  obtain ⟨n, rfl⟩ : ∃ p, n = p + 1 := ⟨n - 1, by omega⟩
  refine call_any0 fok35 rfl rfl (by simp) ?_
  simp only [s35, W_seq, W_ops]
  refine ops_box (cs := stL S wv vv sv) (by omega) rfl hy.one fun g1 hx1 => ?_
  have n1 := hx1.next
  have f1 := hx1.floor
  have w1 := hx1.row.whole (n := 7) rfl
  obtain ⟨pv, g2, eo, o2, u2, m2, f2, hp⟩ := openVat_c (n := n) (h := g1) (by omega) (by omega) (by omega) (hy.mono hx1.sub) hT at_
  have sub2 : Sub All h g2 := hx1.sub.trans (AHeap.subOf o2)
  rcases hp with ⟨hf, rfl⟩ | ⟨hf, hv, rfl⟩ | ⟨hf, hv, hz, rfl⟩ | ⟨hf, hv, hz, tv, rfl, hone, htr, hlong⟩
  · simp only [rn0, rn1, rn2, rn3, rn4, rn5, rn6, rn7, rn8, if_true, if_false, Nat.le_refl, true_and, and_true, decide_true, decide_false, Bool.not_true, Bool.not_false, reduceIte, Nat.reduceEqDiff, Nat.reduceAdd, Nat.reduceMul, Nat.reduceSub, Nat.reduceLeDiff, Nat.reduceLT, w1, eo, ex0, ex1]
    refine step_new (vs := wk0) (by omega) (by omega) rfl (by simp only [rn0, rn1, rn2, rn3, rn4, rn5, rn6, rn7, rn8, if_true, if_false, Nat.le_refl, true_and, and_true, decide_true, decide_false, Bool.not_true, Bool.not_false, reduceIte, Nat.reduceEqDiff, Nat.reduceAdd, Nat.reduceMul, Nat.reduceSub, Nat.reduceLeDiff, Nat.reduceLT]; rfl) rfl rfl rfl fun g3 hx3 => ?_
    have n3 := hx3.next
    have f3 := hx3.floor
    simp only [rn0, rn1, rn2, rn3, rn4, rn5, rn6, rn7, rn8, if_true, if_false, Nat.le_refl, true_and, and_true, decide_true, decide_false, Bool.not_true, Bool.not_false, reduceIte, Nat.reduceEqDiff, Nat.reduceAdd, Nat.reduceMul, Nat.reduceSub, Nat.reduceLeDiff, Nat.reduceLT, hf, ret_tt]
    exact ⟨sub2.trans hx3.sub, by omega, by omega, by omega, .inl ⟨hf, rfl⟩⟩
  · simp only [rn0, rn1, rn2, rn3, rn4, rn5, rn6, rn7, rn8, if_true, if_false, Nat.le_refl, true_and, and_true, decide_true, decide_false, Bool.not_true, Bool.not_false, reduceIte, Nat.reduceEqDiff, Nat.reduceAdd, Nat.reduceMul, Nat.reduceSub, Nat.reduceLeDiff, Nat.reduceLT, w1, eo, ex0, ex1]
    refine step_new (vs := wk0) (by omega) (by omega) rfl (by simp only [rn0, rn1, rn2, rn3, rn4, rn5, rn6, rn7, rn8, if_true, if_false, Nat.le_refl, true_and, and_true, decide_true, decide_false, Bool.not_true, Bool.not_false, reduceIte, Nat.reduceEqDiff, Nat.reduceAdd, Nat.reduceMul, Nat.reduceSub, Nat.reduceLeDiff, Nat.reduceLT]; rfl) rfl rfl rfl fun g3 hx3 => ?_
    have n3 := hx3.next
    have f3 := hx3.floor
    have z20 : ¬ (2 : Int) = 0 := by decide
    simp only [rn0, rn1, rn2, rn3, rn4, rn5, rn6, rn7, rn8, if_true, if_false, Nat.le_refl, true_and, and_true, decide_true, decide_false, Bool.not_true, Bool.not_false, reduceIte, Nat.reduceEqDiff, Nat.reduceAdd, Nat.reduceMul, Nat.reduceSub, Nat.reduceLeDiff, Nat.reduceLT, z20, ret_tt]
    exact ⟨sub2.trans hx3.sub, by omega, by omega, by omega, .inr (.inl ⟨hf, hv, rfl⟩)⟩
  · simp only [rn0, rn1, rn2, rn3, rn4, rn5, rn6, rn7, rn8, if_true, if_false, Nat.le_refl, true_and, and_true, decide_true, decide_false, Bool.not_true, Bool.not_false, reduceIte, Nat.reduceEqDiff, Nat.reduceAdd, Nat.reduceMul, Nat.reduceSub, Nat.reduceLeDiff, Nat.reduceLT, w1, eo, ex0, ex1]
    refine step_new (vs := wk0) (by omega) (by omega) rfl (by simp only [rn0, rn1, rn2, rn3, rn4, rn5, rn6, rn7, rn8, if_true, if_false, Nat.le_refl, true_and, and_true, decide_true, decide_false, Bool.not_true, Bool.not_false, reduceIte, Nat.reduceEqDiff, Nat.reduceAdd, Nat.reduceMul, Nat.reduceSub, Nat.reduceLeDiff, Nat.reduceLT]; rfl) rfl rfl rfl fun g3 hx3 => ?_
    have n3 := hx3.next
    have f3 := hx3.floor
    have z110 : ¬ (11 : Int) = 0 := by decide
    simp only [rn0, rn1, rn2, rn3, rn4, rn5, rn6, rn7, rn8, if_true, if_false, Nat.le_refl, true_and, and_true, decide_true, decide_false, Bool.not_true, Bool.not_false, reduceIte, Nat.reduceEqDiff, Nat.reduceAdd, Nat.reduceMul, Nat.reduceSub, Nat.reduceLeDiff, Nat.reduceLT, z110, ret_tt]
    exact ⟨sub2.trans hx3.sub, by omega, by omega, by omega, .inr (.inr (.inl ⟨hf, hv, hz, rfl⟩))⟩
  · have hG := good_of hf
    have how := wk_one hy (tv := tv) hone
    simp only [rn0, rn1, rn2, rn3, rn4, rn5, rn6, rn7, rn8, if_true, if_false, Nat.le_refl, true_and, and_true, decide_true, decide_false, Bool.not_true, Bool.not_false, reduceIte, Nat.reduceEqDiff, Nat.reduceAdd, Nat.reduceMul, Nat.reduceSub, Nat.reduceLeDiff, Nat.reduceLT, w1, eo, ex0, ex1]
    refine step_new (vs := wkL S wv vv sv tv) (by omega) (by omega) rfl (by simp only [rn0, rn1, rn2, rn3, rn4, rn5, rn6, rn7, rn8, if_true, if_false, Nat.le_refl, true_and, and_true, decide_true, decide_false, Bool.not_true, Bool.not_false, reduceIte, Nat.reduceEqDiff, Nat.reduceAdd, Nat.reduceMul, Nat.reduceSub, Nat.reduceLeDiff, Nat.reduceLT]; rfl) how rfl rfl fun g3 hx3 => ?_
    have n3 := hx3.next
    have f3 := hx3.floor
    have sub3 := sub2.trans hx3.sub
    obtain ⟨va, hva⟩ : ∃ va : Nat, at_ = (va : Int) := ⟨at_.toNat, by unfold InV at hv; omega⟩
    subst hva
    have hvn : va < S.nv := by unfold InV at hv; omega
    obtain ⟨r, g4, eb, hr4, hone4, sub4, u4, m4, f4⟩ := bounds_c (n := n) (h := g3) (by omega) (by omega) (by omega) (hy.mono sub3) (tv := tv) hone hG hz (truths_len hG) (fun t ht => (truths_mem.1 ht).1.1) (Cells.mono htr hx3.sub) hlong hvn
    simp only [rn0, rn1, rn2, rn3, rn4, rn5, rn6, rn7, rn8, if_true, if_false, Nat.le_refl, true_and, and_true, decide_true, decide_false, Bool.not_true, Bool.not_false, reduceIte, Nat.reduceEqDiff, Nat.reduceAdd, Nat.reduceMul, Nat.reduceSub, Nat.reduceLeDiff, Nat.reduceLT, build_meas, hx3.row.whole (n := 8) rfl, eb, ret_tt]
    exact ⟨sub3.trans sub4, by omega, by omega, by omega, .inr (.inr (.inr ⟨hf, hv, hz, r, rfl, hr4⟩))⟩
end Go.Vm.St

namespace Go.Vm.St
open Go.Proofs Go.Vm.Vat
set_option linter.unusedSimpArgs false
set_option linter.unusedVariables false
set_option maxRecDepth 10000
variable {n : Nat} {h : AHeap}
/-- the verdict on a smell: 1 always, 2 never, 3 neither -/
noncomputable def verdS (S : MS) (v : Nat) (hh kk : Int) (L : List (Nat → Int)) : Int := open Classical in if ∀ t, t ∈ L → kindS S t v hh ≠ kk then 2 else if ∀ t, t ∈ L → kindS S t v hh = kk then 1 else 3
theorem sumK_at {S : MS} {v : Nat} {L : List (Nat → Int)} {hh kk : Int} (hG : Good S) (ho : HourOk S v hh) : ∀ k, (sumK S v L ((v : Int), hh, kk) k = 0 ↔ ∀ i, i < k → kindS S (L.getD i fun _ => 0) v hh ≠ kk) ∧ (sumK S v L ((v : Int), hh, kk) k = k ↔ ∀ i, i < k → kindS S (L.getD i fun _ => 0) v hh = kk)
  | 0 => by simp [sumK]
  | k + 1 => by
    obtain ⟨h1, h2⟩ := sumK_at hG ho (L := L) (kk := kk) k
    obtain ⟨b1, b2⟩ := sumK_bound (S := S) (v := v) (L := L) (p := ((v : Int), hh, kk)) k
    obtain ⟨m1, _⟩ := hoursN_ok hG ho.isV
    have hlo := ho.isLo
    have hhi := ho.isHi
    have e : oneK S v (L.getD k fun _ => 0) (hoursN S v) ((v : Int), hh, kk) = if kk = kindS S (L.getD k fun _ => 0) v hh then 1 else 0 := by
      unfold oneK
      by_cases c : kk = kindS S (L.getD k fun _ => 0) v hh
      · rw [if_pos ⟨rfl, hlo, by show hh < _; omega, c⟩, if_pos c]
      · rw [if_neg fun q => c q.2.2.2, if_neg c]
    simp only [sumK]
    rw [e]
    by_cases c : kk = kindS S (L.getD k fun _ => 0) v hh
    · rw [if_pos c]
      constructor
      · constructor
        · intro q; omega
        · intro q; exact absurd c.symm (q k (by omega))
      · constructor
        · intro q i hi
          have q' : sumK S v L ((v : Int), hh, kk) k = k := by omega
          by_cases e : i = k
          · rw [e]; exact c.symm
          · exact h2.1 q' i (by omega)
        · intro q
          have := h2.2 fun i hi => q i (by omega)
          omega
    · rw [if_neg c]
      constructor
      · constructor
        · intro q i hi
          have q' : sumK S v L ((v : Int), hh, kk) k = 0 := by omega
          by_cases e : i = k
          · rw [e]; exact fun q => c q.symm
          · exact h1.1 q' i (by omega)
        · intro q
          have := h1.2 fun i hi => q i (by omega)
          omega
      · constructor
        · intro q; omega
        · intro q; exact absurd (q k (by omega)).symm c
theorem all_at {L : List (Nat → Int)} {p : (Nat → Int) → Prop} : (∀ i, i < L.length → p (L.getD i fun _ => 0)) ↔ ∀ t, t ∈ L → p t := by
  constructor
  · intro hp t ht
    obtain ⟨i, hi, e⟩ := mem_getD ht
    rw [← e]
    exact hp i hi
  · intro hp i hi
    exact hp _ (getD_mem hi)
theorem cntK_all {S : MS} {v : Nat} {L : List (Nat → Int)} {p : Int × Int × Int} : cntK S v L L.length 0 p = sumK S v L p L.length := by
  simp only [cntK, oneK]
  rw [if_neg (by omega)]
  omega
open Classical in
theorem verd_cnt {S : MS} {v : Nat} {L : List (Nat → Int)} {hh kk : Int} (hG : Good S) (ho : HourOk S v hh) : (if cntK S v L L.length 0 ((v : Int), hh, kk) = 0 then (2 : Int) else if cntK S v L L.length 0 ((v : Int), hh, kk) = L.length then 1 else 3) = verdS S v hh kk L := by
  obtain ⟨h1, h2⟩ := sumK_at hG ho (L := L) (kk := kk) L.length
  rw [cntK_all]
  unfold verdS
  rw [all_at (p := fun t => kindS S t v hh ≠ kk)] at h1
  rw [all_at (p := fun t => kindS S t v hh = kk)] at h2
  simp only [h1, h2]
def s90 : SCode := (.seq (.ops [⟨(some 4), none, .box (T 0)⟩, ⟨(some 8), none, .mov (.const (.int .i64 (0)))⟩]) (.seq (.seq (.ops [⟨(some 9), none, .mov (T 1)⟩, ⟨(some 10), none, .mov (T 2)⟩, ⟨(some 11), none, .mov (T 3)⟩, ⟨(some 12), none, .build #[(0, 1), (1, 1), (2, 1)] [(.int .i64 (0)), (.int .i64 (0)), (.int .i64 (0))] [0, 1, 2] [(T 10), (T 11), (.const (.int .i64 (1)))]⟩, ⟨(some 13), none, .lookup 89 (.int .i64 (0)) false (T 9) (T 12)⟩]) (.block 0 (.seq (.ops [⟨(some 15), none, .int2 .eql (T 13) (.const (.int .i64 (0)))⟩, ⟨(some 14), none, .mov (T 15)⟩]) (.cond (T 14) (.seq (.ops [⟨(some 8), none, .mov (.const (.int .i64 (2)))⟩]) .ret) (.seq (.ops [⟨(some 17), none, .fieldAddr 7 (T 4)⟩, ⟨(some 18), none, .load1 (T 17)⟩, ⟨(some 19), none, .len (T 18)⟩, ⟨(some 20), none, .int2 .eql (T 13) (T 19)⟩, ⟨(some 16), none, .mov (T 20)⟩]) (.cond (T 16) (.seq (.ops [⟨(some 8), none, .mov (.const (.int .i64 (1)))⟩]) .ret) .skip)))))) (.seq (.ops [⟨(some 8), none, .mov (.const (.int .i64 (3)))⟩]) .ret)))
theorem fok90 : FnOk Try.prog 90 21 s90 [.tmp 8] := ⟨Try.f90, _, Try.func90, rfl, Try.ntmps90, by kernel_rfl, by kernel_rfl⟩
theorem verdict_c (hn : 5 ≤ n) (hr : h.next + 5 < far) {wv vv sv tv : Value} {S : MS} (hy : SteepR h wv vv sv S) (ho1 : oneCell tv = true) (hG : Good S) {L : List (Nat → Int)} (htr : TruthsR h S tv L) {r v : Nat} {hh : Int} (hm : MapF h r key3 (cntK S v L L.length 0)) (ho : HourOk S v hh) :
    call n (.func (.func 90) #[] #[]) [.agg ⟨wkL S wv vv sv tv⟩, .map (some r), .int .i64 (v : Int), .int .i64 hh] h = some (.int .i64 (verdS S v hh 1 L), h) := by
  obtain ⟨n, rfl⟩ : ∃ p, n = p + 1 := ⟨n - 1, by omega⟩
  refine call_plain0 fok90 rfl rfl (by simp) rfl ?_
  have hy := hy.shut
  have htr : TruthsR h.shutAll S tv L := Cells.shut htr
  have hm := hm.shut
  have hr : h.shutAll.next + 5 < far := hr
  generalize h.shutAll = h at hy htr hm hr
  simp only [s90, W_seq, W_ops]
  refine ops_box (cs := wkL S wv vv sv tv) (by omega) rfl (wk_one hy ho1) fun g1 hx1 => ?_
  have n1 := hx1.next
  have htr1 : TruthsR g1 S tv L := Cells.mono htr hx1.sub
  have hm1 : MapF g1 r key3 (cntK S v L L.length 0) := hm.keep (hx1.old _ hm.lt)
  have el := lookupF key89 hm1 ((v : Int), hh, 1)
  have el : lookupA Try.prog 89 (.int .i64 0) false g1 (.map (some r)) (.agg ⟨[.int .i64 (v : Int), .int .i64 hh, .int .i64 1]⟩) = some (.int .i64 (cntK S v L L.length 0 ((v : Int), hh, 1)), g1) := el
  have hv := verd_cnt (L := L) (kk := 1) hG ho
  by_cases c1 : cntK S v L L.length 0 ((v : Int), hh, 1) = 0
  · rw [if_pos c1] at hv
    simp only [rn0, rn1, rn2, rn3, rn4, rn5, rn6, rn7, rn8, if_true, if_false, Nat.le_refl, true_and, and_true, decide_true, decide_false, Bool.not_true, Bool.not_false, reduceIte, Nat.reduceEqDiff, Nat.reduceAdd, Nat.reduceMul, Nat.reduceSub, Nat.reduceLeDiff, Nat.reduceLT, build_sm, x_lookup, el, c1, ← hv]
  · rw [if_neg c1] at hv
    by_cases c2 : cntK S v L L.length 0 ((v : Int), hh, 1) = L.length
    · rw [if_pos c2] at hv
      have c1' : ¬ (L.length : Int) = 0 := by rw [← c2]; exact c1
      simp only [rn0, rn1, rn2, rn3, rn4, rn5, rn6, rn7, rn8, if_true, if_false, Nat.le_refl, true_and, and_true, decide_true, decide_false, Bool.not_true, Bool.not_false, reduceIte, Nat.reduceEqDiff, Nat.reduceAdd, Nat.reduceMul, Nat.reduceSub, Nat.reduceLeDiff, Nat.reduceLT, build_sm, x_lookup, el, c2, c1', hx1.row.ld, wkg, Nat.zero_add, Cells.len htr1, ← hv]
    · rw [if_neg c2] at hv
      simp only [rn0, rn1, rn2, rn3, rn4, rn5, rn6, rn7, rn8, if_true, if_false, Nat.le_refl, true_and, and_true, decide_true, decide_false, Bool.not_true, Bool.not_false, reduceIte, Nat.reduceEqDiff, Nat.reduceAdd, Nat.reduceMul, Nat.reduceSub, Nat.reduceLeDiff, Nat.reduceLT, build_sm, x_lookup, el, c1, hx1.row.ld, wkg, Nat.zero_add, Cells.len htr1, c2, ← hv]
end Go.Vm.St

namespace Go.Vm.St
open Go.Proofs Go.Vm.Vat
set_option linter.unusedSimpArgs false
set_option linter.unusedVariables false
set_option maxRecDepth 10000
variable {n : Nat} {h : AHeap}
end Go.Vm.St

namespace Go.Vm.St
open Go.Proofs Go.Vm.Vat
set_option linter.unusedSimpArgs false
set_option linter.unusedVariables false
set_option maxRecDepth 10000
variable {n : Nat} {h : AHeap}
end Go.Vm.St

namespace Go.Vm.St
open Go.Proofs Go.Vm.Vat
set_option linter.unusedSimpArgs false
set_option linter.unusedVariables false
set_option maxRecDepth 10000
variable {n : Nat} {h : AHeap}
/-! ### The good hours of a vat -/
/-- which hours, counted from Begin, are good -/
noncomputable def gI (S : MS) (v : Nat) (L : List (Nat → Int)) (k : Nat) : List Int := pickL (fun i => verdS S v (S.vb v + (i : Int)) 1 L = 1) k
def gLo (b : Int) (l : List Int) : Int := if l = [] then 0 else b + atL l 0
def gHi (b : Int) (l : List Int) : Int := if l = [] then 0 else b + atL l (l.length - 1)
theorem gLo_nil {b : Int} : gLo b [] = 0 := rfl
theorem gHi_nil {b : Int} : gHi b [] = 0 := rfl
theorem gLo_app {b x : Int} {l : List Int} (hl : l ≠ []) : gLo b (l ++ [x]) = gLo b l := by
  unfold gLo
  rw [if_neg hl, if_neg (by simp), at_append (List.length_pos_iff.2 hl)]
theorem gHi_app {b x : Int} {l : List Int} : gHi b (l ++ [x]) = b + x := by
  unfold gHi
  rw [if_neg (by simp), List.length_append, List.length_singleton, Nat.add_sub_cancel, at_last]
def s93 : SCode := (.seq (.ops [⟨(some 2), none, .box (T 0)⟩, ⟨(some 4), none, .alloc [(.int .i64 (0)), (.int .i64 (0))]⟩, ⟨(some 5), none, .mov (.const (.bool false))⟩]) (.seq (.ops [⟨(some 9), none, .loadN 8 (T 2)⟩, ⟨(some 10), none, .mov (T 1)⟩, ⟨(some 11), none, .call (.func 91) [(T 9), (T 10)]⟩, ⟨(some 6), none, .mov (T 11)⟩]) (.seq (.seq (.ops [⟨(some 12), none, .loadN 8 (T 2)⟩, ⟨(some 13), none, .mov (T 1)⟩, ⟨(some 14), none, .call (.func 107) [(T 12), (T 13)]⟩, ⟨(some 15), none, .mov (.const (.int .i64 (0)))⟩]) (.block 0 (.loop (.seq (.ops [⟨(some 16), none, .int2 .lss (T 15) (T 14)⟩]) (.seq (.cond (T 16) .skip (.exit 0)) (.seq (.block 1 (.seq (.ops [⟨(some 17), none, .mov (T 15)⟩, ⟨(some 7), none, .mov (T 17)⟩]) (.seq (.ops [⟨(some 18), none, .fieldAddr 0 (T 2)⟩, ⟨(some 19), none, .fieldAddr 5 (T 18)⟩, ⟨(some 20), none, .load1 (T 19)⟩, ⟨(some 21), none, .mov (T 1)⟩, ⟨(some 22), none, .idxSl 4 (T 20) (T 21)⟩, ⟨(some 23), none, .fieldAddr 0 (T 22)⟩, ⟨(some 24), none, .load1 (T 23)⟩, ⟨(some 25), none, .mov (T 7)⟩, ⟨(some 26), none, .int2 .add (T 24) (T 25)⟩, ⟨(some 8), none, .mov (T 26)⟩]) (.seq (.seq (.ops [⟨(some 27), none, .loadN 8 (T 2)⟩, ⟨(some 28), none, .mov (T 6)⟩, ⟨(some 29), none, .mov (T 1)⟩, ⟨(some 30), none, .mov (T 8)⟩, ⟨(some 31), none, .call (.func 90) [(T 27), (T 28), (T 29), (T 30)]⟩, ⟨(some 32), none, .int2 .neq (T 31) (.const (.int .i64 (1)))⟩]) (.cond (T 32) (.exit 1) .skip)) (.seq (.seq (.ops [⟨(some 33), none, .mov (T 5)⟩, ⟨(some 34), none, .not (T 33)⟩]) (.cond (T 34) (.ops [⟨(some 35), none, .mov (T 8)⟩, ⟨(some 36), none, .fieldAddr 0 (T 4)⟩, ⟨none, none, .store 1 (T 36) (T 35)⟩]) .skip)) (.ops [⟨(some 37), none, .mov (T 8)⟩, ⟨(some 38), none, .fieldAddr 1 (T 4)⟩, ⟨none, none, .store 1 (T 38) (T 37)⟩, ⟨(some 5), none, .mov (.const (.bool true))⟩])))))) (.ops [⟨(some 39), none, .int2 .add (T 15) (.const (.int .i64 (1)))⟩, ⟨(some 15), none, .mov (T 39)⟩]))))))) (.seq (.ops [⟨(some 40), none, .loadN 2 (T 4)⟩, ⟨(some 41), none, .mov (T 5)⟩, ⟨none, none, .store 2 (T 4) (T 40)⟩, ⟨(some 5), none, .mov (T 41)⟩]) .ret))))
theorem fok93 : FnOk Try.prog 93 42 s93 [.cellN 4 2, .tmp 5] := ⟨Try.f93, _, Try.func93, rfl, Try.ntmps93, by kernel_rfl, by kernel_rfl⟩
set_option maxHeartbeats 2000000 in
theorem goodHours_c (hn : 2320 ≤ n) (hr : h.next + 300000 < far) {wv vv sv tv : Value} {S : MS} (hy : SteepR h wv vv sv S) (ho1 : oneCell tv = true) (hG : Good S) {L : List (Nat → Int)} (hlen : L.length ≤ 2000) (hin : ∀ t, t ∈ L → InU S t) (htr : TruthsR h S tv L) {v : Nat} (hv : v < S.nv) :
    call n (.func (.func 93) #[] #[]) [.agg ⟨wkL S wv vv sv tv⟩, .int .i64 (v : Int)] h = some (.tuple ⟨[.agg ⟨[.int .i64 (gLo (S.vb v) (gI S v L (hoursN S v))), .int .i64 (gHi (S.vb v) (gI S v L (hoursN S v)))]⟩, .bool (decide (gI S v L (hoursN S v) ≠ []))]⟩, h) := by
  obtain ⟨n, rfl⟩ : ∃ p, n = p + 1 := ⟨n - 1, by omega⟩
  refine call_plain0 fok93 rfl rfl (by simp) rfl ?_
  have hy := hy.shut
  have htr : TruthsR h.shutAll S tv L := Cells.shut htr
  have hr : h.shutAll.next + 300000 < far := hr
  have hfl : h.shutAll.floor ≤ h.shutAll.next := Nat.le_refl _
  generalize h.shutAll = h at hy htr hr hfl
  obtain ⟨mh1, mh2, mh3⟩ := hoursN_ok hG hv
  obtain ⟨⟨vb1, vb2⟩, _⟩ := hG.args.vat v hv
  obtain ⟨zl0, zl5, _⟩ := hG.sizes
  simp only [s93, W_seq, W_ops]
  refine ops_box (cs := wkL S wv vv sv tv) (by omega) rfl (wk_one hy ho1) fun g1 hx1 => ?_
  have n1 := hx1.next
  have f1 := hx1.floor
  refine ops_alloc (cs := [.int .i64 0, .int .i64 0]) (by omega) rfl fun g2 hx2 => ?_
  have n2 := hx2.next
  have f2 := hx2.floor
  have s2 : Sub All h g2 := hx1.sub.trans hx2.sub
  have r2 := hx1.row.mono hx2.sub
  obtain ⟨r, g3, ek, hm3, hr3, sub3, u3, m3, f3⟩ := kindsOf_c (n := n) (h := g2) (by omega) (by omega) (by omega) (hy.mono s2) ho1 hG hlen hin (Cells.mono htr s2) hv
  have s3 := s2.trans sub3
  have eh := hoursOf_c (n := n) (h := g3) (by omega) (by omega) (hy.mono s3) ho1 hG hv
  rw [← mh1] at eh
  have r3 := r2.mono sub3
  have q3 : g3.get g1.next = some (.row [.int .i64 0, .int .i64 0] true 0) := sub3 _ _ _ _ trivial hx2.get
  simp only [rn0, rn1, rn2, rn3, rn4, rn5, rn6, rn7, rn8, if_true, if_false, Nat.le_refl, true_and, and_true, decide_true, decide_false, Bool.not_true, Bool.not_false, reduceIte, Nat.reduceEqDiff, Nat.reduceAdd, Nat.reduceMul, Nat.reduceSub, Nat.reduceLeDiff, Nat.reduceLT, r2.whole (n := 8) rfl, ek, r3.whole (n := 8) rfl, eh]
  refine W_loop (hoursN S v) (fun k f g ms => ((∀ i, i ≠ g1.next → g.get i = g3.get i) ∧ g.next = g3.next ∧ g.floor = g3.floor ∧ g.get g1.next = some (.row [.int .i64 (gLo (S.vb v) (gI S v L k)), .int .i64 (gHi (S.vb v) (gI S v L k))] true 0)) ∧ ms = [] ∧ f 1 = .int .i64 (v : Int) ∧ f 2 = .pointer (some ⟨h.next, 0, none⟩) ∧ f 4 = .pointer (some ⟨g1.next, 0, none⟩) ∧ f 5 = .bool (decide (gI S v L k ≠ [])) ∧ f 6 = .map (some r) ∧ f 14 = .int .i64 (hoursN S v : Int) ∧ f 15 = .int .i64 (k : Int)) (by simp; omega) ?_ ?_ ?_
  · have e0 : gI S v L 0 = [] := rfl
    have d0 : decide ((([] : List Int)) ≠ []) = false := rfl
    rw [e0]
    simp only [rn0, rn1, rn2, rn3, rn4, rn5, rn6, rn7, rn8, if_true, if_false, Nat.le_refl, true_and, and_true, decide_true, decide_false, Bool.not_true, Bool.not_false, reduceIte, Nat.reduceEqDiff, Nat.reduceAdd, Nat.reduceMul, Nat.reduceSub, Nat.reduceLeDiff, Nat.reduceLT, gLo_nil, gHi_nil, d0]
    first | exact ⟨⟨fun i _ => trivial, q3⟩, rfl⟩ | exact ⟨⟨fun i _ => rfl, rfl, rfl, q3⟩, rfl⟩ | exact ⟨⟨fun i _ => trivial, trivial, trivial, q3⟩, rfl⟩
  · rintro k f g ms hk ⟨⟨go, gn, gf, gr⟩, rfl, p1, p2, p4, p5, p6, p14, p15⟩
    have hk' : (k : Int) < (hoursN S v : Int) := by omega
    have hw : wrapF .i64 ((k : Int) + 1) = ((k + 1 : Nat) : Int) := by rw [wrap_in (by omega) (by omega)]; rfl
    have hwb : wrapF .i64 (S.vb v + (k : Int)) = S.vb v + (k : Int) := wrap_in (by omega) (by omega)
    have sg : Sub All h g := fun i cs w gr' t hg => by rw [go i (by have := AHeap.lt_of_get hg; omega)]; exact s3 _ _ _ _ t hg
    have hyg := hy.mono sg
    have htg : TruthsR g S tv L := Cells.mono htr sg
    have rg : Row g h.next (wkL S wv vv sv tv) := by
      obtain ⟨w, gr', e⟩ := r3
      exact ⟨w, gr', by rw [go _ (by omega)]; exact e⟩
    have mg : MapF g r key3 (cntK S v L L.length 0) := hm3.keep (go _ (by omega))
    have ev := verdict_c (n := n) (h := g) (by omega) (by omega) hyg ho1 hG htg mg (hour_at hG hv hk)
    by_cases c : verdS S v (S.vb v + (k : Int)) 1 L = 1
    · have eg : gI S v L (k + 1) = gI S v L k ++ [(k : Int)] := pick_yes c
      have hne : decide (gI S v L (k + 1) ≠ []) = true := decide_eq_true (by rw [eg]; simp)
      by_cases c0 : gI S v L k = []
      · have d0 : decide (gI S v L k ≠ []) = false := decide_eq_false (by simpa using c0)
        rw [d0] at p5
        have e1 : gLo (S.vb v) (gI S v L (k + 1)) = S.vb v + (k : Int) := by rw [eg, c0]; rfl
        have e2 : gHi (S.vb v) (gI S v L (k + 1)) = S.vb v + (k : Int) := by rw [eg, gHi_app]
        simp only [rn0, rn1, rn2, rn3, rn4, rn5, rn6, rn7, rn8, if_true, if_false, Nat.le_refl, true_and, and_true, decide_true, decide_false, Bool.not_true, Bool.not_false, reduceIte, Nat.reduceEqDiff, Nat.reduceAdd, Nat.reduceMul, Nat.reduceSub, Nat.reduceLeDiff, Nat.reduceLT, p1, p2, p4, p5, p6, p14, p15, hk', rg.whole (n := 8) rfl, rg.ld, wkg, Nat.zero_add, Nat.add_zero, Cells.idx hyg.v hv, Cells.fld hyg.v hv, begin_ld hyg hv, hwb, ev, c]
        refine step_store (b := g1.next) (off := 0) (vs := [.int .i64 (S.vb v + (k : Int))]) rfl gr (by omega) (by omega) rfl rfl rfl (by simp) fun g4 hs4 => ?_
        have n4 := hs4.next
        have f4 := hs4.floor
        simp only [rn0, rn1, rn2, rn3, rn4, rn5, rn6, rn7, rn8, if_true, if_false, Nat.le_refl, true_and, and_true, decide_true, decide_false, Bool.not_true, Bool.not_false, reduceIte, Nat.reduceEqDiff, Nat.reduceAdd, Nat.reduceMul, Nat.reduceSub, Nat.reduceLeDiff, Nat.reduceLT, p1, p2, p4, p5, p6, p14, p15]
        refine step_store (b := g1.next) (off := 1) (vs := [.int .i64 (S.vb v + (k : Int))]) rfl hs4.get (by omega) (by omega) rfl rfl rfl (by simp [splice]) fun g5 hs5 => ?_
        have n5 := hs5.next
        have f5 := hs5.floor
        simp only [rn0, rn1, rn2, rn3, rn4, rn5, rn6, rn7, rn8, if_true, if_false, Nat.le_refl, true_and, and_true, decide_true, decide_false, Bool.not_true, Bool.not_false, reduceIte, Nat.reduceEqDiff, Nat.reduceAdd, Nat.reduceMul, Nat.reduceSub, Nat.reduceLeDiff, Nat.reduceLT, p1, p2, p4, p5, p6, p14, p15, hw, hne]
        rw [e1, e2]
        exact ⟨fun i hi => by rw [hs5.old i hi, hs4.old i hi, go i hi], by omega, by omega, hs5.get⟩
      · have d0 : decide (gI S v L k ≠ []) = true := decide_eq_true c0
        rw [d0] at p5
        have e1 : gLo (S.vb v) (gI S v L (k + 1)) = gLo (S.vb v) (gI S v L k) := by rw [eg, gLo_app c0]
        have e2 : gHi (S.vb v) (gI S v L (k + 1)) = S.vb v + (k : Int) := by rw [eg, gHi_app]
        simp only [rn0, rn1, rn2, rn3, rn4, rn5, rn6, rn7, rn8, if_true, if_false, Nat.le_refl, true_and, and_true, decide_true, decide_false, Bool.not_true, Bool.not_false, reduceIte, Nat.reduceEqDiff, Nat.reduceAdd, Nat.reduceMul, Nat.reduceSub, Nat.reduceLeDiff, Nat.reduceLT, p1, p2, p4, p5, p6, p14, p15, hk', rg.whole (n := 8) rfl, rg.ld, wkg, Nat.zero_add, Nat.add_zero, Cells.idx hyg.v hv, Cells.fld hyg.v hv, begin_ld hyg hv, hwb, ev, c]
        refine step_store (b := g1.next) (off := 1) (vs := [.int .i64 (S.vb v + (k : Int))]) rfl gr (by omega) (by omega) rfl rfl rfl (by simp) fun g5 hs5 => ?_
        have n5 := hs5.next
        have f5 := hs5.floor
        simp only [rn0, rn1, rn2, rn3, rn4, rn5, rn6, rn7, rn8, if_true, if_false, Nat.le_refl, true_and, and_true, decide_true, decide_false, Bool.not_true, Bool.not_false, reduceIte, Nat.reduceEqDiff, Nat.reduceAdd, Nat.reduceMul, Nat.reduceSub, Nat.reduceLeDiff, Nat.reduceLT, p1, p2, p4, p5, p6, p14, p15, hw, hne]
        rw [e1, e2]
        exact ⟨fun i hi => by rw [hs5.old i hi, go i hi], by omega, by omega, hs5.get⟩
    · have eg : gI S v L (k + 1) = gI S v L k := pick_no c
      simp only [rn0, rn1, rn2, rn3, rn4, rn5, rn6, rn7, rn8, if_true, if_false, Nat.le_refl, true_and, and_true, decide_true, decide_false, Bool.not_true, Bool.not_false, reduceIte, Nat.reduceEqDiff, Nat.reduceAdd, Nat.reduceMul, Nat.reduceSub, Nat.reduceLeDiff, Nat.reduceLT, p1, p2, p4, p5, p6, p14, p15, hk', rg.whole (n := 8) rfl, rg.ld, wkg, Nat.zero_add, Nat.add_zero, Cells.idx hyg.v hv, Cells.fld hyg.v hv, begin_ld hyg hv, hwb, ev, c, hw]
      rw [eg]
      first | exact ⟨⟨go, gn, gf, gr⟩, rfl⟩ | exact ⟨go, gn, gf, gr⟩
  · rintro f g ms ⟨⟨go, gn, gf, gr⟩, rfl, p1, p2, p4, p5, p6, p14, p15⟩
    have rt : Row g g1.next _ := ⟨_, _, gr⟩
    simp only [rn0, rn1, rn2, rn3, rn4, rn5, rn6, rn7, rn8, if_true, if_false, Nat.le_refl, true_and, and_true, decide_true, decide_false, Bool.not_true, Bool.not_false, reduceIte, Nat.reduceEqDiff, Nat.reduceAdd, Nat.reduceMul, Nat.reduceSub, Nat.reduceLeDiff, Nat.reduceLT, p1, p2, p4, p5, p6, p14, p15, Int.lt_irrefl, rt.whole (n := 2) rfl]
    refine step_store (b := g1.next) (off := 0) (vs := [.int .i64 (gLo (S.vb v) (gI S v L (hoursN S v))), .int .i64 (gHi (S.vb v) (gI S v L (hoursN S v)))]) rfl gr (by omega) (by omega) rfl rfl rfl (by simp) fun g6 hs6 => ?_
    rw [splice_all (by rfl)] at hs6
    simp only [rn0, rn1, rn2, rn3, rn4, rn5, rn6, rn7, rn8, if_true, if_false, Nat.le_refl, true_and, and_true, decide_true, decide_false, Bool.not_true, Bool.not_false, reduceIte, Nat.reduceEqDiff, Nat.reduceAdd, Nat.reduceMul, Nat.reduceSub, Nat.reduceLeDiff, Nat.reduceLT, p4, p5, res_two, hs6.row.whole (n := 2) rfl]
end Go.Vm.St

namespace Go.Vm.St
open Go.Proofs Go.Vm.Vat
set_option linter.unusedSimpArgs false
set_option linter.unusedVariables false
set_option maxRecDepth 10000
variable {n : Nat} {h : AHeap}
end Go.Vm.St

namespace Go.Vm.St
open Go.Proofs Go.Vm.Vat
set_option linter.unusedSimpArgs false
set_option linter.unusedVariables false
set_option maxRecDepth 10000
variable {n : Nat} {h : AHeap}
end Go.Vm.St

namespace Go.Vm.St
open Go.Proofs Go.Vm.Vat
set_option linter.unusedSimpArgs false
set_option linter.unusedVariables false
set_option maxRecDepth 10000
variable {n : Nat} {h : AHeap}
end Go.Vm.St

namespace Go.Vm.St
open Go.Proofs Go.Vm.Vat
set_option linter.unusedSimpArgs false
set_option linter.unusedVariables false
set_option maxRecDepth 10000
variable {n : Nat} {h : AHeap}
theorem build_rng0 : buildA (fun x => (#[(0, 1), (1, 1)] : Array (Nat × Nat))[x]?) ⟨[.int .i64 0, .int .i64 0]⟩ [] h [] = some (.agg ⟨[.int .i64 0, .int .i64 0]⟩, h) := id rfl
open Classical in
/-- the error of a question on a vat -/
noncomputable def errV (S : MS) (at_ : Int) : Int := if faultS S ≠ 0 then faultS S else if ¬ InV S at_ then 2 else if truthsS S = [] then 11 else 0
noncomputable def gAll (S : MS) (v : Nat) : List Int := gI S v (truthsS S) (hoursN S v)
/-- what 'Good' answers -/
noncomputable def goodE (S : MS) (at_ : Int) : Int := if errV S at_ = 0 then (if gAll S at_.toNat = [] then 10 else 0) else errV S at_
noncomputable def goodLo (S : MS) (at_ : Int) : Int := if errV S at_ = 0 then gLo (S.vb at_.toNat) (gAll S at_.toNat) else 0
noncomputable def goodHi (S : MS) (at_ : Int) : Int := if errV S at_ = 0 then gHi (S.vb at_.toNat) (gAll S at_.toNat) else 0
theorem errV_1 {S : MS} {at_ : Int} (hf : faultS S ≠ 0) : errV S at_ = faultS S := if_pos hf
theorem errV_2 {S : MS} {at_ : Int} (hf : faultS S = 0) (hv : ¬ InV S at_) : errV S at_ = 2 := by unfold errV; rw [if_neg (by simpa using hf), if_pos hv]
theorem errV_3 {S : MS} {at_ : Int} (hf : faultS S = 0) (hv : InV S at_) (hz : truthsS S = []) : errV S at_ = 11 := by unfold errV; rw [if_neg (by simpa using hf), if_neg (by intro q; exact q hv), if_pos hz]
theorem errV_4 {S : MS} {at_ : Int} (hf : faultS S = 0) (hv : InV S at_) (hz : truthsS S ≠ []) : errV S at_ = 0 := by unfold errV; rw [if_neg (by simpa using hf), if_neg (by intro q; exact q hv), if_neg hz]
theorem good_err {S : MS} {at_ : Int} (he : errV S at_ ≠ 0) : goodE S at_ = errV S at_ ∧ goodLo S at_ = 0 ∧ goodHi S at_ = 0 := ⟨if_neg he, if_neg he, if_neg he⟩
theorem good_ok {S : MS} {at_ : Int} (he : errV S at_ = 0) : goodE S at_ = (if gAll S at_.toNat = [] then 10 else 0) ∧ goodLo S at_ = gLo (S.vb at_.toNat) (gAll S at_.toNat) ∧ goodHi S at_ = gHi (S.vb at_.toNat) (gAll S at_.toNat) := ⟨if_pos he, if_pos he, if_pos he⟩
def s44 : SCode := (.seq (.ops [⟨(some 2), none, .box (T 0)⟩, ⟨(some 4), none, .alloc [(.int .i64 (0)), (.int .i64 (0))]⟩, ⟨(some 5), none, .mov (.const (.int .i64 (0)))⟩]) (.seq (.ops [⟨(some 11), none, .loadN 7 (T 2)⟩, ⟨(some 12), none, .mov (T 1)⟩, ⟨(some 13), none, .call (.func 88) [(T 11), (T 12), (.const (.slice none 0 0))]⟩, ⟨(some 10), none, .mov (T 13)⟩, ⟨(some 14), none, .extract 0 (T 10)⟩, ⟨(some 15), none, .extract 1 (T 10)⟩, ⟨(some 6), none, .alloc [(.int .i64 (0)), (.int .i64 (0)), (.slice none 0 0), (.int .i64 (0)), (.int .i64 (0)), (.slice none 0 0), (.slice none 0 0), (.slice none 0 0)]⟩, ⟨none, none, .store 8 (T 6) (T 14)⟩, ⟨(some 7), none, .mov (T 15)⟩]) (.seq (.seq (.ops [⟨(some 16), none, .mov (T 7)⟩, ⟨(some 17), none, .int2 .neq (T 16) (.const (.int .i64 (0)))⟩]) (.cond (T 17) (.seq (.ops [⟨(some 18), none, .build #[(0, 1), (1, 1)] [(.int .i64 (0)), (.int .i64 (0))] [] []⟩, ⟨(some 19), none, .mov (T 7)⟩, ⟨none, none, .store 2 (T 4) (T 18)⟩, ⟨(some 5), none, .mov (T 19)⟩]) .ret) .skip)) (.seq (.ops [⟨(some 21), none, .loadN 8 (T 6)⟩, ⟨(some 22), none, .mov (T 1)⟩, ⟨(some 23), none, .call (.func 93) [(T 21), (T 22)]⟩, ⟨(some 20), none, .mov (T 23)⟩, ⟨(some 24), none, .extract 0 (T 20)⟩, ⟨(some 25), none, .extract 1 (T 20)⟩, ⟨(some 8), none, .alloc [(.int .i64 (0)), (.int .i64 (0))]⟩, ⟨none, none, .store 2 (T 8) (T 24)⟩, ⟨(some 9), none, .mov (T 25)⟩]) (.seq (.seq (.ops [⟨(some 26), none, .mov (T 9)⟩, ⟨(some 27), none, .not (T 26)⟩]) (.cond (T 27) (.seq (.ops [⟨(some 28), none, .build #[(0, 1), (1, 1)] [(.int .i64 (0)), (.int .i64 (0))] [] []⟩, ⟨none, none, .store 2 (T 4) (T 28)⟩, ⟨(some 5), none, .mov (.const (.int .i64 (10)))⟩]) .ret) .skip)) (.seq (.ops [⟨(some 29), none, .loadN 2 (T 8)⟩, ⟨none, none, .store 2 (T 4) (T 29)⟩, ⟨(some 5), none, .mov (.const (.int .i64 (0)))⟩]) .ret))))))
theorem fok44 : FnOk Try.prog 44 30 s44 [.cellN 4 2, .tmp 5] := ⟨Try.f44, _, Try.func44, rfl, Try.ntmps44, by kernel_rfl, by kernel_rfl⟩
set_option maxHeartbeats 2000000 in
theorem goodP_c (hn : 2500 ≤ n) (hr : h.next + 1200000 < far) {wv vv sv : Value} {S : MS} (hy : SteepR h wv vv sv S) (hT : ThinS S) (at_ : Int) :
    call n (.func (.func 44) #[] #[]) [.agg ⟨stL S wv vv sv⟩, .int .i64 at_] h = some (.tuple ⟨[.agg ⟨[.int .i64 (goodLo S at_), .int .i64 (goodHi S at_)]⟩, .int .i64 (goodE S at_)]⟩, h) := by
  obtain ⟨n, rfl⟩ : ∃ p, n = p + 1 := ⟨n - 1, by omega⟩
  refine call_plain0 fok44 rfl rfl (by simp) rfl ?_
  have hy := hy.shut
  have hr : h.shutAll.next + 1200000 < far := hr
  have hfl : h.shutAll.floor ≤ h.shutAll.next := Nat.le_refl _
  generalize h.shutAll = h at hy hr hfl
  simp only [s44, W_seq, W_ops]
  refine ops_box (cs := stL S wv vv sv) (by omega) rfl hy.one fun g1 hx1 => ?_
  have n1 := hx1.next
  have f1 := hx1.floor
  refine ops_alloc (cs := [.int .i64 0, .int .i64 0]) (by omega) rfl fun g2 hx2 => ?_
  have n2 := hx2.next
  have f2 := hx2.floor
  have sub2 : Sub All h g2 := hx1.sub.trans hx2.sub
  have w2 := (hx1.row.mono hx2.sub).whole (n := 7) rfl
  obtain ⟨pv, g3, eo, o3, u3, m3, f3, hp⟩ := openVat_c (n := n) (h := g2) (by omega) (by omega) (by omega) (hy.mono sub2) hT at_
  have sub3 : Sub All h g3 := sub2.trans (AHeap.subOf o3)
  have q3 : g3.get g1.next = some (.row [.int .i64 0, .int .i64 0] true 0) := by rw [o3 _ (by omega)]; exact hx2.get
  have z20 : ¬ (2 : Int) = 0 := by decide
  have z110 : ¬ (11 : Int) = 0 := by decide
  rcases hp with ⟨hf, rfl⟩ | ⟨hf, hv, rfl⟩ | ⟨hf, hv, hz, rfl⟩ | ⟨hf, hv, hz, tv, rfl, hone, htr, hlong⟩
  · have e0 : errV S at_ = faultS S := errV_1 hf
    obtain ⟨q1, q2, q3'⟩ := good_err (S := S) (at_ := at_) (by rw [e0]; exact hf)
    rw [q1, q2, q3', e0]
    simp only [rn0, rn1, rn2, rn3, rn4, rn5, rn6, rn7, rn8, if_true, if_false, Nat.le_refl, true_and, and_true, decide_true, decide_false, Bool.not_true, Bool.not_false, reduceIte, Nat.reduceEqDiff, Nat.reduceAdd, Nat.reduceMul, Nat.reduceSub, Nat.reduceLeDiff, Nat.reduceLT, w2, eo, ex0, ex1]
    refine step_new (vs := wk0) (by omega) (by omega) rfl (by simp only [rn0, rn1, rn2, rn3, rn4, rn5, rn6, rn7, rn8, if_true, if_false, Nat.le_refl, true_and, and_true, decide_true, decide_false, Bool.not_true, Bool.not_false, reduceIte, Nat.reduceEqDiff, Nat.reduceAdd, Nat.reduceMul, Nat.reduceSub, Nat.reduceLeDiff, Nat.reduceLT]; rfl) rfl rfl rfl fun g4 hx4 => ?_
    have n4 := hx4.next
    have f4 := hx4.floor
    simp only [rn0, rn1, rn2, rn3, rn4, rn5, rn6, rn7, rn8, if_true, if_false, Nat.le_refl, true_and, and_true, decide_true, decide_false, Bool.not_true, Bool.not_false, reduceIte, Nat.reduceEqDiff, Nat.reduceAdd, Nat.reduceMul, Nat.reduceSub, Nat.reduceLeDiff, Nat.reduceLT, hf, build_rng0]
    refine step_store (b := g1.next) (off := 0) (vs := [.int .i64 0, .int .i64 0]) rfl (by rw [hx4.old _ (by omega)]; exact q3) (by omega) (by omega) rfl rfl rfl (by simp) fun g6 hs6 => ?_
    rw [splice_all (by rfl)] at hs6
    simp only [rn0, rn1, rn2, rn3, rn4, rn5, rn6, rn7, rn8, if_true, if_false, Nat.le_refl, true_and, and_true, decide_true, decide_false, Bool.not_true, Bool.not_false, reduceIte, Nat.reduceEqDiff, Nat.reduceAdd, Nat.reduceMul, Nat.reduceSub, Nat.reduceLeDiff, Nat.reduceLT, res_two, hs6.row.whole (n := 2) rfl]
  · have e0 : errV S at_ = 2 := errV_2 hf hv
    obtain ⟨q1, q2, q3'⟩ := good_err (S := S) (at_ := at_) (by rw [e0]; exact z20)
    rw [q1, q2, q3', e0]
    simp only [rn0, rn1, rn2, rn3, rn4, rn5, rn6, rn7, rn8, if_true, if_false, Nat.le_refl, true_and, and_true, decide_true, decide_false, Bool.not_true, Bool.not_false, reduceIte, Nat.reduceEqDiff, Nat.reduceAdd, Nat.reduceMul, Nat.reduceSub, Nat.reduceLeDiff, Nat.reduceLT, w2, eo, ex0, ex1]
    refine step_new (vs := wk0) (by omega) (by omega) rfl (by simp only [rn0, rn1, rn2, rn3, rn4, rn5, rn6, rn7, rn8, if_true, if_false, Nat.le_refl, true_and, and_true, decide_true, decide_false, Bool.not_true, Bool.not_false, reduceIte, Nat.reduceEqDiff, Nat.reduceAdd, Nat.reduceMul, Nat.reduceSub, Nat.reduceLeDiff, Nat.reduceLT]; rfl) rfl rfl rfl fun g4 hx4 => ?_
    have n4 := hx4.next
    have f4 := hx4.floor
    simp only [rn0, rn1, rn2, rn3, rn4, rn5, rn6, rn7, rn8, if_true, if_false, Nat.le_refl, true_and, and_true, decide_true, decide_false, Bool.not_true, Bool.not_false, reduceIte, Nat.reduceEqDiff, Nat.reduceAdd, Nat.reduceMul, Nat.reduceSub, Nat.reduceLeDiff, Nat.reduceLT, z20, build_rng0]
    refine step_store (b := g1.next) (off := 0) (vs := [.int .i64 0, .int .i64 0]) rfl (by rw [hx4.old _ (by omega)]; exact q3) (by omega) (by omega) rfl rfl rfl (by simp) fun g6 hs6 => ?_
    rw [splice_all (by rfl)] at hs6
    simp only [rn0, rn1, rn2, rn3, rn4, rn5, rn6, rn7, rn8, if_true, if_false, Nat.le_refl, true_and, and_true, decide_true, decide_false, Bool.not_true, Bool.not_false, reduceIte, Nat.reduceEqDiff, Nat.reduceAdd, Nat.reduceMul, Nat.reduceSub, Nat.reduceLeDiff, Nat.reduceLT, res_two, hs6.row.whole (n := 2) rfl]
  · have e0 : errV S at_ = 11 := errV_3 hf hv hz
    obtain ⟨q1, q2, q3'⟩ := good_err (S := S) (at_ := at_) (by rw [e0]; exact z110)
    rw [q1, q2, q3', e0]
    simp only [rn0, rn1, rn2, rn3, rn4, rn5, rn6, rn7, rn8, if_true, if_false, Nat.le_refl, true_and, and_true, decide_true, decide_false, Bool.not_true, Bool.not_false, reduceIte, Nat.reduceEqDiff, Nat.reduceAdd, Nat.reduceMul, Nat.reduceSub, Nat.reduceLeDiff, Nat.reduceLT, w2, eo, ex0, ex1]
    refine step_new (vs := wk0) (by omega) (by omega) rfl (by simp only [rn0, rn1, rn2, rn3, rn4, rn5, rn6, rn7, rn8, if_true, if_false, Nat.le_refl, true_and, and_true, decide_true, decide_false, Bool.not_true, Bool.not_false, reduceIte, Nat.reduceEqDiff, Nat.reduceAdd, Nat.reduceMul, Nat.reduceSub, Nat.reduceLeDiff, Nat.reduceLT]; rfl) rfl rfl rfl fun g4 hx4 => ?_
    have n4 := hx4.next
    have f4 := hx4.floor
    simp only [rn0, rn1, rn2, rn3, rn4, rn5, rn6, rn7, rn8, if_true, if_false, Nat.le_refl, true_and, and_true, decide_true, decide_false, Bool.not_true, Bool.not_false, reduceIte, Nat.reduceEqDiff, Nat.reduceAdd, Nat.reduceMul, Nat.reduceSub, Nat.reduceLeDiff, Nat.reduceLT, z110, build_rng0]
    refine step_store (b := g1.next) (off := 0) (vs := [.int .i64 0, .int .i64 0]) rfl (by rw [hx4.old _ (by omega)]; exact q3) (by omega) (by omega) rfl rfl rfl (by simp) fun g6 hs6 => ?_
    rw [splice_all (by rfl)] at hs6
    simp only [rn0, rn1, rn2, rn3, rn4, rn5, rn6, rn7, rn8, if_true, if_false, Nat.le_refl, true_and, and_true, decide_true, decide_false, Bool.not_true, Bool.not_false, reduceIte, Nat.reduceEqDiff, Nat.reduceAdd, Nat.reduceMul, Nat.reduceSub, Nat.reduceLeDiff, Nat.reduceLT, res_two, hs6.row.whole (n := 2) rfl]
  · have hG := good_of hf
    have e0 : errV S at_ = 0 := errV_4 hf hv hz
    obtain ⟨q1, q2, q3'⟩ := good_ok e0
    rw [q1, q2, q3']
    have how := wk_one hy (tv := tv) hone
    obtain ⟨va, hva⟩ : ∃ va : Nat, at_ = (va : Int) := ⟨at_.toNat, by unfold InV at hv; omega⟩
    subst hva
    have hvn : va < S.nv := by unfold InV at hv; omega
    simp only [Int.toNat_natCast]
    simp only [rn0, rn1, rn2, rn3, rn4, rn5, rn6, rn7, rn8, if_true, if_false, Nat.le_refl, true_and, and_true, decide_true, decide_false, Bool.not_true, Bool.not_false, reduceIte, Nat.reduceEqDiff, Nat.reduceAdd, Nat.reduceMul, Nat.reduceSub, Nat.reduceLeDiff, Nat.reduceLT, w2, eo, ex0, ex1]
    refine step_new (vs := wkL S wv vv sv tv) (by omega) (by omega) rfl (by simp only [rn0, rn1, rn2, rn3, rn4, rn5, rn6, rn7, rn8, if_true, if_false, Nat.le_refl, true_and, and_true, decide_true, decide_false, Bool.not_true, Bool.not_false, reduceIte, Nat.reduceEqDiff, Nat.reduceAdd, Nat.reduceMul, Nat.reduceSub, Nat.reduceLeDiff, Nat.reduceLT]; rfl) how rfl rfl fun g4 hx4 => ?_
    have n4 := hx4.next
    have f4 := hx4.floor
    have sub4 := sub3.trans hx4.sub
    have htr4 : TruthsR g4 S tv (truthsS S) := Cells.mono htr hx4.sub
    have q4 : g4.get g1.next = some (.row [.int .i64 0, .int .i64 0] true 0) := by rw [hx4.old _ (by omega)]; exact q3
    have eg := goodHours_c (n := n) (h := g4) (by omega) (by omega) (hy.mono sub4) hone hG (truths_len hG) (fun t ht => (truths_mem.1 ht).1.1) htr4 hvn
    change call n _ _ g4 = some (.tuple ⟨[.agg ⟨[.int .i64 (gLo (S.vb va) (gAll S va)), .int .i64 (gHi (S.vb va) (gAll S va))]⟩, .bool (decide (gAll S va ≠ []))]⟩, g4) at eg
    by_cases c : gAll S va = []
    · have d0 : decide (gAll S va ≠ []) = false := decide_eq_false (by simpa using c)
      rw [if_pos c, c, gLo_nil, gHi_nil]
      rw [d0, c, gLo_nil, gHi_nil] at eg
      simp only [rn0, rn1, rn2, rn3, rn4, rn5, rn6, rn7, rn8, if_true, if_false, Nat.le_refl, true_and, and_true, decide_true, decide_false, Bool.not_true, Bool.not_false, reduceIte, Nat.reduceEqDiff, Nat.reduceAdd, Nat.reduceMul, Nat.reduceSub, Nat.reduceLeDiff, Nat.reduceLT, hx4.row.whole (n := 8) rfl, eg, ex0, ex1]
      refine step_new (vs := [.int .i64 0, .int .i64 0]) (by omega) (by omega) rfl (by simp only [rn0, rn1, rn2, rn3, rn4, rn5, rn6, rn7, rn8, if_true, if_false, Nat.le_refl, true_and, and_true, decide_true, decide_false, Bool.not_true, Bool.not_false, reduceIte, Nat.reduceEqDiff, Nat.reduceAdd, Nat.reduceMul, Nat.reduceSub, Nat.reduceLeDiff, Nat.reduceLT]; rfl) rfl rfl rfl fun g5 hx5 => ?_
      have n5 := hx5.next
      have f5 := hx5.floor
      simp only [rn0, rn1, rn2, rn3, rn4, rn5, rn6, rn7, rn8, if_true, if_false, Nat.le_refl, true_and, and_true, decide_true, decide_false, Bool.not_true, Bool.not_false, reduceIte, Nat.reduceEqDiff, Nat.reduceAdd, Nat.reduceMul, Nat.reduceSub, Nat.reduceLeDiff, Nat.reduceLT, build_rng0]
      refine step_store (b := g1.next) (off := 0) (vs := [.int .i64 0, .int .i64 0]) rfl (by rw [hx5.old _ (by omega)]; exact q4) (by omega) (by omega) rfl rfl rfl (by simp) fun g6 hs6 => ?_
      rw [splice_all (by rfl)] at hs6
      simp only [rn0, rn1, rn2, rn3, rn4, rn5, rn6, rn7, rn8, if_true, if_false, Nat.le_refl, true_and, and_true, decide_true, decide_false, Bool.not_true, Bool.not_false, reduceIte, Nat.reduceEqDiff, Nat.reduceAdd, Nat.reduceMul, Nat.reduceSub, Nat.reduceLeDiff, Nat.reduceLT, res_two, hs6.row.whole (n := 2) rfl]
    · have d0 : decide (gAll S va ≠ []) = true := decide_eq_true c
      rw [if_neg c]
      rw [d0] at eg
      simp only [rn0, rn1, rn2, rn3, rn4, rn5, rn6, rn7, rn8, if_true, if_false, Nat.le_refl, true_and, and_true, decide_true, decide_false, Bool.not_true, Bool.not_false, reduceIte, Nat.reduceEqDiff, Nat.reduceAdd, Nat.reduceMul, Nat.reduceSub, Nat.reduceLeDiff, Nat.reduceLT, hx4.row.whole (n := 8) rfl, eg, ex0, ex1]
      refine step_new (vs := [.int .i64 (gLo (S.vb va) (gAll S va)), .int .i64 (gHi (S.vb va) (gAll S va))]) (by omega) (by omega) rfl (by simp only [rn0, rn1, rn2, rn3, rn4, rn5, rn6, rn7, rn8, if_true, if_false, Nat.le_refl, true_and, and_true, decide_true, decide_false, Bool.not_true, Bool.not_false, reduceIte, Nat.reduceEqDiff, Nat.reduceAdd, Nat.reduceMul, Nat.reduceSub, Nat.reduceLeDiff, Nat.reduceLT]; rfl) rfl rfl rfl fun g5 hx5 => ?_
      have n5 := hx5.next
      have f5 := hx5.floor
      simp only [rn0, rn1, rn2, rn3, rn4, rn5, rn6, rn7, rn8, if_true, if_false, Nat.le_refl, true_and, and_true, decide_true, decide_false, Bool.not_true, Bool.not_false, reduceIte, Nat.reduceEqDiff, Nat.reduceAdd, Nat.reduceMul, Nat.reduceSub, Nat.reduceLeDiff, Nat.reduceLT, hx5.row.whole (n := 2) rfl]
      refine step_store (b := g1.next) (off := 0) (vs := [.int .i64 (gLo (S.vb va) (gAll S va)), .int .i64 (gHi (S.vb va) (gAll S va))]) rfl (by rw [hx5.old _ (by omega)]; exact q4) (by omega) (by omega) rfl rfl rfl (by simp) fun g6 hs6 => ?_
      rw [splice_all (by rfl)] at hs6
      simp only [rn0, rn1, rn2, rn3, rn4, rn5, rn6, rn7, rn8, if_true, if_false, Nat.le_refl, true_and, and_true, decide_true, decide_false, Bool.not_true, Bool.not_false, reduceIte, Nat.reduceEqDiff, Nat.reduceAdd, Nat.reduceMul, Nat.reduceSub, Nat.reduceLeDiff, Nat.reduceLT, res_two, hs6.row.whole (n := 2) rfl]
/-! ### The reference's good hours -/
def s45 : SCode := (.seq (.ops [⟨(some 3), none, .box (T 0)⟩, ⟨(some 6), none, .mov (.const (.slice none 0 0))⟩]) (.seq (.ops [⟨(some 7), none, .mov (.const (.slice none 0 0))⟩]) (.seq (.seq (.ops [⟨(some 9), none, .fieldAddr 5 (T 3)⟩, ⟨(some 10), none, .load1 (T 9)⟩, ⟨(some 11), none, .mov (T 2)⟩, ⟨(some 12), none, .idxSl 4 (T 10) (T 11)⟩, ⟨(some 13), none, .fieldAddr 0 (T 12)⟩, ⟨(some 14), none, .load1 (T 13)⟩, ⟨(some 8), none, .mov (T 14)⟩]) (.block 0 (.loop (.seq (.seq (.ops [⟨(some 15), none, .mov (T 8)⟩, ⟨(some 16), none, .fieldAddr 0 (T 3)⟩, ⟨(some 17), none, .load1 (T 16)⟩, ⟨(some 18), none, .int2 .leq (T 15) (T 17)⟩]) (.cond (T 18) .skip (.exit 0))) (.seq (.block 1 (.seq (.ops [⟨(some 21), none, .loadN 7 (T 3)⟩, ⟨(some 22), none, .mov (T 1)⟩, ⟨(some 23), none, .mov (T 2)⟩, ⟨(some 24), none, .mov (T 8)⟩, ⟨(some 25), none, .call (.func 43) [(T 21), (T 22), (T 23), (T 24)]⟩, ⟨(some 26), none, .int2 .eql (T 25) (.const (.int .i64 (1)))⟩]) (.cond (T 26) (.ops [⟨(some 27), none, .mov (T 7)⟩, ⟨(some 28), none, .mov (T 8)⟩, ⟨(some 29), none, .bslice 1 1 [(.int .i64 (0))] [0] [(T 28)]⟩, ⟨(some 30), none, .append 1 8 (T 27) (T 29)⟩, ⟨(some 7), none, .mov (T 30)⟩]) .skip))) (.ops [⟨(some 19), none, .mov (T 8)⟩, ⟨(some 20), none, .int2 .add (T 19) (.const (.int .i64 (1)))⟩, ⟨(some 8), none, .mov (T 20)⟩])))))) (.seq (.ops [⟨(some 31), none, .mov (T 7)⟩, ⟨(some 6), none, .mov (T 31)⟩]) .ret))))
/-! ### Good hours follow one another -/
theorem verd_one {S : MS} {v : Nat} {hh kk : Int} {L : List (Nat → Int)} (hL : L ≠ []) : verdS S v hh kk L = 1 ↔ ∀ t, t ∈ L → kindS S t v hh = kk := by
  obtain ⟨t, ht⟩ := List.exists_mem_of_ne_nil _ hL
  unfold verdS
  by_cases c1 : ∀ t, t ∈ L → kindS S t v hh ≠ kk
  · rw [if_pos c1]
    exact ⟨fun e => absurd e (by decide), fun q => absurd (q t ht) (c1 t ht)⟩
  · rw [if_neg c1]
    by_cases c2 : ∀ t, t ∈ L → kindS S t v hh = kk
    · rw [if_pos c2]; exact ⟨fun _ => c2, fun _ => rfl⟩
    · rw [if_neg c2]; exact ⟨fun e => absurd e (by decide), fun q => absurd q c2⟩
theorem kind_up {S : MS} {u : Nat → Int} (hG : Good S) (hu : InU S u) {v : Nat} (hv : v < S.nv) {i : Nat} : ∀ d, i + d < hoursN S v → kindS S u v (S.vb v + (i : Int)) ≤ kindS S u v (S.vb v + ((i + d : Nat) : Int))
  | 0, _ => Int.le_refl _
  | d + 1, hd => by
    have h1 := kind_up hG hu hv (i := i) d (by omega)
    have o1 := hour_at hG hv (i := i + d) (by omega)
    have o2 := hour_at hG hv (i := i + d + 1) (by omega)
    have ee : S.vb v + ((i + d + 1 : Nat) : Int) = S.vb v + ((i + d : Nat) : Int) + 1 := by omega
    have h2 := kind_next hG hu o1 (by rw [← ee]; exact o2)
    rw [← ee] at h2
    exact Int.le_trans h1 h2
/-- hours between two good ones are good -/
theorem good_mid {S : MS} (hG : Good S) {v : Nat} (hv : v < S.nv) {L : List (Nat → Int)} (hL : L ≠ []) (hin : ∀ t, t ∈ L → InU S t) {a b c : Nat} (h1 : a ≤ b) (h2 : b ≤ c) (h3 : c < hoursN S v) (ha : verdS S v (S.vb v + (a : Int)) 1 L = 1) (hc : verdS S v (S.vb v + (c : Int)) 1 L = 1) : verdS S v (S.vb v + (b : Int)) 1 L = 1 := by
  rw [verd_one hL] at ha hc ⊢
  intro t ht
  have k1 := kind_up hG (hin t ht) hv (i := a) (b - a) (by omega)
  have k2 := kind_up hG (hin t ht) hv (i := b) (c - b) (by omega)
  rw [show a + (b - a) = b by omega, ha t ht] at k1
  rw [show b + (c - b) = c by omega, hc t ht] at k2
  omega
/-- numbers that are picked without a gap -/
theorem pick_run {p : Nat → Prop} : ∀ (k : Nat), (∀ a b c, a ≤ b → b ≤ c → c < k → p a → p c → p b) → pickL p k ≠ [] → ∃ a, (∀ i, i < (pickL p k).length → atL (pickL p k) i = ((a + i : Nat) : Int)) ∧ a + (pickL p k).length ≤ k ∧ ∀ x, x < k → (p x ↔ a ≤ x ∧ x < a + (pickL p k).length)
  | 0, _, h => absurd rfl h
  | k + 1, hg, h => by
    by_cases c : p k
    · rw [pick_yes c] at h ⊢
      by_cases c0 : pickL p k = []
      · refine ⟨k, ?_, by rw [c0]; simp, ?_⟩
        · rw [c0]
          intro i hi
          simp only [List.nil_append, List.length_singleton] at hi
          obtain rfl : i = 0 := by omega
          rfl
        · rw [c0]
          intro x hx
          simp only [List.nil_append, List.length_singleton]
          constructor
          · intro hp
            by_cases e : x = k
            · omega
            · obtain ⟨i, i1, i2⟩ := pick_has (p := p) (k := k) (show x < k by omega) hp
              rw [c0] at i1
              exact absurd i1 (Nat.not_lt_zero _)
          · intro q
            obtain rfl : x = k := by omega
            exact c
      · obtain ⟨a, h1, h2, h3⟩ := pick_run k (fun a b c h1 h2 h3 => hg a b c h1 h2 (by omega)) c0
        have hpos : 0 < (pickL p k).length := List.length_pos_iff.2 c0
        have hpa : p a := (h3 a (by omega)).2 ⟨Nat.le_refl _, by omega⟩
        have hend : a + (pickL p k).length = k := by
          apply Classical.byContradiction
          intro hne
          have := (h3 (a + (pickL p k).length) (by omega)).1 (hg a _ k (by omega) (by omega) (by omega) hpa c)
          omega
        refine ⟨a, fun i hi => ?_, by rw [List.length_append, List.length_singleton]; omega, fun x hx => ?_⟩
        · rw [List.length_append, List.length_singleton] at hi
          by_cases e : i < (pickL p k).length
          · rw [at_append e, h1 i e]
          · obtain rfl : i = (pickL p k).length := by omega
            rw [at_last, hend]
        · rw [List.length_append, List.length_singleton]
          by_cases e : x = k
          · subst e
            exact ⟨fun _ => ⟨by omega, by omega⟩, fun _ => c⟩
          · rw [h3 x (by omega)]
            omega
    · rw [pick_no c] at h ⊢
      obtain ⟨a, h1, h2, h3⟩ := pick_run k (fun a b c h1 h2 h3 => hg a b c h1 h2 (by omega)) h
      refine ⟨a, h1, by omega, fun x hx => ?_⟩
      by_cases e : x = k
      · subst e
        exact ⟨fun q => absurd q c, fun q => by omega⟩
      · exact h3 x (by omega)
/-- the good hours of a vat are a range -/
theorem gAll_run {S : MS} (hG : Good S) {v : Nat} (hv : v < S.nv) (hz : truthsS S ≠ []) (hne : gAll S v ≠ []) : ∃ a : Nat, a + (gAll S v).length ≤ hoursN S v ∧ 0 < (gAll S v).length ∧ gLo (S.vb v) (gAll S v) = S.vb v + (a : Int) ∧ gHi (S.vb v) (gAll S v) = S.vb v + ((a + (gAll S v).length - 1 : Nat) : Int) ∧ ∀ x, x < hoursN S v → (verdS S v (S.vb v + (x : Int)) 1 (truthsS S) = 1 ↔ a ≤ x ∧ x < a + (gAll S v).length) := by
  obtain ⟨a, h1, h2, h3⟩ := pick_run (p := fun i => verdS S v (S.vb v + (i : Int)) 1 (truthsS S) = 1) (hoursN S v) (fun a b c k1 k2 k3 ha hc => good_mid hG hv hz (fun t ht => (truths_mem.1 ht).1.1) k1 k2 k3 ha hc) hne
  have e : pickL (fun i => verdS S v (S.vb v + (i : Int)) 1 (truthsS S) = 1) (hoursN S v) = gAll S v := rfl
  simp only [e] at h1 h2 h3
  have hpos : 0 < (gAll S v).length := List.length_pos_iff.2 hne
  refine ⟨a, h2, hpos, ?_, ?_, h3⟩
  · unfold gLo
    rw [if_neg hne, h1 0 hpos, Nat.add_zero]
  · unfold gHi
    rw [if_neg hne, h1 _ (by omega)]
    congr 2
    omega
end Go.Vm.St

namespace Go.Vm.St
open Go.Proofs Go.Vm.Vat
set_option linter.unusedSimpArgs false
set_option linter.unusedVariables false
set_option maxRecDepth 10000
variable {n : Nat} {h : AHeap}
def s5 : SCode := (.seq (.ops [⟨(some 3), none, .box (T 0)⟩, ⟨(some 6), none, .mov (.const (.bool false))⟩]) (.seq (.seq (.ops [⟨(some 13), none, .loadN 7 (T 3)⟩, ⟨(some 14), none, .call (.func 23) [(T 13)]⟩, ⟨(some 15), none, .not (T 14)⟩]) (.cond (T 15) (.seq (.ops [⟨(some 16), none, .call (.func 24) []⟩, ⟨(some 6), none, .mov (T 16)⟩]) .ret) .skip)) (.seq (.ops [⟨(some 18), none, .loadN 7 (T 3)⟩, ⟨(some 19), none, .call (.func 26) [(T 18)]⟩, ⟨(some 20), none, .mov (T 1)⟩, ⟨(some 21), none, .mov (T 2)⟩, ⟨(some 22), none, .call (.func 40) [(T 19), (T 20), (T 21)]⟩, ⟨(some 17), none, .mov (T 22)⟩, ⟨(some 23), none, .extract 0 (T 17)⟩, ⟨(some 24), none, .extract 1 (T 17)⟩, ⟨(some 7), none, .mov (T 23)⟩, ⟨(some 8), none, .mov (T 24)⟩]) (.seq (.ops [⟨(some 25), none, .loadN 7 (T 3)⟩, ⟨(some 26), none, .call (.func 26) [(T 25)]⟩, ⟨(some 27), none, .mov (T 1)⟩, ⟨(some 28), none, .mov (T 2)⟩, ⟨(some 29), none, .call (.func 41) [(T 26), (T 27), (T 28)]⟩, ⟨(some 9), none, .mov (T 29)⟩]) (.seq (.draw [⟨.rd, ⟨(some 31), none, .loadN 7 (T 3)⟩⟩, ⟨.rd1, ⟨(some 32), none, .loadN 7 (T 3)⟩⟩, ⟨.free, ⟨(some 33), none, .mov (T 1)⟩⟩, ⟨.up, ⟨(some 34), none, .call (.func 37) [(T 32), (T 33)]⟩⟩, ⟨.free, ⟨(some 35), none, .mov (T 34)⟩⟩, ⟨.rd1, ⟨(some 36), (some (35, true)), .loadN 7 (T 3)⟩⟩, ⟨.up, ⟨(some 37), (some (35, true)), .call (.func 29) [(T 36)]⟩⟩, ⟨.free, ⟨(some 38), (some (35, true)), .int2 .eql (T 37) (.const (.int .i64 (0)))⟩⟩, ⟨.free, ⟨(some 39), none, .pick (T 35) (T 38) (.const (.bool false))⟩⟩, ⟨.free, ⟨(some 40), none, .mov (T 39)⟩⟩, ⟨.free, ⟨(some 41), (some (40, true)), .mov (T 2)⟩⟩, ⟨.free, ⟨(some 42), (some (40, true)), .fieldAddr 5 (T 3)⟩⟩, ⟨.rd1, ⟨(some 43), (some (40, true)), .load1 (T 42)⟩⟩, ⟨.free, ⟨(some 44), (some (40, true)), .mov (T 1)⟩⟩, ⟨.free, ⟨(some 45), (some (40, true)), .idxSl 4 (T 43) (T 44)⟩⟩, ⟨.free, ⟨(some 46), (some (40, true)), .fieldAddr 0 (T 45)⟩⟩, ⟨.rd1, ⟨(some 47), (some (40, true)), .load1 (T 46)⟩⟩, ⟨.free, ⟨(some 48), (some (40, true)), .fieldAddr 0 (T 3)⟩⟩, ⟨.rd1, ⟨(some 49), (some (40, true)), .load1 (T 48)⟩⟩, ⟨.up, ⟨(some 50), (some (40, true)), .call (.func 42) [(T 41), (T 47), (T 49)]⟩⟩, ⟨.free, ⟨(some 51), none, .pick (T 40) (T 50) (.const (.bool false))⟩⟩, ⟨.any, ⟨(some 52), none, .call (.func 36) [(T 31), (T 51)]⟩⟩, ⟨.free, ⟨(some 30), none, .mov (T 52)⟩⟩, ⟨.free, ⟨(some 53), none, .extract 0 (T 30)⟩⟩, ⟨.free, ⟨(some 54), none, .extract 1 (T 30)⟩⟩, ⟨.free, ⟨(some 10), none, .mov (T 53)⟩⟩, ⟨.free, ⟨(some 11), none, .mov (T 54)⟩⟩]) (.seq (.seq (.ops [⟨(some 55), none, .mov (T 11)⟩, ⟨(some 56), none, .int2 .neq (T 55) (.const (.int .i64 (0)))⟩]) (.cond (T 56) (.seq (.ops [⟨(some 57), none, .mov (T 8)⟩, ⟨(some 58), none, .mov (T 11)⟩, ⟨(some 59), none, .int2 .eql (T 57) (T 58)⟩, ⟨(some 60), none, .mov (T 59)⟩, ⟨(some 61), (some (60, true)), .mov (T 7)⟩, ⟨(some 62), (some (60, true)), .int2 .eql (T 61) (.const (.int .i64 (0)))⟩, ⟨(some 63), none, .pick (T 60) (T 62) (.const (.bool false))⟩, ⟨(some 64), none, .mov (T 63)⟩, ⟨(some 65), (some (64, true)), .mov (T 9)⟩, ⟨(some 66), (some (64, true)), .not (T 65)⟩, ⟨(some 67), none, .pick (T 64) (T 66) (.const (.bool false))⟩, ⟨(some 68), none, .mov (T 67)⟩, ⟨(some 69), (some (68, true)), .call (.func 24) []⟩, ⟨(some 70), none, .pick (T 68) (T 69) (.const (.bool false))⟩, ⟨(some 6), none, .mov (T 70)⟩]) .ret) .skip)) (.seq (.ops [⟨(some 71), none, .loadN 7 (T 3)⟩, ⟨(some 72), none, .mov (T 10)⟩, ⟨(some 73), none, .mov (T 1)⟩, ⟨(some 74), none, .mov (T 2)⟩, ⟨(some 75), none, .call (.func 43) [(T 71), (T 72), (T 73), (T 74)]⟩, ⟨(some 12), none, .mov (T 75)⟩]) (.seq (.ops [⟨(some 76), none, .mov (T 8)⟩, ⟨(some 77), none, .int2 .eql (T 76) (.const (.int .i64 (0)))⟩, ⟨(some 78), none, .mov (T 77)⟩, ⟨(some 79), (some (78, true)), .mov (T 7)⟩, ⟨(some 80), (some (78, true)), .mov (T 12)⟩, ⟨(some 81), (some (78, true)), .int2 .eql (T 79) (T 80)⟩, ⟨(some 82), none, .pick (T 78) (T 81) (.const (.bool false))⟩, ⟨(some 83), none, .mov (T 82)⟩, ⟨(some 84), (some (83, true)), .mov (T 9)⟩, ⟨(some 85), (some (83, true)), .mov (T 12)⟩, ⟨(some 86), (some (83, true)), .int2 .eql (T 85) (.const (.int .i64 (1)))⟩, ⟨(some 87), (some (83, true)), .bin .eql (.binOp .eql 4 (T 84) (T 86) 4) 4 (T 84) (T 86)⟩, ⟨(some 88), none, .pick (T 83) (T 87) (.const (.bool false))⟩, ⟨(some 89), none, .mov (T 88)⟩, ⟨(some 90), (some (89, true)), .call (.func 24) []⟩, ⟨(some 91), none, .pick (T 89) (T 90) (.const (.bool false))⟩, ⟨(some 6), none, .mov (T 91)⟩]) .ret))))))))
end Go.Vm.St

namespace Go.Vm
variable {P : Program} {N : Nat} {f : Fr} {h : AHeap} {ty t u e : TypeId} {x y : Operand}
end Go.Vm
namespace Go.Vm.St
open Go.Proofs Go.Vm.Vat
set_option linter.unusedSimpArgs false
set_option linter.unusedVariables false
set_option maxRecDepth 10000
variable {n : Nat} {h : AHeap}
def s46 : SCode := (.seq (.ops [⟨(some 4), none, .alloc [(.int .i64 (0)), (.int .i64 (0))]⟩]) (.seq (.ops [⟨(some 5), none, .mov (T 0)⟩, ⟨(some 6), none, .mov (T 1)⟩, ⟨(some 7), none, .build #[(0, 1), (1, 1)] [(.int .i64 (0)), (.int .i64 (0))] [0, 1] [(T 5), (T 6)]⟩, ⟨none, none, .store 2 (T 4) (T 7)⟩]) .ret))
theorem fok46 : FnOk Try.prog 46 8 s46 [.cellN 4 2] := ⟨Try.f46, _, Try.func46, rfl, Try.ntmps46, by kernel_rfl, by kernel_rfl⟩
theorem between_c (hn : 1 ≤ n) (hr : h.next + 2 < far) (lo hi : Int) : call n (.func (.func 46) #[] #[]) [.int .i64 lo, .int .i64 hi] h = some (.agg ⟨[.int .i64 lo, .int .i64 hi]⟩, h) := by
  obtain ⟨n, rfl⟩ : ∃ p, n = p + 1 := ⟨n - 1, by omega⟩
  refine call_plain0 fok46 rfl rfl (by simp) rfl ?_
  have hr : h.shutAll.next + 2 < far := hr
  have hfl : h.shutAll.floor ≤ h.shutAll.next := Nat.le_refl _
  generalize h.shutAll = h at hr hfl
  simp only [s46, W_seq, W_ops]
  refine ops_alloc (by omega) rfl fun h2 hx2 => ?_
  have n2 := hx2.next
  have f2 := hx2.floor
  simp only [rn0, rn1, rn2, rn3, rn4, rn5, rn6, rn7, rn8, if_true, if_false, Nat.le_refl, true_and, and_true, decide_true, decide_false, Bool.not_true, Bool.not_false, reduceIte, Nat.reduceEqDiff, Nat.reduceAdd, Nat.reduceMul, Nat.reduceSub, Nat.reduceLeDiff, Nat.reduceLT, build_range]
  refine step_store (vs := [.int .i64 lo, .int .i64 hi]) rfl hx2.get (by omega) (by omega) rfl rfl rfl (by simp) fun h3 hs => ?_
  rw [splice2] at hs
  simp only [rn0, rn1, rn2, rn3, rn4, rn5, rn6, rn7, rn8, if_true, if_false, Nat.le_refl, true_and, and_true, decide_true, decide_false, Bool.not_true, Bool.not_false, reduceIte, Nat.reduceEqDiff, Nat.reduceAdd, Nat.reduceMul, Nat.reduceSub, Nat.reduceLeDiff, Nat.reduceLT, hs.row.whole (n := 2) rfl]
def s6 : SCode := (.seq (.ops [⟨(some 2), none, .box (T 0)⟩, ⟨(some 4), none, .mov (.const (.bool false))⟩]) (.seq (.seq (.ops [⟨(some 10), none, .loadN 7 (T 2)⟩, ⟨(some 11), none, .call (.func 23) [(T 10)]⟩, ⟨(some 12), none, .not (T 11)⟩]) (.cond (T 12) (.seq (.ops [⟨(some 13), none, .call (.func 24) []⟩, ⟨(some 4), none, .mov (T 13)⟩]) .ret) .skip)) (.seq (.ops [⟨(some 15), none, .loadN 7 (T 2)⟩, ⟨(some 16), none, .call (.func 26) [(T 15)]⟩, ⟨(some 17), none, .mov (T 1)⟩, ⟨(some 18), none, .call (.func 44) [(T 16), (T 17)]⟩, ⟨(some 14), none, .mov (T 18)⟩, ⟨(some 19), none, .extract 0 (T 14)⟩, ⟨(some 20), none, .extract 1 (T 14)⟩, ⟨(some 5), none, .alloc [(.int .i64 (0)), (.int .i64 (0))]⟩, ⟨none, none, .store 2 (T 5) (T 19)⟩, ⟨(some 6), none, .mov (T 20)⟩]) (.seq (.draw [⟨.rd, ⟨(some 22), none, .loadN 7 (T 2)⟩⟩, ⟨.rd1, ⟨(some 23), none, .loadN 7 (T 2)⟩⟩, ⟨.free, ⟨(some 24), none, .mov (T 1)⟩⟩, ⟨.up, ⟨(some 25), none, .call (.func 37) [(T 23), (T 24)]⟩⟩, ⟨.any, ⟨(some 26), none, .call (.func 36) [(T 22), (T 25)]⟩⟩, ⟨.free, ⟨(some 21), none, .mov (T 26)⟩⟩, ⟨.free, ⟨(some 27), none, .extract 0 (T 21)⟩⟩, ⟨.free, ⟨(some 28), none, .extract 1 (T 21)⟩⟩, ⟨.free, ⟨(some 7), none, .mov (T 27)⟩⟩, ⟨.free, ⟨(some 8), none, .mov (T 28)⟩⟩]) (.seq (.seq (.ops [⟨(some 29), none, .mov (T 8)⟩, ⟨(some 30), none, .int2 .neq (T 29) (.const (.int .i64 (0)))⟩]) (.cond (T 30) (.seq (.ops [⟨(some 31), none, .mov (T 6)⟩, ⟨(some 32), none, .mov (T 8)⟩, ⟨(some 33), none, .int2 .eql (T 31) (T 32)⟩, ⟨(some 34), none, .mov (T 33)⟩, ⟨(some 35), (some (34, true)), .loadN 2 (T 5)⟩, ⟨(some 36), (some (34, true)), .build #[(0, 1), (1, 1)] [(.int .i64 (0)), (.int .i64 (0))] [] []⟩, ⟨(some 37), (some (34, true)), .bin .eql (.binOp .eql 39 (T 35) (T 36) 39) 4 (T 35) (T 36)⟩, ⟨(some 38), none, .pick (T 34) (T 37) (.const (.bool false))⟩, ⟨(some 39), none, .mov (T 38)⟩, ⟨(some 40), (some (39, true)), .call (.func 24) []⟩, ⟨(some 41), none, .pick (T 39) (T 40) (.const (.bool false))⟩, ⟨(some 4), none, .mov (T 41)⟩]) .ret) .skip)) (.seq (.ops [⟨(some 42), none, .loadN 7 (T 2)⟩, ⟨(some 43), none, .mov (T 7)⟩, ⟨(some 44), none, .mov (T 1)⟩, ⟨(some 45), none, .call (.func 45) [(T 42), (T 43), (T 44)]⟩, ⟨(some 9), none, .mov (T 45)⟩]) (.seq (.seq (.ops [⟨(some 46), none, .mov (T 9)⟩, ⟨(some 47), none, .len (T 46)⟩, ⟨(some 48), none, .int2 .eql (T 47) (.const (.int .i64 (0)))⟩]) (.cond (T 48) (.seq (.ops [⟨(some 49), none, .mov (T 6)⟩, ⟨(some 50), none, .int2 .eql (T 49) (.const (.int .i64 (10)))⟩, ⟨(some 51), none, .mov (T 50)⟩, ⟨(some 52), (some (51, true)), .loadN 2 (T 5)⟩, ⟨(some 53), (some (51, true)), .build #[(0, 1), (1, 1)] [(.int .i64 (0)), (.int .i64 (0))] [] []⟩, ⟨(some 54), (some (51, true)), .bin .eql (.binOp .eql 39 (T 52) (T 53) 39) 4 (T 52) (T 53)⟩, ⟨(some 55), none, .pick (T 51) (T 54) (.const (.bool false))⟩, ⟨(some 56), none, .mov (T 55)⟩, ⟨(some 57), (some (56, true)), .call (.func 24) []⟩, ⟨(some 58), none, .pick (T 56) (T 57) (.const (.bool false))⟩, ⟨(some 4), none, .mov (T 58)⟩]) .ret) .skip)) (.seq (.draw [⟨.free, ⟨(some 59), none, .mov (T 6)⟩⟩, ⟨.free, ⟨(some 60), none, .int2 .eql (T 59) (.const (.int .i64 (0)))⟩⟩, ⟨.free, ⟨(some 61), none, .mov (T 60)⟩⟩, ⟨.rd, ⟨(some 62), (some (61, true)), .loadN 2 (T 5)⟩⟩, ⟨.free, ⟨(some 63), (some (61, true)), .mov (T 9)⟩⟩, ⟨.free, ⟨(some 64), (some (61, true)), .idxSl 1 (T 63) (.const (.int .i64 (0)))⟩⟩, ⟨.rd1, ⟨(some 65), (some (61, true)), .load1 (T 64)⟩⟩, ⟨.free, ⟨(some 66), (some (61, true)), .mov (T 9)⟩⟩, ⟨.free, ⟨(some 67), (some (61, true)), .mov (T 9)⟩⟩, ⟨.free, ⟨(some 68), (some (61, true)), .len (T 67)⟩⟩, ⟨.free, ⟨(some 69), (some (61, true)), .int2 .sub (T 68) (.const (.int .i64 (1)))⟩⟩, ⟨.free, ⟨(some 70), (some (61, true)), .idxSl 1 (T 66) (T 69)⟩⟩, ⟨.rd1, ⟨(some 71), (some (61, true)), .load1 (T 70)⟩⟩, ⟨.up, ⟨(some 72), (some (61, true)), .call (.func 46) [(T 65), (T 71)]⟩⟩, ⟨.free, ⟨(some 73), (some (61, true)), .bin .eql (.binOp .eql 39 (T 62) (T 72) 39) 4 (T 62) (T 72)⟩⟩, ⟨.free, ⟨(some 74), none, .pick (T 61) (T 73) (.const (.bool false))⟩⟩, ⟨.free, ⟨(some 75), none, .mov (T 74)⟩⟩, ⟨.free, ⟨(some 76), (some (75, true)), .mov (T 9)⟩⟩, ⟨.free, ⟨(some 77), (some (75, true)), .len (T 76)⟩⟩, ⟨.free, ⟨(some 78), (some (75, true)), .fieldAddr 1 (T 5)⟩⟩, ⟨.rd1, ⟨(some 79), (some (75, true)), .load1 (T 78)⟩⟩, ⟨.free, ⟨(some 80), (some (75, true)), .fieldAddr 0 (T 5)⟩⟩, ⟨.rd1, ⟨(some 81), (some (75, true)), .load1 (T 80)⟩⟩, ⟨.free, ⟨(some 82), (some (75, true)), .int2 .sub (T 79) (T 81)⟩⟩, ⟨.free, ⟨(some 83), (some (75, true)), .int2 .add (T 82) (.const (.int .i64 (1)))⟩⟩, ⟨.free, ⟨(some 84), (some (75, true)), .int2 .eql (T 77) (T 83)⟩⟩, ⟨.free, ⟨(some 85), none, .pick (T 75) (T 84) (.const (.bool false))⟩⟩, ⟨.free, ⟨(some 86), none, .mov (T 85)⟩⟩, ⟨.any, ⟨(some 87), (some (86, true)), .call (.func 24) []⟩⟩, ⟨.free, ⟨(some 88), none, .pick (T 86) (T 87) (.const (.bool false))⟩⟩, ⟨.free, ⟨(some 4), none, .mov (T 88)⟩⟩]) .ret))))))))
end Go.Vm.St

namespace Go.Vm.St
open Go.Proofs Go.Vm.Vat
set_option linter.unusedSimpArgs false
set_option linter.unusedVariables false
set_option maxRecDepth 10000
variable {n : Nat} {h : AHeap}
def optI : Option Nat → Int → Int
  | some v, _ => (v : Int)
  | none, d => d
def s7 : SCode := (.seq (.ops [⟨(some 1), none, .box (T 0)⟩, ⟨(some 2), none, .mov (.const (.bool false))⟩]) (.seq (.seq (.ops [⟨(some 8), none, .loadN 7 (T 1)⟩, ⟨(some 9), none, .call (.func 23) [(T 8)]⟩, ⟨(some 10), none, .not (T 9)⟩]) (.cond (T 10) (.seq (.ops [⟨(some 11), none, .call (.func 24) []⟩, ⟨(some 2), none, .mov (T 11)⟩]) .ret) .skip)) (.seq (.ops [⟨(some 13), none, .loadN 7 (T 1)⟩, ⟨(some 14), none, .call (.func 26) [(T 13)]⟩, ⟨(some 15), none, .call (.func 47) [(T 14)]⟩, ⟨(some 12), none, .mov (T 15)⟩, ⟨(some 16), none, .extract 0 (T 12)⟩, ⟨(some 17), none, .extract 1 (T 12)⟩, ⟨(some 3), none, .mov (T 16)⟩, ⟨(some 4), none, .mov (T 17)⟩]) (.seq (.ops [⟨(some 19), none, .loadN 7 (T 1)⟩, ⟨(some 20), none, .call (.func 36) [(T 19), (.const (.bool true))]⟩, ⟨(some 18), none, .mov (T 20)⟩, ⟨(some 21), none, .extract 0 (T 18)⟩, ⟨(some 22), none, .extract 1 (T 18)⟩, ⟨(some 5), none, .mov (T 21)⟩, ⟨(some 6), none, .mov (T 22)⟩]) (.seq (.seq (.ops [⟨(some 23), none, .mov (T 6)⟩, ⟨(some 24), none, .int2 .neq (T 23) (.const (.int .i64 (0)))⟩]) (.cond (T 24) (.seq (.ops [⟨(some 25), none, .mov (T 4)⟩, ⟨(some 26), none, .mov (T 6)⟩, ⟨(some 27), none, .int2 .eql (T 25) (T 26)⟩, ⟨(some 28), none, .mov (T 27)⟩, ⟨(some 29), (some (28, true)), .mov (T 3)⟩, ⟨(some 30), (some (28, true)), .int2 .eql (T 29) (.const (.int .i64 (0)))⟩, ⟨(some 31), none, .pick (T 28) (T 30) (.const (.bool false))⟩, ⟨(some 32), none, .mov (T 31)⟩, ⟨(some 33), (some (32, true)), .call (.func 24) []⟩, ⟨(some 34), none, .pick (T 32) (T 33) (.const (.bool false))⟩, ⟨(some 2), none, .mov (T 34)⟩]) .ret) .skip)) (.seq (.seq (.ops [⟨(some 35), none, .loadN 7 (T 1)⟩, ⟨(some 36), none, .mov (T 5)⟩, ⟨(some 37), none, .call (.func 48) [(T 35), (T 36)]⟩, ⟨(some 7), none, .mov (T 37)⟩]) (.seq (.ops [⟨(some 38), none, .mov (T 7)⟩, ⟨(some 39), none, .int2 .geq (T 38) (.const (.int .i64 (0)))⟩]) (.cond (T 39) (.seq (.ops [⟨(some 40), none, .mov (T 4)⟩, ⟨(some 41), none, .int2 .eql (T 40) (.const (.int .i64 (0)))⟩, ⟨(some 42), none, .mov (T 41)⟩, ⟨(some 43), (some (42, true)), .mov (T 3)⟩, ⟨(some 44), (some (42, true)), .mov (T 7)⟩, ⟨(some 45), (some (42, true)), .int2 .eql (T 43) (T 44)⟩, ⟨(some 46), none, .pick (T 42) (T 45) (.const (.bool false))⟩, ⟨(some 47), none, .mov (T 46)⟩, ⟨(some 48), (some (47, true)), .call (.func 24) []⟩, ⟨(some 49), none, .pick (T 47) (T 48) (.const (.bool false))⟩, ⟨(some 2), none, .mov (T 49)⟩]) .ret) .skip))) (.seq (.ops [⟨(some 50), none, .mov (T 4)⟩, ⟨(some 51), none, .int2 .eql (T 50) (.const (.int .i64 (7)))⟩, ⟨(some 52), none, .mov (T 51)⟩, ⟨(some 53), (some (52, true)), .mov (T 3)⟩, ⟨(some 54), (some (52, true)), .int2 .eql (T 53) (.const (.int .i64 (0)))⟩, ⟨(some 55), none, .pick (T 52) (T 54) (.const (.bool false))⟩, ⟨(some 56), none, .mov (T 55)⟩, ⟨(some 57), (some (56, true)), .call (.func 24) []⟩, ⟨(some 58), none, .pick (T 56) (T 57) (.const (.bool false))⟩, ⟨(some 2), none, .mov (T 58)⟩]) .ret)))))))
end Go.Vm.St

namespace Go.Vm.St
open Go.Proofs Go.Vm.Vat
set_option linter.unusedSimpArgs false
set_option linter.unusedVariables false
set_option maxRecDepth 10000
variable {n : Nat} {h : AHeap}
/-- in how many truths a vat is of a kind after an hour -/
def cntS (S : MS) (v : Nat) (hh kk : Int) (L : List (Nat → Int)) : Nat := cntB (fun t => kindS S t v hh) L kk
/-- what a smell leaves -/
def lvS (S : MS) (v : Nat) (hh : Int) (L : List (Nat → Int)) : Int := max (max (cntS S v hh 0 L : Int) (cntS S v hh 1 L)) (cntS S v hh 2 L)
/-! ### The best smell -/
structure Sm where
  v : Int
  h : Int
  l : Int
end Go.Vm.St

namespace Go.Vm.St
open Go.Proofs Go.Vm.Vat
set_option linter.unusedSimpArgs false
set_option linter.unusedVariables false
set_option maxRecDepth 10000
variable {n : Nat} {h : AHeap}
def s8 : SCode := (.seq (.ops [⟨(some 1), none, .box (T 0)⟩, ⟨(some 2), none, .mov (.const (.bool false))⟩]) (.seq (.seq (.ops [⟨(some 12), none, .loadN 7 (T 1)⟩, ⟨(some 13), none, .call (.func 23) [(T 12)]⟩, ⟨(some 14), none, .not (T 13)⟩]) (.cond (T 14) (.seq (.ops [⟨(some 15), none, .call (.func 24) []⟩, ⟨(some 2), none, .mov (T 15)⟩]) .ret) .skip)) (.seq (.ops [⟨(some 17), none, .loadN 7 (T 1)⟩, ⟨(some 18), none, .call (.func 26) [(T 17)]⟩, ⟨(some 19), none, .call (.func 49) [(T 18)]⟩, ⟨(some 16), none, .mov (T 19)⟩, ⟨(some 20), none, .extract 0 (T 16)⟩, ⟨(some 21), none, .extract 1 (T 16)⟩, ⟨(some 22), none, .extract 2 (T 16)⟩, ⟨(some 23), none, .extract 3 (T 16)⟩, ⟨(some 3), none, .mov (T 20)⟩, ⟨(some 4), none, .mov (T 21)⟩, ⟨(some 5), none, .mov (T 22)⟩, ⟨(some 6), none, .mov (T 23)⟩]) (.seq (.ops [⟨(some 25), none, .loadN 7 (T 1)⟩, ⟨(some 26), none, .call (.func 36) [(T 25), (.const (.bool true))]⟩, ⟨(some 24), none, .mov (T 26)⟩, ⟨(some 27), none, .extract 0 (T 24)⟩, ⟨(some 28), none, .extract 1 (T 24)⟩, ⟨(some 7), none, .mov (T 27)⟩, ⟨(some 8), none, .mov (T 28)⟩]) (.seq (.seq (.ops [⟨(some 29), none, .mov (T 8)⟩, ⟨(some 30), none, .int2 .eql (T 29) (.const (.int .i64 (0)))⟩, ⟨(some 31), none, .mov (T 30)⟩, ⟨(some 32), (some (31, true)), .fieldAddr 5 (T 1)⟩, ⟨(some 33), (some (31, true)), .load1 (T 32)⟩, ⟨(some 34), (some (31, true)), .len (T 33)⟩, ⟨(some 35), (some (31, true)), .int2 .eql (T 34) (.const (.int .i64 (0)))⟩, ⟨(some 36), none, .pick (T 31) (T 35) (.const (.bool false))⟩]) (.cond (T 36) (.ops [⟨(some 8), none, .mov (.const (.int .i64 (7)))⟩]) .skip)) (.seq (.seq (.ops [⟨(some 37), none, .mov (T 8)⟩, ⟨(some 38), none, .int2 .neq (T 37) (.const (.int .i64 (0)))⟩]) (.cond (T 38) (.seq (.ops [⟨(some 39), none, .mov (T 6)⟩, ⟨(some 40), none, .mov (T 8)⟩, ⟨(some 41), none, .int2 .eql (T 39) (T 40)⟩, ⟨(some 42), none, .mov (T 41)⟩, ⟨(some 43), (some (42, true)), .mov (T 3)⟩, ⟨(some 44), (some (42, true)), .int2 .eql (T 43) (.const (.int .i64 (0)))⟩, ⟨(some 45), none, .pick (T 42) (T 44) (.const (.bool false))⟩, ⟨(some 46), none, .mov (T 45)⟩, ⟨(some 47), (some (46, true)), .mov (T 4)⟩, ⟨(some 48), (some (46, true)), .int2 .eql (T 47) (.const (.int .i64 (0)))⟩, ⟨(some 49), none, .pick (T 46) (T 48) (.const (.bool false))⟩, ⟨(some 50), none, .mov (T 49)⟩, ⟨(some 51), (some (50, true)), .mov (T 5)⟩, ⟨(some 52), (some (50, true)), .int2 .eql (T 51) (.const (.int .i64 (0)))⟩, ⟨(some 53), none, .pick (T 50) (T 52) (.const (.bool false))⟩, ⟨(some 54), none, .mov (T 53)⟩, ⟨(some 55), (some (54, true)), .call (.func 24) []⟩, ⟨(some 56), none, .pick (T 54) (T 55) (.const (.bool false))⟩, ⟨(some 2), none, .mov (T 56)⟩]) .ret) .skip)) (.seq (.ops [⟨(some 58), none, .loadN 7 (T 1)⟩, ⟨(some 59), none, .mov (T 7)⟩, ⟨(some 60), none, .call (.func 50) [(T 58), (T 59)]⟩, ⟨(some 57), none, .mov (T 60)⟩, ⟨(some 61), none, .extract 0 (T 57)⟩, ⟨(some 62), none, .extract 1 (T 57)⟩, ⟨(some 63), none, .extract 2 (T 57)⟩, ⟨(some 9), none, .mov (T 61)⟩, ⟨(some 10), none, .mov (T 62)⟩, ⟨(some 11), none, .mov (T 63)⟩]) (.seq (.ops [⟨(some 64), none, .mov (T 6)⟩, ⟨(some 65), none, .int2 .eql (T 64) (.const (.int .i64 (0)))⟩, ⟨(some 66), none, .mov (T 65)⟩, ⟨(some 67), (some (66, true)), .mov (T 3)⟩, ⟨(some 68), (some (66, true)), .mov (T 9)⟩, ⟨(some 69), (some (66, true)), .int2 .eql (T 67) (T 68)⟩, ⟨(some 70), none, .pick (T 66) (T 69) (.const (.bool false))⟩, ⟨(some 71), none, .mov (T 70)⟩, ⟨(some 72), (some (71, true)), .mov (T 4)⟩, ⟨(some 73), (some (71, true)), .mov (T 10)⟩, ⟨(some 74), (some (71, true)), .int2 .eql (T 72) (T 73)⟩, ⟨(some 75), none, .pick (T 71) (T 74) (.const (.bool false))⟩, ⟨(some 76), none, .mov (T 75)⟩, ⟨(some 77), (some (76, true)), .mov (T 5)⟩, ⟨(some 78), (some (76, true)), .mov (T 11)⟩, ⟨(some 79), (some (76, true)), .int2 .eql (T 77) (T 78)⟩, ⟨(some 80), none, .pick (T 76) (T 79) (.const (.bool false))⟩, ⟨(some 81), none, .mov (T 80)⟩, ⟨(some 82), (some (81, true)), .call (.func 24) []⟩, ⟨(some 83), none, .pick (T 81) (T 82) (.const (.bool false))⟩, ⟨(some 2), none, .mov (T 83)⟩]) .ret))))))))
end Go.Vm.St

namespace Go.Vm.St
open Go.Proofs Go.Vm.Vat
set_option linter.unusedSimpArgs false
set_option linter.unusedVariables false
set_option maxRecDepth 10000
variable {n : Nat} {h : AHeap}
/-! ### The laws' good hours, and whether they stay -/
noncomputable def gL (S : MS) (w : Int) : Int := if goodE S w = 10 then 9 else goodLo S w
noncomputable def gH (S : MS) (w : Int) : Int := if goodE S w = 10 then 0 else goodHi S w
noncomputable def gB (S : MS) (w : Int) : Bool := decide (goodE S w = 10 ∨ goodE S w = 0 ∧ goodLo S w ≤ goodHi S w)
theorem rd_1' {S : Nat → Prop} {f : Go.Vm.Fr} {x : Operand} : readsIn S f (.load1 x) = ∀ ad, val f x = .pointer (some ad) → S ad.block := id rfl
def s61 : SCode := (.seq (.ops [⟨(some 2), none, .box (T 0)⟩, ⟨(some 4), none, .alloc [(.int .i64 (0)), (.int .i64 (0))]⟩, ⟨(some 5), none, .mov (.const (.bool false))⟩]) (.seq (.ops [⟨(some 9), none, .loadN 7 (T 2)⟩, ⟨(some 10), none, .call (.func 26) [(T 9)]⟩, ⟨(some 11), none, .mov (T 1)⟩, ⟨(some 12), none, .call (.func 44) [(T 10), (T 11)]⟩, ⟨(some 8), none, .mov (T 12)⟩, ⟨(some 13), none, .extract 0 (T 8)⟩, ⟨(some 14), none, .extract 1 (T 8)⟩, ⟨(some 6), none, .alloc [(.int .i64 (0)), (.int .i64 (0))]⟩, ⟨none, none, .store 2 (T 6) (T 13)⟩, ⟨(some 7), none, .mov (T 14)⟩]) (.seq (.seq (.ops [⟨(some 15), none, .mov (T 7)⟩, ⟨(some 16), none, .int2 .eql (T 15) (.const (.int .i64 (10)))⟩]) (.cond (T 16) (.seq (.ops [⟨(some 17), none, .call (.func 46) [(.const (.int .i64 (9))), (.const (.int .i64 (0)))]⟩, ⟨none, none, .store 2 (T 4) (T 17)⟩, ⟨(some 5), none, .mov (.const (.bool true))⟩]) .ret) .skip)) (.seq (.draw [⟨.rd1, ⟨(some 18), none, .loadN 2 (T 6)⟩⟩, ⟨.free, ⟨(some 19), none, .mov (T 7)⟩⟩, ⟨.free, ⟨(some 20), none, .int2 .eql (T 19) (.const (.int .i64 (0)))⟩⟩, ⟨.free, ⟨(some 21), none, .mov (T 20)⟩⟩, ⟨.free, ⟨(some 22), (some (21, true)), .fieldAddr 0 (T 6)⟩⟩, ⟨.rd, ⟨(some 23), (some (21, true)), .load1 (T 22)⟩⟩, ⟨.free, ⟨(some 24), (some (21, true)), .fieldAddr 1 (T 6)⟩⟩, ⟨.rd, ⟨(some 25), (some (21, true)), .load1 (T 24)⟩⟩, ⟨.free, ⟨(some 26), (some (21, true)), .int2 .leq (T 23) (T 25)⟩⟩, ⟨.free, ⟨(some 27), none, .pick (T 21) (T 26) (.const (.bool false))⟩⟩, ⟨.up, ⟨none, none, .store 2 (T 4) (T 18)⟩⟩, ⟨.free, ⟨(some 5), none, .mov (T 27)⟩⟩]) .ret))))
theorem fok61 : FnOk Try.prog 61 28 s61 [.cellN 4 2, .tmp 5] := ⟨Try.f61, _, Try.func61, rfl, Try.ntmps61, by kernel_rfl, by kernel_rfl⟩
set_option maxHeartbeats 2000000 in
theorem goodW_c (hn : 2600 ≤ n) (hr : h.next + 2000000 < far) {wv vv sv : Value} {S : MS} (hy : SteepR h wv vv sv S) (hT : ThinS S) (w : Int) :
    call n (.func (.func 61) #[] #[]) [.agg ⟨stL S wv vv sv⟩, .int .i64 w] h = some (.tuple ⟨[.agg ⟨[.int .i64 (gL S w), .int .i64 (gH S w)]⟩, .bool (gB S w)]⟩, h) := by
  obtain ⟨n, rfl⟩ : ∃ p, n = p + 1 := ⟨n - 1, by omega⟩
  refine call_plain0 fok61 rfl rfl (by simp) rfl ?_
  have hy := hy.shut
  have hr : h.shutAll.next + 2000000 < far := hr
  have hfl : h.shutAll.floor ≤ h.shutAll.next := Nat.le_refl _
  generalize h.shutAll = h at hy hr hfl
  simp only [s61, W_seq, W_ops]
  refine ops_box (cs := stL S wv vv sv) (by omega) rfl hy.one fun g1 hx1 => ?_
  have n1 := hx1.next
  have f1 := hx1.floor
  refine ops_alloc (cs := [.int .i64 0, .int .i64 0]) (by omega) rfl fun g2 hx2 => ?_
  have n2 := hx2.next
  have f2 := hx2.floor
  have sub2 : Sub All h g2 := hx1.sub.trans hx2.sub
  have hy2 := hy.mono sub2
  have w2 := (hx1.row.mono hx2.sub).whole (n := 7) rfl
  obtain ⟨w3, v3, s3, g3, e3, hy3, o3, u3, m3, f3⟩ := steepL_c (n := n) (h := g2) (by omega) (by omega) (by omega) hy2 hT
  have eg := goodP_c (n := n) (h := g3) (by omega) (by omega) hy3 hT w
  have q3 : g3.get g1.next = some (.row [.int .i64 0, .int .i64 0] true 0) := by rw [o3 _ (by omega)]; exact hx2.get
  simp only [rn0, rn1, rn2, rn3, rn4, rn5, rn6, rn7, rn8, if_true, if_false, Nat.le_refl, true_and, and_true, decide_true, decide_false, Bool.not_true, Bool.not_false, reduceIte, Nat.reduceEqDiff, Nat.reduceAdd, Nat.reduceMul, Nat.reduceSub, Nat.reduceLeDiff, Nat.reduceLT, w2, e3, eg, ex0, ex1]
  refine step_new (vs := [.int .i64 (goodLo S w), .int .i64 (goodHi S w)]) (by omega) (by omega) rfl (by simp only [rn0, rn1, rn2, rn3, rn4, rn5, rn6, rn7, rn8, if_true, if_false, Nat.le_refl, true_and, and_true, decide_true, decide_false, Bool.not_true, Bool.not_false, reduceIte, Nat.reduceEqDiff, Nat.reduceAdd, Nat.reduceMul, Nat.reduceSub, Nat.reduceLeDiff, Nat.reduceLT]; rfl) rfl rfl rfl fun g4 hx4 => ?_
  have n4 := hx4.next
  have f4 := hx4.floor
  have q4 : g4.get g1.next = some (.row [.int .i64 0, .int .i64 0] true 0) := by rw [hx4.old _ (by omega)]; exact q3
  by_cases c : goodE S w = 10
  · have e1 : gL S w = 9 := if_pos c
    have e2 : gH S w = 0 := if_pos c
    have e3 : gB S w = true := decide_eq_true (.inl c)
    rw [e1, e2, e3]
    have eb := between_c (n := n) (h := g4) (by omega) (by omega) 9 0
    simp only [rn0, rn1, rn2, rn3, rn4, rn5, rn6, rn7, rn8, if_true, if_false, Nat.le_refl, true_and, and_true, decide_true, decide_false, Bool.not_true, Bool.not_false, reduceIte, Nat.reduceEqDiff, Nat.reduceAdd, Nat.reduceMul, Nat.reduceSub, Nat.reduceLeDiff, Nat.reduceLT, c, eb]
    refine step_store (b := g1.next) (off := 0) (vs := [.int .i64 9, .int .i64 0]) rfl q4 (by omega) (by omega) rfl rfl rfl (by simp) fun g5 hs5 => ?_
    rw [splice_all (by rfl)] at hs5
    simp only [rn0, rn1, rn2, rn3, rn4, rn5, rn6, rn7, rn8, if_true, if_false, Nat.le_refl, true_and, and_true, decide_true, decide_false, Bool.not_true, Bool.not_false, reduceIte, Nat.reduceEqDiff, Nat.reduceAdd, Nat.reduceMul, Nat.reduceSub, Nat.reduceLeDiff, Nat.reduceLT, res_two, hs5.row.whole (n := 2) rfl]
  · have e1 : gL S w = goodLo S w := if_neg c
    have e2 : gH S w = goodHi S w := if_neg c
    have nb : (g3.next = g1.next) = False := eq_false (by omega)
    have t4 := hx4.row
    rw [e1, e2]
    by_cases c0 : goodE S w = 0
    · have e3 : gB S w = decide (goodLo S w ≤ goodHi S w) := by
        unfold gB
        exact decide_eq_decide.2 ⟨fun q => q.elim (fun q => absurd q c) fun q => q.2, fun q => .inr ⟨c0, q⟩⟩
      rw [e3]
      have z10 : ¬ (0 : Int) = 10 := by decide
      simp only [rn0, rn1, rn2, rn3, rn4, rn5, rn6, rn7, rn8, if_true, if_false, Nat.le_refl, true_and, and_true, decide_true, decide_false, Bool.not_true, Bool.not_false, reduceIte, Nat.reduceEqDiff, Nat.reduceAdd, Nat.reduceMul, Nat.reduceSub, Nat.reduceLeDiff, Nat.reduceLT, c0, z10]
      refine W_draw (fun i => i ≠ g1.next) ?_
      simp only [rn0, rn1, rn2, rn3, rn4, rn5, rn6, rn7, rn8, if_true, if_false, Nat.le_refl, true_and, and_true, decide_true, decide_false, Bool.not_true, Bool.not_false, reduceIte, Nat.reduceEqDiff, Nat.reduceAdd, Nat.reduceMul, Nat.reduceSub, Nat.reduceLeDiff, Nat.reduceLT, rd_1', rd_N, rd_ne, t4.whole (n := 2) rfl, t4.ld, Nat.zero_add, List.getElem?_cons_zero, List.getElem?_cons_succ, d_guard, dg_tt, dg_tf, dg_ft, dg_ff, ne_eq, nb, not_false_eq_true]
      refine up_store (b := g1.next) (off := 0) (vs := [.int .i64 (goodLo S w), .int .i64 (goodHi S w)]) rfl q4 (by omega) (by omega) rfl rfl rfl (by simp) (fun g hs => fun i cs w gr hi hg => by rw [hs.old i hi]; exact hg) fun g5 hs5 => ?_
      rw [splice_all (by rfl)] at hs5
      simp only [rn0, rn1, rn2, rn3, rn4, rn5, rn6, rn7, rn8, if_true, if_false, Nat.le_refl, true_and, and_true, decide_true, decide_false, Bool.not_true, Bool.not_false, reduceIte, Nat.reduceEqDiff, Nat.reduceAdd, Nat.reduceMul, Nat.reduceSub, Nat.reduceLeDiff, Nat.reduceLT, res_two, hs5.row.whole (n := 2) rfl]
    · have e3 : gB S w = false := decide_eq_false fun q => q.elim (fun q => c q) fun q => c0 q.1
      rw [e3]
      simp only [rn0, rn1, rn2, rn3, rn4, rn5, rn6, rn7, rn8, if_true, if_false, Nat.le_refl, true_and, and_true, decide_true, decide_false, Bool.not_true, Bool.not_false, reduceIte, Nat.reduceEqDiff, Nat.reduceAdd, Nat.reduceMul, Nat.reduceSub, Nat.reduceLeDiff, Nat.reduceLT, c]
      refine W_draw (fun i => i ≠ g1.next) ?_
      simp only [rn0, rn1, rn2, rn3, rn4, rn5, rn6, rn7, rn8, if_true, if_false, Nat.le_refl, true_and, and_true, decide_true, decide_false, Bool.not_true, Bool.not_false, reduceIte, Nat.reduceEqDiff, Nat.reduceAdd, Nat.reduceMul, Nat.reduceSub, Nat.reduceLeDiff, Nat.reduceLT, rd_1', rd_N, rd_ne, t4.whole (n := 2) rfl, t4.ld, Nat.zero_add, List.getElem?_cons_zero, List.getElem?_cons_succ, d_guard, dg_tt, dg_tf, dg_ft, dg_ff, ne_eq, nb, not_false_eq_true, c0]
      refine up_store (b := g1.next) (off := 0) (vs := [.int .i64 (goodLo S w), .int .i64 (goodHi S w)]) rfl q4 (by omega) (by omega) rfl rfl rfl (by simp) (fun g hs => fun i cs w gr hi hg => by rw [hs.old i hi]; exact hg) fun g5 hs5 => ?_
      rw [splice_all (by rfl)] at hs5
      simp only [rn0, rn1, rn2, rn3, rn4, rn5, rn6, rn7, rn8, if_true, if_false, Nat.le_refl, true_and, and_true, decide_true, decide_false, Bool.not_true, Bool.not_false, reduceIte, Nat.reduceEqDiff, Nat.reduceAdd, Nat.reduceMul, Nat.reduceSub, Nat.reduceLeDiff, Nat.reduceLT, res_two, hs5.row.whole (n := 2) rfl]
theorem g_un {X : Cx} {d : Option Nat} {want : Bool} {op : SOp} {L : List SI} {Q : WPost} {f : Go.Vm.Fr} {m : List Nat} : gW X undef want d op L Q f h m = opsW X L Q (putF f d undef) h m := by
  have : isB want undef = false := rfl
  simp [gW, this]
noncomputable def stayB (S X : MS) (w : Int) : Bool := gB S w && (gB X w && (decide (gH S w < gL S w) || (decide (gL X w ≤ gL S w) && decide (gH S w ≤ gH X w))))
def s67 : SCode := (.seq (.ops [⟨(some 3), none, .box (T 0)⟩, ⟨(some 4), none, .box (T 1)⟩, ⟨(some 6), none, .mov (.const (.bool false))⟩]) (.seq (.ops [⟨(some 12), none, .loadN 7 (T 3)⟩, ⟨(some 13), none, .mov (T 2)⟩, ⟨(some 14), none, .call (.func 61) [(T 12), (T 13)]⟩, ⟨(some 11), none, .mov (T 14)⟩, ⟨(some 15), none, .extract 0 (T 11)⟩, ⟨(some 16), none, .extract 1 (T 11)⟩, ⟨(some 7), none, .alloc [(.int .i64 (0)), (.int .i64 (0))]⟩, ⟨none, none, .store 2 (T 7) (T 15)⟩, ⟨(some 8), none, .mov (T 16)⟩]) (.seq (.ops [⟨(some 18), none, .loadN 7 (T 4)⟩, ⟨(some 19), none, .mov (T 2)⟩, ⟨(some 20), none, .call (.func 61) [(T 18), (T 19)]⟩, ⟨(some 17), none, .mov (T 20)⟩, ⟨(some 21), none, .extract 0 (T 17)⟩, ⟨(some 22), none, .extract 1 (T 17)⟩, ⟨(some 9), none, .alloc [(.int .i64 (0)), (.int .i64 (0))]⟩, ⟨none, none, .store 2 (T 9) (T 21)⟩, ⟨(some 10), none, .mov (T 22)⟩]) (.seq (.ops [⟨(some 23), none, .mov (T 8)⟩, ⟨(some 24), none, .mov (T 23)⟩, ⟨(some 25), (some (24, true)), .mov (T 10)⟩, ⟨(some 26), none, .pick (T 24) (T 25) (.const (.bool false))⟩, ⟨(some 27), none, .mov (T 26)⟩, ⟨(some 28), (some (27, true)), .fieldAddr 0 (T 7)⟩, ⟨(some 29), (some (27, true)), .load1 (T 28)⟩, ⟨(some 30), (some (27, true)), .fieldAddr 1 (T 7)⟩, ⟨(some 31), (some (27, true)), .load1 (T 30)⟩, ⟨(some 32), (some (27, true)), .int2 .gtr (T 29) (T 31)⟩, ⟨(some 33), (some (27, true)), .mov (T 32)⟩, ⟨(some 34), (some (33, false)), .fieldAddr 0 (T 7)⟩, ⟨(some 35), (some (33, false)), .load1 (T 34)⟩, ⟨(some 36), (some (33, false)), .fieldAddr 0 (T 9)⟩, ⟨(some 37), (some (33, false)), .load1 (T 36)⟩, ⟨(some 38), (some (33, false)), .int2 .geq (T 35) (T 37)⟩, ⟨(some 39), (some (33, false)), .mov (T 38)⟩, ⟨(some 40), (some (39, true)), .fieldAddr 1 (T 7)⟩, ⟨(some 41), (some (39, true)), .load1 (T 40)⟩, ⟨(some 42), (some (39, true)), .fieldAddr 1 (T 9)⟩, ⟨(some 43), (some (39, true)), .load1 (T 42)⟩, ⟨(some 44), (some (39, true)), .int2 .leq (T 41) (T 43)⟩, ⟨(some 45), (some (33, false)), .pick (T 39) (T 44) (.const (.bool false))⟩, ⟨(some 46), (some (27, true)), .pick (T 33) (.const (.bool true)) (T 45)⟩, ⟨(some 47), none, .pick (T 27) (T 46) (.const (.bool false))⟩, ⟨(some 6), none, .mov (T 47)⟩]) .ret))))
theorem fok67 : FnOk Try.prog 67 48 s67 [.tmp 6] := ⟨Try.f67, _, Try.func67, rfl, Try.ntmps67, by kernel_rfl, by kernel_rfl⟩
set_option maxHeartbeats 2000000 in
theorem stay_c (hn : 2700 ≤ n) (hr : h.next + 2100000 < far) {wv vv sv wv' vv' sv' : Value} {S X : MS} (hy : SteepR h wv vv sv S) (hT : ThinS S) (hx : SteepR h wv' vv' sv' X) (hT' : ThinS X) (w : Int) :
    call n (.func (.func 67) #[] #[]) [.agg ⟨stL S wv vv sv⟩, .agg ⟨stL X wv' vv' sv'⟩, .int .i64 w] h = some (.bool (stayB S X w), h) := by
  obtain ⟨n, rfl⟩ : ∃ p, n = p + 1 := ⟨n - 1, by omega⟩
  refine call_plain0 fok67 rfl rfl (by simp) rfl ?_
  have hy := hy.shut
  have hx := hx.shut
  have hr : h.shutAll.next + 2100000 < far := hr
  have hfl : h.shutAll.floor ≤ h.shutAll.next := Nat.le_refl _
  generalize h.shutAll = h at hy hx hr hfl
  simp only [s67, W_seq, W_ops]
  refine ops_box (cs := stL S wv vv sv) (by omega) rfl hy.one fun g1 hx1 => ?_
  have n1 := hx1.next
  have f1 := hx1.floor
  refine ops_box (cs := stL X wv' vv' sv') (by omega) rfl hx.one fun g2 hx2 => ?_
  have n2 := hx2.next
  have f2 := hx2.floor
  have sub2 : Sub All h g2 := hx1.sub.trans hx2.sub
  have eg := goodW_c (n := n) (h := g2) (by omega) (by omega) (hy.mono sub2) hT w
  simp only [rn0, rn1, rn2, rn3, rn4, rn5, rn6, rn7, rn8, if_true, if_false, Nat.le_refl, true_and, and_true, decide_true, decide_false, Bool.not_true, Bool.not_false, reduceIte, Nat.reduceEqDiff, Nat.reduceAdd, Nat.reduceMul, Nat.reduceSub, Nat.reduceLeDiff, Nat.reduceLT, (hx1.row.mono hx2.sub).whole (n := 7) rfl, eg, ex0, ex1]
  refine step_new (vs := [.int .i64 (gL S w), .int .i64 (gH S w)]) (by omega) (by omega) rfl (by simp only [rn0, rn1, rn2, rn3, rn4, rn5, rn6, rn7, rn8, if_true, if_false, Nat.le_refl, true_and, and_true, decide_true, decide_false, Bool.not_true, Bool.not_false, reduceIte, Nat.reduceEqDiff, Nat.reduceAdd, Nat.reduceMul, Nat.reduceSub, Nat.reduceLeDiff, Nat.reduceLT]; rfl) rfl rfl rfl fun g3 hx3 => ?_
  have n3 := hx3.next
  have f3 := hx3.floor
  have sub3 := sub2.trans hx3.sub
  have eg3 := goodW_c (n := n) (h := g3) (by omega) (by omega) (hx.mono sub3) hT' w
  simp only [rn0, rn1, rn2, rn3, rn4, rn5, rn6, rn7, rn8, if_true, if_false, Nat.le_refl, true_and, and_true, decide_true, decide_false, Bool.not_true, Bool.not_false, reduceIte, Nat.reduceEqDiff, Nat.reduceAdd, Nat.reduceMul, Nat.reduceSub, Nat.reduceLeDiff, Nat.reduceLT, (hx2.row.mono hx3.sub).whole (n := 7) rfl, eg3, ex0, ex1]
  refine step_new (vs := [.int .i64 (gL X w), .int .i64 (gH X w)]) (by omega) (by omega) rfl (by simp only [rn0, rn1, rn2, rn3, rn4, rn5, rn6, rn7, rn8, if_true, if_false, Nat.le_refl, true_and, and_true, decide_true, decide_false, Bool.not_true, Bool.not_false, reduceIte, Nat.reduceEqDiff, Nat.reduceAdd, Nat.reduceMul, Nat.reduceSub, Nat.reduceLeDiff, Nat.reduceLT]; rfl) rfl rfl rfl fun g4 hx4 => ?_
  have ta := hx3.row.mono hx4.sub
  have tb := hx4.row
  unfold stayB
  generalize gL S w = aL at *
  generalize gH S w = aH at *
  generalize gL X w = bL at *
  generalize gH X w = bH at *
  cases gB S w with
  | false => simp only [rn0, rn1, rn2, rn3, rn4, rn5, rn6, rn7, rn8, if_true, if_false, Nat.le_refl, true_and, and_true, decide_true, decide_false, Bool.not_true, Bool.not_false, reduceIte, Nat.reduceEqDiff, Nat.reduceAdd, Nat.reduceMul, Nat.reduceSub, Nat.reduceLeDiff, Nat.reduceLT, Bool.false_and, g_un]
  | true =>
    cases gB X w with
    | false => simp only [rn0, rn1, rn2, rn3, rn4, rn5, rn6, rn7, rn8, if_true, if_false, Nat.le_refl, true_and, and_true, decide_true, decide_false, Bool.not_true, Bool.not_false, reduceIte, Nat.reduceEqDiff, Nat.reduceAdd, Nat.reduceMul, Nat.reduceSub, Nat.reduceLeDiff, Nat.reduceLT, Bool.false_and, Bool.and_false, g_un]
    | true =>
      by_cases c1 : aH < aL
      · simp only [rn0, rn1, rn2, rn3, rn4, rn5, rn6, rn7, rn8, if_true, if_false, Nat.le_refl, true_and, and_true, decide_true, decide_false, Bool.not_true, Bool.not_false, reduceIte, Nat.reduceEqDiff, Nat.reduceAdd, Nat.reduceMul, Nat.reduceSub, Nat.reduceLeDiff, Nat.reduceLT, ta.ld, tb.ld, Nat.zero_add, List.getElem?_cons_zero, List.getElem?_cons_succ, g_un, c1, Bool.true_and, Bool.true_or]
      · by_cases c2 : bL ≤ aL
        · simp only [rn0, rn1, rn2, rn3, rn4, rn5, rn6, rn7, rn8, if_true, if_false, Nat.le_refl, true_and, and_true, decide_true, decide_false, Bool.not_true, Bool.not_false, reduceIte, Nat.reduceEqDiff, Nat.reduceAdd, Nat.reduceMul, Nat.reduceSub, Nat.reduceLeDiff, Nat.reduceLT, ta.ld, tb.ld, Nat.zero_add, List.getElem?_cons_zero, List.getElem?_cons_succ, g_un, c1, c2, Bool.true_and, Bool.false_or]
        · simp only [rn0, rn1, rn2, rn3, rn4, rn5, rn6, rn7, rn8, if_true, if_false, Nat.le_refl, true_and, and_true, decide_true, decide_false, Bool.not_true, Bool.not_false, reduceIte, Nat.reduceEqDiff, Nat.reduceAdd, Nat.reduceMul, Nat.reduceSub, Nat.reduceLeDiff, Nat.reduceLT, ta.ld, tb.ld, Nat.zero_add, List.getElem?_cons_zero, List.getElem?_cons_succ, g_un, c1, c2, Bool.true_and, Bool.false_or, Bool.false_and]
theorem gAll_nil {S : MS} {v : Nat} : gAll S v = [] ↔ ∀ x, x < hoursN S v → ¬ verdS S v (S.vb v + (x : Int)) 1 (truthsS S) = 1 := by
  constructor
  · intro e x hx hp
    obtain ⟨i, i1, _⟩ := pick_has (p := fun i => verdS S v (S.vb v + (i : Int)) 1 (truthsS S) = 1) hx hp
    have i1 : i < (gAll S v).length := i1
    rw [e] at i1
    exact absurd i1 (Nat.not_lt_zero _)
  · intro hn
    apply Classical.byContradiction
    intro he
    have hpos : 0 < (gAll S v).length := List.length_pos_iff.2 he
    obtain ⟨j, j1, _, j3⟩ := pick_at (p := fun i => verdS S v (S.vb v + (i : Int)) 1 (truthsS S) = 1) (k := hoursN S v) (i := 0) hpos
    exact hn j j1 j3
/-- good hours stay good -/
theorem stay_of {S X : MS} (hG : Good S) (hX : Good X) {w : Nat} (hw : w < S.nv) (hw' : w < X.nv) (hz : truthsS S ≠ []) (hz' : truthsS X ≠ []) (hb : X.vb w = S.vb w) (hl : hoursN X w = hoursN S w)
    (hs : ∀ x : Nat, x < hoursN S w → verdS S w (S.vb w + (x : Int)) 1 (truthsS S) = 1 → verdS X w (S.vb w + (x : Int)) 1 (truthsS X) = 1) : stayB S X (w : Int) = true := by
  have hv : InV S (w : Int) := by unfold InV; omega
  have hv' : InV X (w : Int) := by unfold InV; omega
  obtain ⟨a1, a2, a3⟩ := good_ok (errV_4 (fault_of hG) hv hz)
  obtain ⟨b1, b2, b3⟩ := good_ok (errV_4 (fault_of hX) hv' hz')
  simp only [Int.toNat_natCast] at a1 a2 a3 b1 b2 b3
  have z10 : ¬ (0 : Int) = 10 := by decide
  have hB : ∀ {Y : MS}, Good Y → w < Y.nv → truthsS Y ≠ [] → gB Y (w : Int) = true := fun {Y} hY hwY hzY => by
    obtain ⟨a1, a2, a3⟩ := good_ok (S := Y) (at_ := (w : Int)) (errV_4 (fault_of hY) (by unfold InV; omega) hzY)
    simp only [Int.toNat_natCast] at a1 a2 a3
    refine decide_eq_true ?_
    by_cases c : gAll Y w = []
    · left; rw [a1, if_pos c]
    · right
      obtain ⟨a, l1, l2, l3, l4, _⟩ := gAll_run hY hwY hzY c
      rw [a1, if_neg c, a2, a3, l3, l4]
      exact ⟨rfl, by omega⟩
  unfold stayB
  rw [hB hG hw hz, hB hX hw' hz', Bool.true_and, Bool.true_and]
  by_cases c : gAll S w = []
  · have e : goodE S (w : Int) = 10 := by rw [a1, if_pos c]
    have e1 : gL S (w : Int) = 9 := if_pos e
    have e2 : gH S (w : Int) = 0 := if_pos e
    rw [e1, e2]
    rfl
  · obtain ⟨a, l1, l2, l3, l4, l5⟩ := gAll_run hG hw hz c
    have e : ¬ goodE S (w : Int) = 10 := by rw [a1, if_neg c]; exact z10
    have e1 : gL S (w : Int) = S.vb w + (a : Int) := by unfold gL; rw [if_neg e, a2, l3]
    have e2 : gH S (w : Int) = S.vb w + ((a + (gAll S w).length - 1 : Nat) : Int) := by unfold gH; rw [if_neg e, a3, l4]
    have x1 := hs a (by omega) ((l5 a (by omega)).2 ⟨Nat.le_refl _, by omega⟩)
    have x2 := hs (a + (gAll S w).length - 1) (by omega) ((l5 _ (by omega)).2 ⟨by omega, by omega⟩)
    have c' : gAll X w ≠ [] := fun q => gAll_nil.1 q a (by omega) (by rw [hb]; exact x1)
    obtain ⟨a', m1, m2, m3, m4, m5⟩ := gAll_run hX hw' hz' c'
    have y1 := (m5 a (by omega)).1 (by rw [hb]; exact x1)
    have y2 := (m5 (a + (gAll S w).length - 1) (by omega)).1 (by rw [hb]; exact x2)
    have e' : ¬ goodE X (w : Int) = 10 := by rw [b1, if_neg c']; exact z10
    have f1 : gL X (w : Int) = S.vb w + (a' : Int) := by unfold gL; rw [if_neg e', b2, m3, hb]
    have f2 : gH X (w : Int) = S.vb w + ((a' + (gAll X w).length - 1 : Nat) : Int) := by unfold gH; rw [if_neg e', b3, m4, hb]
    rw [e1, e2, f1, f2]
    have d2 : decide (S.vb w + (a' : Int) ≤ S.vb w + (a : Int)) = true := decide_eq_true (by omega)
    have d3 : decide (S.vb w + ((a + (gAll S w).length - 1 : Nat) : Int) ≤ S.vb w + ((a' + (gAll X w).length - 1 : Nat) : Int)) = true := decide_eq_true (by omega)
    rw [d2, d3, Bool.true_and, Bool.or_true]
end Go.Vm.St

namespace Go.Vm.St
open Go.Proofs Go.Vm.Vat
set_option linter.unusedSimpArgs false
set_option linter.unusedVariables false
set_option maxRecDepth 10000
variable {n : Nat} {h : AHeap}
theorem vats_row {S : MS} {b gr cap : Nat} {w : Bool} (hg : h.get b = some (.row (flatL 4 S.nv (vatC S)) w gr)) : Cells h (.slice (some ⟨b, 0, none⟩) S.nv cap) 4 S.nv (vatC S) := cells_row ⟨w, gr, hg⟩ fun k j hk hj => flatL_get (c := vatC S) hk hj
end Go.Vm.St

namespace Go.Vm.St
open Go.Proofs Go.Vm.Vat
set_option linter.unusedSimpArgs false
set_option linter.unusedVariables false
set_option maxRecDepth 10000
variable {n : Nat} {h : AHeap}
/-- two branches with the same end -/
theorem cond2_merge {X : Cx} {p : Bool} {A B : SCode} {K : Go.Vm.Fr → AHeap → List Nat → Prop} {Q : WPost} {f : Go.Vm.Fr} {m : List Nat} (R : Go.Vm.Fr → AHeap → List Nat → Prop) (h1 : p = true → W X A (thenQ R Q) f h m) (h2 : p = false → W X B (thenQ R Q) f h m) (h3 : ∀ f h m, R f h m → K f h m) :
    condW X (.bool p) A B (thenQ K Q) f h m := by
  cases p with
  | true =>
    rw [cond_true']
    refine W_mono A _ _ (fun e f h m hq => ?_) f h m (h1 rfl)
    cases e with
    | norm => exact h3 _ _ _ hq
    | exit i => exact hq
    | ret => exact hq
  | false =>
    rw [cond_false']
    refine W_mono B _ _ (fun e f h m hq => ?_) f h m (h2 rfl)
    cases e with
    | norm => exact h3 _ _ _ hq
    | exit i => exact hq
    | ret => exact hq
/-- a guard that was not set -/
theorem dg_un {X : Cx} {S : Nat → Prop} {h0 h : AHeap} {k : Kd} {d : Option Nat} {want : Bool} {op : SOp} {L : List DI} {Q : WPost} {f : Go.Vm.Fr} {m : List Nat} : dgW X S h0 undef want k d op L Q f h m = dW X S h0 L Q (putF f d undef) h m := by
  have : isB want undef = false := rfl
  simp [dgW, this]
theorem rowI_congr {m : Nat} {a b : Nat → Int} (he : ∀ i, i < m → a i = b i) : rowI m a = rowI m b := by
  unfold rowI
  refine List.map_congr_left fun i hi => ?_
  rw [he i (List.mem_range.1 hi)]
/-- the truth that is changed, as it lies in memory -/
structure WarmM (g : AHeap) (S : MS) (p b1 b2 c1 : Nat) (v2 : Value) (u : Nat → Int) : Prop where
  row : g.get p = some (.row (trL (.slice (some ⟨b1, 0, none⟩) S.nw c1) v2 (u S.nw)) true 0)
  w : g.get b1 = some (.row (rowI S.nw u) true 1)
  f : S.nv = 0 ∨ ∃ c2, v2 = .slice (some ⟨b2, 0, none⟩) S.nv c2 ∧ g.get b2 = some (.row (rowI S.nv fun v => u (S.nw + 1 + v)) true 1)
theorem WarmM.congr {g : AHeap} {S : MS} {p b1 b2 c1 : Nat} {v2 : Value} {u u' : Nat → Int} (hm : WarmM g S p b1 b2 c1 v2 u) (he : ∀ i, i < numU S → u i = u' i) : WarmM g S p b1 b2 c1 v2 u' := by
  refine ⟨?_, ?_, ?_⟩
  · rw [← he S.nw (by unfold numU; omega)]; exact hm.row
  · rw [← rowI_congr fun i hi => he i (by unfold numU; omega)]; exact hm.w
  · rcases hm.f with h0 | ⟨c2, e, q⟩
    · exact .inl h0
    · exact .inr ⟨c2, e, by rw [← rowI_congr (a := fun v => u (S.nw + 1 + v)) fun i hi => he (S.nw + 1 + i) (by unfold numU; omega)]; exact q⟩
theorem WarmM.tru {g : AHeap} {S : MS} {p b1 b2 c1 : Nat} {x2 : Option Addr} {c2 : Nat} {u : Nat → Int} (hm : WarmM g S p b1 b2 c1 (.slice x2 S.nv c2) u) (h0 : ∀ x, x2 = some x → x.spot = none) : TruR g (.slice (some ⟨b1, 0, none⟩) S.nw c1) (.slice x2 S.nv c2) S u := by
  refine ⟨ints_row hm.w, ?_⟩
  rcases hm.f with h | ⟨c', e, q⟩
  · refine ⟨x2, c2, rfl, h0, .inl h⟩
  · cases e
    exact ints_row q
def s14 : SCode := (.seq (.ops [⟨(some 4), none, .box (T 0)⟩, ⟨(some 8), none, .mov (.const (.bool false))⟩]) (.seq (.seq (.ops [⟨(some 24), none, .loadN 7 (T 4)⟩, ⟨(some 25), none, .call (.func 59) [(T 24)]⟩, ⟨(some 26), none, .not (T 25)⟩]) (.cond (T 26) (.seq (.ops [⟨(some 27), none, .call (.func 24) []⟩, ⟨(some 8), none, .mov (T 27)⟩]) .ret) .skip)) (.seq (.draw [⟨.rd, ⟨(some 28), none, .loadN 7 (T 4)⟩⟩, ⟨.free, ⟨(some 29), none, .mov (T 1)⟩⟩, ⟨.free, ⟨(some 30), none, .plain (.convert 90 3 (T 29)) 3⟩⟩, ⟨.rd1, ⟨(some 31), none, .loadN 7 (T 4)⟩⟩, ⟨.up, ⟨(some 32), none, .call (.func 64) [(T 31)]⟩⟩, ⟨.free, ⟨(some 33), none, .plain (.binOp .rem 3 (T 30) (T 32) 3) 3⟩⟩, ⟨.up, ⟨(some 34), none, .call (.func 63) [(T 28), (T 33)]⟩⟩, ⟨.rd, ⟨(some 35), none, .loadN 7 (T 4)⟩⟩, ⟨.free, ⟨(some 36), none, .mov (T 2)⟩⟩, ⟨.free, ⟨(some 37), none, .plain (.convert 90 3 (T 36)) 3⟩⟩, ⟨.rd, ⟨(some 38), none, .loadN 7 (T 4)⟩⟩, ⟨.up, ⟨(some 39), none, .call (.func 64) [(T 38)]⟩⟩, ⟨.free, ⟨(some 40), none, .plain (.binOp .rem 3 (T 37) (T 39) 3) 3⟩⟩, ⟨.any, ⟨(some 41), none, .call (.func 63) [(T 35), (T 40)]⟩⟩, ⟨.any, ⟨(some 9), none, .alloc [(.slice none 0 0), (.int .i64 (0)), (.slice none 0 0)]⟩⟩, ⟨.any, ⟨(some 10), none, .alloc [(.slice none 0 0), (.int .i64 (0)), (.slice none 0 0)]⟩⟩, ⟨.any, ⟨none, none, .store 3 (T 9) (T 34)⟩⟩, ⟨.any, ⟨none, none, .store 3 (T 10) (T 41)⟩⟩]) (.seq (.draw [⟨.free, ⟨(some 42), none, .fieldAddr 0 (T 9)⟩⟩, ⟨.rd1, ⟨(some 43), none, .load1 (T 42)⟩⟩, ⟨.up, ⟨(some 44), none, .call (.func 65) [(T 43)]⟩⟩, ⟨.free, ⟨(some 45), none, .fieldAddr 1 (T 9)⟩⟩, ⟨.rd, ⟨(some 46), none, .load1 (T 45)⟩⟩, ⟨.free, ⟨(some 47), none, .fieldAddr 2 (T 9)⟩⟩, ⟨.rd, ⟨(some 48), none, .load1 (T 47)⟩⟩, ⟨.up, ⟨(some 49), none, .call (.func 65) [(T 48)]⟩⟩, ⟨.free, ⟨(some 50), none, .build #[(0, 1), (1, 1), (2, 1)] [(.slice none 0 0), (.int .i64 (0)), (.slice none 0 0)] [0, 1, 2] [(T 44), (T 46), (T 49)]⟩⟩, ⟨.up, ⟨(some 11), none, .alloc [(.slice none 0 0), (.int .i64 (0)), (.slice none 0 0)]⟩⟩, ⟨.any, ⟨none, none, .store 3 (T 11) (T 50)⟩⟩]) (.seq (.ops [⟨(some 51), none, .mov (T 3)⟩, ⟨(some 52), none, .plain (.convert 5 3 (T 51)) 3⟩, ⟨(some 53), none, .plain (.binOp .rem 3 (T 52) (.const (.int .i64 (3))) 3) 3⟩, ⟨(some 12), none, .mov (T 53)⟩]) (.seq (.seq (.ops [⟨(some 13), none, .mov (.const (.int .i64 (0)))⟩]) (.block 0 (.loop (.seq (.seq (.ops [⟨(some 54), none, .mov (T 13)⟩, ⟨(some 55), none, .fieldAddr 0 (T 10)⟩, ⟨(some 56), none, .load1 (T 55)⟩, ⟨(some 57), none, .len (T 56)⟩, ⟨(some 58), none, .int2 .lss (T 54) (T 57)⟩, ⟨(some 59), none, .mov (T 58)⟩, ⟨(some 60), (some (59, true)), .mov (T 12)⟩, ⟨(some 61), (some (59, true)), .int2 .eql (T 60) (.const (.int .i64 (0)))⟩, ⟨(some 62), none, .pick (T 59) (T 61) (.const (.bool false))⟩]) (.cond (T 62) .skip (.exit 0))) (.seq (.block 1 (.draw [⟨.free, ⟨(some 65), none, .fieldAddr 0 (T 11)⟩⟩, ⟨.rd1, ⟨(some 66), none, .load1 (T 65)⟩⟩, ⟨.free, ⟨(some 67), none, .mov (T 13)⟩⟩, ⟨.free, ⟨(some 68), none, .fieldAddr 0 (T 9)⟩⟩, ⟨.rd1, ⟨(some 69), none, .load1 (T 68)⟩⟩, ⟨.free, ⟨(some 70), none, .mov (T 13)⟩⟩, ⟨.free, ⟨(some 71), none, .idxSl 1 (T 69) (T 70)⟩⟩, ⟨.rd1, ⟨(some 72), none, .load1 (T 71)⟩⟩, ⟨.free, ⟨(some 73), none, .fieldAddr 0 (T 10)⟩⟩, ⟨.rd1, ⟨(some 74), none, .load1 (T 73)⟩⟩, ⟨.free, ⟨(some 75), none, .mov (T 13)⟩⟩, ⟨.free, ⟨(some 76), none, .idxSl 1 (T 74) (T 75)⟩⟩, ⟨.rd1, ⟨(some 77), none, .load1 (T 76)⟩⟩, ⟨.free, ⟨(some 78), none, .plain (.call { callee := .builtin .max, args := #[(T 72), (T 77)], argTypes := #[3, 3] }) 3⟩⟩, ⟨.free, ⟨(some 79), none, .idxSl 1 (T 66) (T 67)⟩⟩, ⟨.any, ⟨none, none, .store 1 (T 79) (T 78)⟩⟩])) (.ops [⟨(some 63), none, .mov (T 13)⟩, ⟨(some 64), none, .int2 .add (T 63) (.const (.int .i64 (1)))⟩, ⟨(some 13), none, .mov (T 64)⟩])))))) (.seq (.seq (.ops [⟨(some 14), none, .mov (.const (.int .i64 (0)))⟩]) (.block 2 (.loop (.seq (.seq (.ops [⟨(some 80), none, .mov (T 14)⟩, ⟨(some 81), none, .fieldAddr 2 (T 10)⟩, ⟨(some 82), none, .load1 (T 81)⟩, ⟨(some 83), none, .len (T 82)⟩, ⟨(some 84), none, .int2 .lss (T 80) (T 83)⟩, ⟨(some 85), none, .mov (T 84)⟩, ⟨(some 86), (some (85, true)), .mov (T 12)⟩, ⟨(some 87), (some (85, true)), .int2 .eql (T 86) (.const (.int .i64 (2)))⟩, ⟨(some 88), none, .pick (T 85) (T 87) (.const (.bool false))⟩]) (.cond (T 88) .skip (.exit 2))) (.seq (.block 3 (.draw [⟨.free, ⟨(some 91), none, .fieldAddr 2 (T 11)⟩⟩, ⟨.rd1, ⟨(some 92), none, .load1 (T 91)⟩⟩, ⟨.free, ⟨(some 93), none, .mov (T 14)⟩⟩, ⟨.free, ⟨(some 94), none, .fieldAddr 2 (T 9)⟩⟩, ⟨.rd1, ⟨(some 95), none, .load1 (T 94)⟩⟩, ⟨.free, ⟨(some 96), none, .mov (T 14)⟩⟩, ⟨.free, ⟨(some 97), none, .idxSl 1 (T 95) (T 96)⟩⟩, ⟨.rd1, ⟨(some 98), none, .load1 (T 97)⟩⟩, ⟨.free, ⟨(some 99), none, .fieldAddr 2 (T 10)⟩⟩, ⟨.rd1, ⟨(some 100), none, .load1 (T 99)⟩⟩, ⟨.free, ⟨(some 101), none, .mov (T 14)⟩⟩, ⟨.free, ⟨(some 102), none, .idxSl 1 (T 100) (T 101)⟩⟩, ⟨.rd1, ⟨(some 103), none, .load1 (T 102)⟩⟩, ⟨.free, ⟨(some 104), none, .plain (.call { callee := .builtin .max, args := #[(T 98), (T 103)], argTypes := #[3, 3] }) 3⟩⟩, ⟨.free, ⟨(some 105), none, .idxSl 1 (T 92) (T 93)⟩⟩, ⟨.any, ⟨none, none, .store 1 (T 105) (T 104)⟩⟩])) (.ops [⟨(some 89), none, .mov (T 14)⟩, ⟨(some 90), none, .int2 .add (T 89) (.const (.int .i64 (1)))⟩, ⟨(some 14), none, .mov (T 90)⟩])))))) (.seq (.seq (.ops [⟨(some 106), none, .mov (T 12)⟩, ⟨(some 107), none, .int2 .eql (T 106) (.const (.int .i64 (1)))⟩]) (.cond (T 107) (.ops [⟨(some 108), none, .fieldAddr 1 (T 9)⟩, ⟨(some 109), none, .load1 (T 108)⟩, ⟨(some 110), none, .fieldAddr 1 (T 10)⟩, ⟨(some 111), none, .load1 (T 110)⟩, ⟨(some 112), none, .plain (.call { callee := .builtin .max, args := #[(T 109), (T 111)], argTypes := #[3, 3] }) 3⟩, ⟨(some 113), none, .fieldAddr 1 (T 11)⟩, ⟨none, none, .store 1 (T 113) (T 112)⟩]) .skip)) (.seq (.draw [⟨.rd1, ⟨(some 115), none, .loadN 7 (T 4)⟩⟩, ⟨.up, ⟨(some 116), none, .call (.func 26) [(T 115)]⟩⟩, ⟨.rd, ⟨(some 117), none, .loadN 3 (T 9)⟩⟩, ⟨.any, ⟨(some 118), none, .call (.func 27) [(T 117)]⟩⟩, ⟨.any, ⟨(some 119), none, .call (.func 25) [(T 116), (T 118)]⟩⟩, ⟨.free, ⟨(some 114), none, .mov (T 119)⟩⟩, ⟨.free, ⟨(some 120), none, .extract 0 (T 114)⟩⟩, ⟨.free, ⟨(some 121), none, .extract 1 (T 114)⟩⟩, ⟨.free, ⟨(some 122), none, .extract 2 (T 114)⟩⟩, ⟨.free, ⟨(some 15), none, .mov (T 120)⟩⟩, ⟨.free, ⟨(some 16), none, .mov (T 121)⟩⟩, ⟨.free, ⟨(some 17), none, .mov (T 122)⟩⟩]) (.seq (.draw [⟨.rd1, ⟨(some 124), none, .loadN 7 (T 4)⟩⟩, ⟨.up, ⟨(some 125), none, .call (.func 26) [(T 124)]⟩⟩, ⟨.rd, ⟨(some 126), none, .loadN 3 (T 11)⟩⟩, ⟨.any, ⟨(some 127), none, .call (.func 27) [(T 126)]⟩⟩, ⟨.any, ⟨(some 128), none, .call (.func 25) [(T 125), (T 127)]⟩⟩, ⟨.free, ⟨(some 123), none, .mov (T 128)⟩⟩, ⟨.free, ⟨(some 129), none, .extract 0 (T 123)⟩⟩, ⟨.free, ⟨(some 130), none, .extract 1 (T 123)⟩⟩, ⟨.free, ⟨(some 131), none, .extract 2 (T 123)⟩⟩, ⟨.free, ⟨(some 18), none, .mov (T 129)⟩⟩, ⟨.free, ⟨(some 19), none, .mov (T 130)⟩⟩, ⟨.free, ⟨(some 20), none, .mov (T 131)⟩⟩]) (.seq (.seq (.ops [⟨(some 132), none, .mov (T 17)⟩, ⟨(some 133), none, .int2 .neq (T 132) (.const (.int .i64 (0)))⟩, ⟨(some 134), none, .mov (T 133)⟩, ⟨(some 135), (some (134, false)), .mov (T 20)⟩, ⟨(some 136), (some (134, false)), .int2 .neq (T 135) (.const (.int .i64 (0)))⟩, ⟨(some 137), none, .pick (T 134) (.const (.bool true)) (T 136)⟩, ⟨(some 138), none, .mov (T 137)⟩, ⟨(some 139), (some (138, false)), .mov (T 15)⟩, ⟨(some 140), (some (138, false)), .len (T 139)⟩, ⟨(some 141), (some (138, false)), .fieldAddr 5 (T 4)⟩, ⟨(some 142), (some (138, false)), .load1 (T 141)⟩, ⟨(some 143), (some (138, false)), .len (T 142)⟩, ⟨(some 144), (some (138, false)), .int2 .neq (T 140) (T 143)⟩, ⟨(some 145), none, .pick (T 138) (.const (.bool true)) (T 144)⟩, ⟨(some 146), none, .mov (T 145)⟩, ⟨(some 147), (some (146, false)), .mov (T 18)⟩, ⟨(some 148), (some (146, false)), .len (T 147)⟩, ⟨(some 149), (some (146, false)), .mov (T 15)⟩, ⟨(some 150), (some (146, false)), .len (T 149)⟩, ⟨(some 151), (some (146, false)), .int2 .neq (T 148) (T 150)⟩, ⟨(some 152), none, .pick (T 146) (.const (.bool true)) (T 151)⟩, ⟨(some 153), none, .mov (T 152)⟩, ⟨(some 154), (some (153, false)), .mov (T 16)⟩, ⟨(some 155), (some (153, false)), .len (T 154)⟩, ⟨(some 156), (some (153, false)), .mov (T 15)⟩, ⟨(some 157), (some (153, false)), .len (T 156)⟩, ⟨(some 158), (some (153, false)), .int2 .neq (T 155) (T 157)⟩, ⟨(some 159), none, .pick (T 153) (.const (.bool true)) (T 158)⟩, ⟨(some 160), none, .mov (T 159)⟩, ⟨(some 161), (some (160, false)), .mov (T 19)⟩, ⟨(some 162), (some (160, false)), .len (T 161)⟩, ⟨(some 163), (some (160, false)), .mov (T 15)⟩, ⟨(some 164), (some (160, false)), .len (T 163)⟩, ⟨(some 165), (some (160, false)), .int2 .neq (T 162) (T 164)⟩, ⟨(some 166), none, .pick (T 160) (.const (.bool true)) (T 165)⟩]) (.cond (T 166) (.seq (.ops [⟨(some 8), none, .mov (.const (.bool false))⟩]) .ret) .skip)) (.seq (.seq (.ops [⟨(some 21), none, .mov (.const (.int .i64 (0)))⟩]) (.block 4 (.loop (.seq (.seq (.ops [⟨(some 167), none, .mov (T 21)⟩, ⟨(some 168), none, .mov (T 15)⟩, ⟨(some 169), none, .len (T 168)⟩, ⟨(some 170), none, .int2 .lss (T 167) (T 169)⟩]) (.cond (T 170) .skip (.exit 4))) (.seq (.block 5 (.seq (.draw [⟨.free, ⟨(some 173), none, .fieldAddr 0 (T 4)⟩⟩, ⟨.rd1, ⟨(some 174), none, .load1 (T 173)⟩⟩, ⟨.free, ⟨(some 175), none, .fieldAddr 5 (T 4)⟩⟩, ⟨.rd1, ⟨(some 176), none, .load1 (T 175)⟩⟩, ⟨.free, ⟨(some 177), none, .mov (T 21)⟩⟩, ⟨.free, ⟨(some 178), none, .idxSl 4 (T 176) (T 177)⟩⟩, ⟨.free, ⟨(some 179), none, .fieldAddr 0 (T 178)⟩⟩, ⟨.rd1, ⟨(some 180), none, .load1 (T 179)⟩⟩, ⟨.free, ⟨(some 181), none, .int2 .sub (T 174) (T 180)⟩⟩, ⟨.free, ⟨(some 182), none, .int2 .add (T 181) (.const (.int .i64 (1)))⟩⟩, ⟨.free, ⟨(some 22), none, .mov (T 182)⟩⟩]) (.seq (.seq (.ops [⟨(some 183), none, .mov (T 15)⟩, ⟨(some 184), none, .mov (T 21)⟩, ⟨(some 185), none, .idxSl 1 (T 183) (T 184)⟩, ⟨(some 186), none, .load1 (T 185)⟩, ⟨(some 187), none, .len (T 186)⟩, ⟨(some 188), none, .mov (T 22)⟩, ⟨(some 189), none, .int2 .neq (T 187) (T 188)⟩, ⟨(some 190), none, .mov (T 189)⟩, ⟨(some 191), (some (190, false)), .mov (T 18)⟩, ⟨(some 192), (some (190, false)), .mov (T 21)⟩, ⟨(some 193), (some (190, false)), .idxSl 1 (T 191) (T 192)⟩, ⟨(some 194), (some (190, false)), .load1 (T 193)⟩, ⟨(some 195), (some (190, false)), .len (T 194)⟩, ⟨(some 196), (some (190, false)), .mov (T 22)⟩, ⟨(some 197), (some (190, false)), .int2 .neq (T 195) (T 196)⟩, ⟨(some 198), none, .pick (T 190) (.const (.bool true)) (T 197)⟩, ⟨(some 199), none, .mov (T 198)⟩, ⟨(some 200), (some (199, false)), .mov (T 16)⟩, ⟨(some 201), (some (199, false)), .mov (T 21)⟩, ⟨(some 202), (some (199, false)), .idxSl 1 (T 200) (T 201)⟩, ⟨(some 203), (some (199, false)), .load1 (T 202)⟩, ⟨(some 204), (some (199, false)), .len (T 203)⟩, ⟨(some 205), (some (199, false)), .mov (T 22)⟩, ⟨(some 206), (some (199, false)), .int2 .neq (T 204) (T 205)⟩, ⟨(some 207), none, .pick (T 199) (.const (.bool true)) (T 206)⟩, ⟨(some 208), none, .mov (T 207)⟩, ⟨(some 209), (some (208, false)), .mov (T 19)⟩, ⟨(some 210), (some (208, false)), .mov (T 21)⟩, ⟨(some 211), (some (208, false)), .idxSl 1 (T 209) (T 210)⟩, ⟨(some 212), (some (208, false)), .load1 (T 211)⟩, ⟨(some 213), (some (208, false)), .len (T 212)⟩, ⟨(some 214), (some (208, false)), .mov (T 22)⟩, ⟨(some 215), (some (208, false)), .int2 .neq (T 213) (T 214)⟩, ⟨(some 216), none, .pick (T 208) (.const (.bool true)) (T 215)⟩]) (.cond (T 216) (.seq (.ops [⟨(some 8), none, .mov (.const (.bool false))⟩]) .ret) .skip)) (.seq (.ops [⟨(some 23), none, .mov (.const (.int .i64 (0)))⟩]) (.block 6 (.loop (.seq (.seq (.ops [⟨(some 217), none, .mov (T 23)⟩, ⟨(some 218), none, .mov (T 22)⟩, ⟨(some 219), none, .int2 .lss (T 217) (T 218)⟩]) (.cond (T 219) .skip (.exit 6))) (.seq (.block 7 (.seq (.draw [⟨.free, ⟨(some 222), none, .mov (T 18)⟩⟩, ⟨.free, ⟨(some 223), none, .mov (T 21)⟩⟩, ⟨.free, ⟨(some 224), none, .idxSl 1 (T 222) (T 223)⟩⟩, ⟨.rd1, ⟨(some 225), none, .load1 (T 224)⟩⟩, ⟨.free, ⟨(some 226), none, .mov (T 23)⟩⟩, ⟨.free, ⟨(some 227), none, .idxSl 1 (T 225) (T 226)⟩⟩, ⟨.rd1, ⟨(some 228), none, .load1 (T 227)⟩⟩, ⟨.free, ⟨(some 229), none, .mov (T 15)⟩⟩, ⟨.free, ⟨(some 230), none, .mov (T 21)⟩⟩, ⟨.free, ⟨(some 231), none, .idxSl 1 (T 229) (T 230)⟩⟩, ⟨.rd1, ⟨(some 232), none, .load1 (T 231)⟩⟩, ⟨.free, ⟨(some 233), none, .mov (T 23)⟩⟩, ⟨.free, ⟨(some 234), none, .idxSl 1 (T 232) (T 233)⟩⟩, ⟨.rd1, ⟨(some 235), none, .load1 (T 234)⟩⟩, ⟨.free, ⟨(some 236), none, .int2 .lss (T 228) (T 235)⟩⟩, ⟨.free, ⟨(some 237), none, .mov (T 236)⟩⟩, ⟨.free, ⟨(some 238), (some (237, false)), .mov (T 12)⟩⟩, ⟨.free, ⟨(some 239), (some (237, false)), .int2 .eql (T 238) (.const (.int .i64 (0)))⟩⟩, ⟨.free, ⟨(some 240), (some (237, false)), .mov (T 239)⟩⟩, ⟨.free, ⟨(some 241), (some (240, true)), .mov (T 19)⟩⟩, ⟨.free, ⟨(some 242), (some (240, true)), .mov (T 21)⟩⟩, ⟨.free, ⟨(some 243), (some (240, true)), .idxSl 1 (T 241) (T 242)⟩⟩, ⟨.rd1, ⟨(some 244), (some (240, true)), .load1 (T 243)⟩⟩, ⟨.free, ⟨(some 245), (some (240, true)), .mov (T 23)⟩⟩, ⟨.free, ⟨(some 246), (some (240, true)), .idxSl 1 (T 244) (T 245)⟩⟩, ⟨.rd1, ⟨(some 247), (some (240, true)), .load1 (T 246)⟩⟩, ⟨.free, ⟨(some 248), (some (240, true)), .mov (T 16)⟩⟩, ⟨.free, ⟨(some 249), (some (240, true)), .mov (T 21)⟩⟩, ⟨.free, ⟨(some 250), (some (240, true)), .idxSl 1 (T 248) (T 249)⟩⟩, ⟨.rd1, ⟨(some 251), (some (240, true)), .load1 (T 250)⟩⟩, ⟨.free, ⟨(some 252), (some (240, true)), .mov (T 23)⟩⟩, ⟨.free, ⟨(some 253), (some (240, true)), .idxSl 1 (T 251) (T 252)⟩⟩, ⟨.rd1, ⟨(some 254), (some (240, true)), .load1 (T 253)⟩⟩, ⟨.free, ⟨(some 255), (some (240, true)), .int2 .lss (T 247) (T 254)⟩⟩, ⟨.free, ⟨(some 256), (some (237, false)), .pick (T 240) (T 255) (.const (.bool false))⟩⟩, ⟨.free, ⟨(some 257), none, .pick (T 237) (.const (.bool true)) (T 256)⟩⟩, ⟨.free, ⟨(some 258), none, .mov (T 257)⟩⟩, ⟨.free, ⟨(some 259), (some (258, false)), .mov (T 12)⟩⟩, ⟨.free, ⟨(some 260), (some (258, false)), .int2 .eql (T 259) (.const (.int .i64 (1)))⟩⟩, ⟨.free, ⟨(some 261), (some (258, false)), .mov (T 260)⟩⟩, ⟨.free, ⟨(some 262), (some (261, true)), .mov (T 19)⟩⟩, ⟨.free, ⟨(some 263), (some (261, true)), .mov (T 21)⟩⟩, ⟨.free, ⟨(some 264), (some (261, true)), .idxSl 1 (T 262) (T 263)⟩⟩, ⟨.rd1, ⟨(some 265), (some (261, true)), .load1 (T 264)⟩⟩, ⟨.free, ⟨(some 266), (some (261, true)), .mov (T 23)⟩⟩, ⟨.free, ⟨(some 267), (some (261, true)), .idxSl 1 (T 265) (T 266)⟩⟩, ⟨.rd1, ⟨(some 268), (some (261, true)), .load1 (T 267)⟩⟩, ⟨.free, ⟨(some 269), (some (261, true)), .mov (T 16)⟩⟩, ⟨.free, ⟨(some 270), (some (261, true)), .mov (T 21)⟩⟩, ⟨.free, ⟨(some 271), (some (261, true)), .idxSl 1 (T 269) (T 270)⟩⟩, ⟨.rd1, ⟨(some 272), (some (261, true)), .load1 (T 271)⟩⟩, ⟨.free, ⟨(some 273), (some (261, true)), .mov (T 23)⟩⟩, ⟨.free, ⟨(some 274), (some (261, true)), .idxSl 1 (T 272) (T 273)⟩⟩, ⟨.rd1, ⟨(some 275), (some (261, true)), .load1 (T 274)⟩⟩, ⟨.free, ⟨(some 276), (some (261, true)), .int2 .gtr (T 268) (T 275)⟩⟩, ⟨.free, ⟨(some 277), (some (261, true)), .mov (T 276)⟩⟩, ⟨.free, ⟨(some 278), (some (277, false)), .mov (T 18)⟩⟩, ⟨.free, ⟨(some 279), (some (277, false)), .mov (T 21)⟩⟩, ⟨.free, ⟨(some 280), (some (277, false)), .idxSl 1 (T 278) (T 279)⟩⟩, ⟨.rd1, ⟨(some 281), (some (277, false)), .load1 (T 280)⟩⟩, ⟨.free, ⟨(some 282), (some (277, false)), .mov (T 23)⟩⟩, ⟨.free, ⟨(some 283), (some (277, false)), .idxSl 1 (T 281) (T 282)⟩⟩, ⟨.rd1, ⟨(some 284), (some (277, false)), .load1 (T 283)⟩⟩, ⟨.free, ⟨(some 285), (some (277, false)), .mov (T 15)⟩⟩, ⟨.free, ⟨(some 286), (some (277, false)), .mov (T 21)⟩⟩, ⟨.free, ⟨(some 287), (some (277, false)), .idxSl 1 (T 285) (T 286)⟩⟩, ⟨.rd1, ⟨(some 288), (some (277, false)), .load1 (T 287)⟩⟩, ⟨.free, ⟨(some 289), (some (277, false)), .mov (T 23)⟩⟩, ⟨.free, ⟨(some 290), (some (277, false)), .idxSl 1 (T 288) (T 289)⟩⟩, ⟨.rd1, ⟨(some 291), (some (277, false)), .load1 (T 290)⟩⟩, ⟨.free, ⟨(some 292), (some (277, false)), .int2 .neq (T 284) (T 291)⟩⟩, ⟨.free, ⟨(some 293), (some (261, true)), .pick (T 277) (.const (.bool true)) (T 292)⟩⟩, ⟨.free, ⟨(some 294), (some (258, false)), .pick (T 261) (T 293) (.const (.bool false))⟩⟩, ⟨.free, ⟨(some 295), none, .pick (T 258) (.const (.bool true)) (T 294)⟩⟩]) (.cond (T 295) (.seq (.ops [⟨(some 8), none, .mov (.const (.bool false))⟩]) .ret) .skip))) (.ops [⟨(some 220), none, .mov (T 23)⟩, ⟨(some 221), none, .int2 .add (T 220) (.const (.int .i64 (1)))⟩, ⟨(some 23), none, .mov (T 221)⟩]))))))))) (.ops [⟨(some 171), none, .mov (T 21)⟩, ⟨(some 172), none, .int2 .add (T 171) (.const (.int .i64 (1)))⟩, ⟨(some 21), none, .mov (T 172)⟩])))))) (.seq (.ops [⟨(some 296), none, .call (.func 24) []⟩, ⟨(some 8), none, .mov (T 296)⟩]) .ret)))))))))))))
end Go.Vm.St

namespace Go.Vm.St
open Go.Proofs Go.Vm.Vat
set_option linter.unusedSimpArgs false
set_option linter.unusedVariables false
set_option maxRecDepth 10000
variable {n : Nat} {h : AHeap}
/-- what is found is a smell of a vat, and no other one leaves fewer -/
structure SmOk (S : MS) (L : List (Nat → Int)) (st : Sm) : Prop where
  at_ : ∃ v0 : Nat, st.v = (v0 : Int) ∧ HourOk S v0 st.h ∧ st.l = lvS S v0 st.h L
end Go.Vm.St
