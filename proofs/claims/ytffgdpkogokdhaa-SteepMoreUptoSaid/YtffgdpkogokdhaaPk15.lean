/- Texts of the proofs of this seat, put together: StBnds, StTruths, StMem, StOut, StVerd, StOpenH, StRightP, StGoodH, StOutL, StRightL, StRightM, StGoodP, StRightN, StGoodL, StStuckL, StAskP, StAskL. -/
import Derived.Test.YtffgdpkogokdhaaPk14

namespace Go.Vm.St
open Go.Proofs Go.Vm.Vat
set_option linter.unusedSimpArgs false
set_option linter.unusedVariables false
set_option maxRecDepth 10000
variable {n : Nat} {h : AHeap}
theorem cs_flat {s m : Nat} {cs : List Value} {c : Nat → Nat → Value} (hs : 0 < s) (hl : cs.length = m * s) (hc : ∀ k j, k < m → j < s → cs[k * s + j]? = some (c k j)) : cs = flatL s m c := by
  apply List.ext_getElem?
  intro i
  by_cases hi : i < m * s
  · have h1 : i / s < m := Nat.div_lt_of_lt_mul (by rw [Nat.mul_comm]; exact hi)
    have h2 : i % s < s := Nat.mod_lt _ hs
    have h3 : i / s * s + i % s = i := by rw [Nat.mul_comm]; exact Nat.div_add_mod i s
    have a := hc _ _ h1 h2
    have b := flatL_get (c := c) h1 h2
    rw [h3] at a b
    rw [a, b]
  · rw [List.getElem?_eq_none (by omega), List.getElem?_eq_none (by rw [flatL_len]; omega)]
def rngL (m : Nat) (lo hi : Nat → Int) : List Value := flatL 2 m fun k j => .int .i64 (if j = 0 then lo k else hi k)
theorem rngL_congr {m : Nat} {lo hi lo' hi' : Nat → Int} (he : ∀ k, k < m → lo k = lo' k ∧ hi k = hi' k) : rngL m lo hi = rngL m lo' hi' := by
  refine cs_flat (by omega) flatL_len fun k j hk hj => ?_
  rw [rngL, flatL_get (c := fun k j => .int .i64 (if j = 0 then lo k else hi k)) hk hj, (he k hk).1, (he k hk).2]
theorem rngL_cells {g : AHeap} {b m cap gr : Nat} {w : Bool} {lo hi : Nat → Int} (hg : g.get b = some (.row (rngL m lo hi) w gr)) : Ranges g (.slice (some ⟨b, 0, none⟩) m cap) m lo hi :=
  cells_row ⟨w, gr, hg⟩ fun k j hk hj => flatL_get (c := fun k j => .int .i64 (if j = 0 then lo k else hi k)) hk hj
theorem sl_pair {x y : Int} : buildSl 2 1 [.int .i64 0, .int .i64 0] [0] h [.agg ⟨[.int .i64 x, .int .i64 y]⟩] = newSlice h [.int .i64 x, .int .i64 y] 1 1 0 := id rfl
def loB (S : MS) (v : Nat) (L : List (Nat → Int)) (i q : Nat) : Int := minN (blueS S (L.getD 0 fun _ => 0) v (S.vb v + (q : Int))) (fun i => blueS S (L.getD (i + 1) fun _ => 0) v (S.vb v + (q : Int))) i
def hiB (S : MS) (v : Nat) (L : List (Nat → Int)) (i q : Nat) : Int := maxN (blueS S (L.getD 0 fun _ => 0) v (S.vb v + (q : Int))) (fun i => blueS S (L.getD (i + 1) fun _ => 0) v (S.vb v + (q : Int))) i
def s89 : SCode := (.seq (.ops [⟨(some 3), none, .box (T 0)⟩, ⟨(some 4), none, .box (T 1)⟩, ⟨(some 6), none, .mov (.const (.slice none 0 0))⟩]) (.seq (.ops [⟨(some 7), none, .mov (.const (.slice none 0 0))⟩]) (.seq (.seq (.draw [⟨.rd1, ⟨(some 14), none, .loadN 1 (T 3)⟩⟩, ⟨.rd1, ⟨(some 15), none, .loadN 8 (T 4)⟩⟩, ⟨.free, ⟨(some 16), none, .fieldAddr 7 (T 4)⟩⟩, ⟨.rd1, ⟨(some 17), none, .load1 (T 16)⟩⟩, ⟨.free, ⟨(some 18), none, .idxSl 11 (T 17) (.const (.int .i64 (0)))⟩⟩, ⟨.rd1, ⟨(some 19), none, .loadN 11 (T 18)⟩⟩, ⟨.free, ⟨(some 20), none, .mov (T 2)⟩⟩, ⟨.any, ⟨(some 21), none, .call (.func 77) [(T 14), (T 15), (T 19), (T 20)]⟩⟩, ⟨.free, ⟨(some 22), none, .len (T 21)⟩⟩, ⟨.free, ⟨(some 23), none, .mov (.const (.int .i64 (0)))⟩⟩]) (.block 0 (.loop (.seq (.ops [⟨(some 24), none, .int2 .lss (T 23) (T 22)⟩]) (.seq (.cond (T 24) .skip (.exit 0)) (.seq (.block 1 (.seq (.ops [⟨(some 25), none, .idxSl 1 (T 21) (T 23)⟩, ⟨(some 26), none, .load1 (T 25)⟩, ⟨(some 9), none, .mov (T 26)⟩]) (.ops [⟨(some 27), none, .mov (T 7)⟩, ⟨(some 28), none, .mov (T 9)⟩, ⟨(some 29), none, .mov (T 9)⟩, ⟨(some 30), none, .build #[(0, 1), (1, 1)] [(.int .i64 (0)), (.int .i64 (0))] [0, 1] [(T 28), (T 29)]⟩, ⟨(some 31), none, .bslice 2 1 [(.int .i64 (0)), (.int .i64 (0))] [0] [(T 30)]⟩, ⟨(some 32), none, .append 2 16 (T 27) (T 31)⟩, ⟨(some 7), none, .mov (T 32)⟩]))) (.ops [⟨(some 33), none, .int2 .add (T 23) (.const (.int .i64 (1)))⟩, ⟨(some 23), none, .mov (T 33)⟩]))))))) (.seq (.seq (.ops [⟨(some 34), none, .fieldAddr 7 (T 4)⟩, ⟨(some 35), none, .load1 (T 34)⟩, ⟨(some 36), none, .slice 11 (T 35) (some (.const (.int .i64 (1)))) none none⟩, ⟨(some 37), none, .len (T 36)⟩, ⟨(some 38), none, .mov (.const (.int .i64 (0)))⟩]) (.block 2 (.loop (.seq (.ops [⟨(some 39), none, .int2 .lss (T 38) (T 37)⟩]) (.seq (.cond (T 39) .skip (.exit 2)) (.seq (.block 3 (.seq (.ops [⟨(some 40), none, .idxSl 11 (T 36) (T 38)⟩, ⟨(some 41), none, .loadN 11 (T 40)⟩, ⟨(some 11), none, .alloc [(.int .i64 (0)), (.int .i64 (0)), (.int .i64 (0)), (.int .i64 (0)), (.int .i64 (0)), (.int .i64 (0)), (.int .i64 (0)), (.int .i64 (0)), (.int .i64 (0)), (.int .i64 (0)), (.int .i64 (0))]⟩, ⟨none, none, .store 11 (T 11) (T 41)⟩]) (.seq (.ops [⟨(some 42), none, .loadN 1 (T 3)⟩, ⟨(some 43), none, .loadN 8 (T 4)⟩, ⟨(some 44), none, .loadN 11 (T 11)⟩, ⟨(some 45), none, .mov (T 2)⟩, ⟨(some 46), none, .call (.func 77) [(T 42), (T 43), (T 44), (T 45)]⟩, ⟨(some 47), none, .len (T 46)⟩, ⟨(some 48), none, .mov (.const (.int .i64 (0)))⟩]) (.block 4 (.loop (.seq (.ops [⟨(some 49), none, .int2 .lss (T 48) (T 47)⟩]) (.seq (.cond (T 49) .skip (.exit 4)) (.seq (.block 5 (.seq (.ops [⟨(some 50), none, .mov (T 48)⟩, ⟨(some 51), none, .idxSl 1 (T 46) (T 48)⟩, ⟨(some 52), none, .load1 (T 51)⟩, ⟨(some 12), none, .mov (T 50)⟩, ⟨(some 13), none, .mov (T 52)⟩]) (.draw [⟨.free, ⟨(some 53), none, .mov (T 7)⟩⟩, ⟨.free, ⟨(some 54), none, .mov (T 12)⟩⟩, ⟨.free, ⟨(some 55), none, .mov (T 7)⟩⟩, ⟨.free, ⟨(some 56), none, .mov (T 12)⟩⟩, ⟨.free, ⟨(some 57), none, .idxSl 2 (T 55) (T 56)⟩⟩, ⟨.free, ⟨(some 58), none, .fieldAddr 0 (T 57)⟩⟩, ⟨.rd, ⟨(some 59), none, .load1 (T 58)⟩⟩, ⟨.free, ⟨(some 60), none, .mov (T 13)⟩⟩, ⟨.up, ⟨(some 61), none, .bslice 1 1 [(.int .i64 (0))] [0] [(T 60)]⟩⟩, ⟨.up, ⟨(some 62), none, .call (.func 105) [(T 59), (T 61)]⟩⟩, ⟨.free, ⟨(some 63), none, .mov (T 7)⟩⟩, ⟨.free, ⟨(some 64), none, .mov (T 12)⟩⟩, ⟨.free, ⟨(some 65), none, .idxSl 2 (T 63) (T 64)⟩⟩, ⟨.free, ⟨(some 66), none, .fieldAddr 1 (T 65)⟩⟩, ⟨.rd, ⟨(some 67), none, .load1 (T 66)⟩⟩, ⟨.free, ⟨(some 68), none, .mov (T 13)⟩⟩, ⟨.free, ⟨(some 69), none, .plain (.call { callee := .builtin .max, args := #[(T 67), (T 68)], argTypes := #[3, 3] }) 3⟩⟩, ⟨.free, ⟨(some 70), none, .build #[(0, 1), (1, 1)] [(.int .i64 (0)), (.int .i64 (0))] [0, 1] [(T 62), (T 69)]⟩⟩, ⟨.free, ⟨(some 71), none, .idxSl 2 (T 53) (T 54)⟩⟩, ⟨.any, ⟨none, none, .store 2 (T 71) (T 70)⟩⟩]))) (.ops [⟨(some 72), none, .int2 .add (T 48) (.const (.int .i64 (1)))⟩, ⟨(some 48), none, .mov (T 72)⟩]))))))))) (.ops [⟨(some 73), none, .int2 .add (T 38) (.const (.int .i64 (1)))⟩, ⟨(some 38), none, .mov (T 73)⟩]))))))) (.seq (.ops [⟨(some 74), none, .mov (T 7)⟩, ⟨(some 6), none, .mov (T 74)⟩]) .ret)))))
theorem fok89 : FnOk Try.prog 89 75 s89 [.tmp 6] := ⟨Try.f89, _, Try.func89, rfl, Try.ntmps89, by kernel_rfl, by kernel_rfl⟩
set_option maxHeartbeats 4000000 in
theorem bounds_c (hn : 2300 ≤ n) (hr : h.next + 200000 < far) (hfl : h.floor ≤ h.next) {wv vv sv tv : Value} {S : MS} (hy : SteepR h wv vv sv S) (ho : oneCell tv = true) (hG : Good S) {L : List (Nat → Int)} (hL : L ≠ []) (hlen : L.length ≤ 2000) (hin : ∀ t, t ∈ L → InU S t) (htr : TruthsR h S tv L) (hlong : Long tv) {v : Nat} (hv : v < S.nv) :
    ∃ r h', call n (.func (.func 89) #[] #[]) [.agg ⟨[.func (.func 76) #[] #[]]⟩, .agg ⟨wkL S wv vv sv tv⟩, .int .i64 (v : Int)] h = some (r, h') ∧ Ranges h' r (hoursN S v) (loB S v L (L.length - 1)) (hiB S v L (L.length - 1)) ∧ oneCell r = true ∧
      Sub All h h' ∧ h.next ≤ h'.next ∧ h'.next ≤ h.next + 100000 ∧ h'.floor = h.floor := by
  obtain ⟨n, rfl⟩ : ∃ p, n = p + 1 := ⟨n - 1, by omega⟩
  have hpos : 0 < L.length := List.length_pos_iff.2 hL
  obtain ⟨mh1, mh2, mh3⟩ := hoursN_ok hG hv
  refine call_any0 fok89 rfl rfl (by simp) ?_
  simp only [s89, W_seq, W_ops]
  refine ops_box (cs := [.func (.func 76) #[] #[]]) (by omega) rfl rfl fun g1 hx1 => ?_
  have n1 := hx1.next
  have f1 := hx1.floor
  refine ops_box (cs := wkL S wv vv sv tv) (by omega) rfl (wk_one hy ho) fun g2 hx2 => ?_
  have n2 := hx2.next
  have f2 := hx2.floor
  have sub2 : Sub All h g2 := hx1.sub.trans hx2.sub
  have old2 : ∀ i, i < h.next → g2.get i = h.get i := fun i hi => by rw [hx2.old i (by omega), hx1.old i hi]
  have r1 := hx1.row.mono hx2.sub
  have r2 := hx2.row
  have hy2 := hy.mono sub2
  have ht2 : TruthsR g2 S tv L := Cells.mono htr sub2
  have hH := fun (u : Nat → Int) (hu : InU S u) (g : AHeap) (hg : g.next + 200 < far) (hfg : g.floor ≤ g.next) (hyg : SteepR g wv vv sv S) => hourly_c (n := n) (h := g) (by omega) hg hfg hyg (tv := tv) ho hG (u := u) hv (G := 76) (val := fun hh => blueS S u v hh) fun gg hsub hgg hh hho => blueOut_c (by omega) (by omega) (hyg.mono hsub) ho hG hu hho
  have hat : ∀ i, i < L.length → InU S (L.getD i fun _ => 0) := fun i hi => hin _ (getD_mem hi)
  obtain ⟨g3, b3, e3, i3, lb3, ub3, o3, u3, m3, f3⟩ := hH _ (hat 0 hpos) g2 (by omega) (by omega) hy2
  have sub3 : Sub All g2 g3 := AHeap.subOf o3
  simp only [rn0, rn1, rn2, rn3, rn4, rn5, rn6, rn7, rn8, if_true, if_false, Nat.le_refl, true_and, and_true, decide_true, decide_false, Bool.not_true, Bool.not_false, reduceIte, Nat.reduceEqDiff, Nat.reduceAdd, Nat.reduceMul, Nat.reduceSub, Nat.reduceLeDiff, Nat.reduceLT]
  refine W_draw All ?_
  have i0 : indexSl 11 tv (.int .i64 0) = some (ptrO tv 11 0 0) := Cells.idx ht2 hpos
  simp only [rn0, rn1, rn2, rn3, rn4, rn5, rn6, rn7, rn8, if_true, if_false, Nat.le_refl, true_and, and_true, decide_true, decide_false, Bool.not_true, Bool.not_false, reduceIte, Nat.reduceEqDiff, Nat.reduceAdd, Nat.reduceMul, Nat.reduceSub, Nat.reduceLeDiff, Nat.reduceLT, r1.whole (n := 1) rfl, r2.whole (n := 8) rfl, r2.ld, wkg, Nat.zero_add, i0, truths_ld ht2 hpos, e3, len_slice]
  refine ⟨by omega, ?_⟩
  have f0 := fun (q : Nat) => loB S v L 0 q
  refine W_loop (hoursN S v) (fun k f g ms => (∃ w, (∀ i, i < g3.next → g.get i = g3.get i) ∧ g.floor = h.floor ∧ g3.next ≤ g.next ∧ g.next ≤ g3.next + 2 * k ∧ GrowC g3.next g w 2 k (fun k j => .int .i64 (if j = 0 then loB S v L 0 k else hiB S v L 0 k)) ∧ f 7 = w) ∧ ms = [] ∧ f 2 = .int .i64 (v : Int) ∧ f 3 = .pointer (some ⟨h.next, 0, none⟩) ∧ f 4 = .pointer (some ⟨g1.next, 0, none⟩) ∧ f 21 = .slice (some ⟨b3, 0, none⟩) (hoursN S v) (hoursN S v) ∧ f 22 = .int .i64 (hoursN S v : Int) ∧ f 23 = .int .i64 (k : Int)) (by simp; omega) ?_ ?_ ?_
  · simp only [rn0, rn1, rn2, rn3, rn4, rn5, rn6, rn7, rn8, if_true, if_false, Nat.le_refl, true_and, and_true, decide_true, decide_false, Bool.not_true, Bool.not_false, reduceIte, Nat.reduceEqDiff, Nat.reduceAdd, Nat.reduceMul, Nat.reduceSub, Nat.reduceLeDiff, Nat.reduceLT]
    exact ⟨⟨_, fun i _ => trivial, by omega, by omega, .nil, rfl⟩, rfl⟩
  · rintro k f g ms hk ⟨⟨w, hs, hfg, hup, hnx, gw, p7⟩, rfl, p2, p3, p4, p21, p22, p23⟩
    have hk' : (k : Int) < (hoursN S v : Int) := by omega
    have hw : wrapF .i64 ((k : Int) + 1) = ((k + 1 : Nat) : Int) := by rw [wrap_in (by omega) (by omega)]; rfl
    have i3g := Cells.mono i3 (AHeap.subOf hs)
    simp only [rn0, rn1, rn2, rn3, rn4, rn5, rn6, rn7, rn8, if_true, if_false, Nat.le_refl, true_and, and_true, decide_true, decide_false, Bool.not_true, Bool.not_false, reduceIte, Nat.reduceEqDiff, Nat.reduceAdd, Nat.reduceMul, Nat.reduceSub, Nat.reduceLeDiff, Nat.reduceLT, p2, p3, p4, p7, p21, p22, p23, hk', Cells.idx i3g hk, Cells.ld i3g hk Nat.zero_lt_one, build_range, sl_pair]
    refine step_slice (by omega) rfl fun g4 hx4 => ?_
    have n4 := hx4.next
    have f4 := hx4.floor
    obtain ⟨g5, e5, gw5, n5, f5, o5, u5⟩ := grow_push3 (bytes := 16) gw (by omega) (by omega) (by omega) hx4 rfl rfl (fun j hj => by
      rcases j with _ | _ | j
      · rfl
      · rfl
      · omega) (by simp [maxBytes]; omega) (by simp [maxBytes]; omega)
    simp only [rn0, rn1, rn2, rn3, rn4, rn5, rn6, rn7, rn8, if_true, if_false, Nat.le_refl, true_and, and_true, decide_true, decide_false, Bool.not_true, Bool.not_false, reduceIte, Nat.reduceEqDiff, Nat.reduceAdd, Nat.reduceMul, Nat.reduceSub, Nat.reduceLeDiff, Nat.reduceLT, p2, p3, p4, p7, p21, p22, p23, e5, hw]
    have hfin := And.intro (fun i (hi : i < g3.next) => (by rw [o5 i (by omega) (neB_of gw (by left; exact hi)), hs i hi] : g5.get i = g3.get i)) (And.intro (by omega : g5.floor = h.floor) (And.intro (by omega : g3.next ≤ g5.next) (And.intro (by omega : g5.next ≤ g3.next + 2 * (k + 1)) (And.intro gw5 (rfl : (Value.slice (some ⟨g.next + 1, 0, none⟩) (k + 1) unk) = .slice (some ⟨g.next + 1, 0, none⟩) (k + 1) unk)))))
    first | exact ⟨⟨_, hfin⟩, rfl⟩ | exact ⟨_, hfin⟩
  rintro f g ms ⟨⟨w, hs, hfg, hup, hnx, gw, p7⟩, rfl, p2, p3, p4, p21, p22, p23⟩
  obtain ⟨bw, hbw, hrow, ewb⟩ : ∃ b, g3.next ≤ b ∧ g.get b = some (.row (rngL (hoursN S v) (loB S v L 0) (hiB S v L 0)) true 2) ∧ w = .slice (some ⟨b, 0, none⟩) (hoursN S v) unk := by
    obtain ⟨cs, q1, _, q3⟩ := gw
    rcases q1 with ⟨_, q, _⟩ | ⟨b, e, q4, q5, q6⟩
    · omega
    · exact ⟨b, q6, by rw [q4, cs_flat (by omega) q5 q3]; rfl, e⟩
  subst ewb
  have hblt := AHeap.lt_of_get hrow
  have sub3g : Sub All g3 g := AHeap.subOf hs
  have sub2g : Sub All g2 g := sub3.trans sub3g
  have r1g := r1.mono sub2g
  have r2g := r2.mono sub2g
  have htg : TruthsR g S tv L := Cells.mono ht2 sub2g
  obtain ⟨tl, g6, et, _, s6, u6, b6, f6, o6, htl⟩ := tail_c htg hpos hlong (by omega)
  have ht6 := htl g6 (Cells.mono htg s6)
  simp only [rn0, rn1, rn2, rn3, rn4, rn5, rn6, rn7, rn8, if_true, if_false, Nat.le_refl, true_and, and_true, decide_true, decide_false, Bool.not_true, Bool.not_false, reduceIte, Nat.reduceEqDiff, Nat.reduceAdd, Nat.reduceMul, Nat.reduceSub, Nat.reduceLeDiff, Nat.reduceLT, p2, p3, p4, p7, p21, p22, p23, Int.lt_irrefl, r2g.ld, wkg, Nat.zero_add, Option.isSome_none, Option.map_some, Option.map_none, et, Cells.len ht6]
  have hrow6 : g6.get bw = some (.row (rngL (hoursN S v) (loB S v L 0) (hiB S v L 0)) true 2) := s6 _ _ _ _ trivial hrow
  refine W_loop (L.length - 1) (fun i f g' ms => (Keep bw g6 g' ∧ g'.get bw = some (.row (rngL (hoursN S v) (loB S v L i) (hiB S v L i)) true 2) ∧ g'.next ≤ g6.next + 40 * i) ∧ ms = [] ∧ f 2 = .int .i64 (v : Int) ∧ f 3 = .pointer (some ⟨h.next, 0, none⟩) ∧ f 4 = .pointer (some ⟨g1.next, 0, none⟩) ∧ f 7 = .slice (some ⟨bw, 0, none⟩) (hoursN S v) unk ∧ f 36 = tl ∧ f 37 = .int .i64 ((L.length - 1 : Nat) : Int) ∧ f 38 = .int .i64 (i : Int)) (by simp; omega) ?_ ?_ ?_
  · simp only [rn0, rn1, rn2, rn3, rn4, rn5, rn6, rn7, rn8, if_true, if_false, Nat.le_refl, true_and, and_true, decide_true, decide_false, Bool.not_true, Bool.not_false, reduceIte, Nat.reduceEqDiff, Nat.reduceAdd, Nat.reduceMul, Nat.reduceSub, Nat.reduceLeDiff, Nat.reduceLT, p2, p3, p4, p7]
    exact ⟨⟨Keep.refl, hrow6, by omega⟩, rfl⟩
  · rintro i f g' ms hi ⟨⟨kin, gi, gin⟩, rfl, p2, p3, p4, p7, p36, p37, p38⟩
    have hi' : (i : Int) < ((L.length - 1 : Nat) : Int) := by omega
    have hwi : wrapF .i64 ((i : Int) + 1) = ((i + 1 : Nat) : Int) := by rw [wrap_in (by omega) (by omega)]; rfl
    have kup := kin.up
    have kfl := kin.floor
    have sg' : Sub All g2 g' := fun j cs w gr t hg => by
      have hlt := AHeap.lt_of_get hg
      exact kin.sub _ _ _ _ (by omega) (s6 _ _ _ _ trivial (sub2g _ _ _ _ trivial hg))
    have ht' := htl g' (Cells.mono ht2 sg')
    have hld : loadAgg 11 g' (ptrO tl 11 i 0) = some (.agg ⟨tarr S (L.getD (i + 1) fun _ => 0)⟩) := by
      rw [Cells.ldN ht' hi (by omega) (by omega)]; simp [tarr, List.range_succ]
    have r1' := r1.mono sg'
    have r2' := r2.mono sg'
    have hy' := hy2.mono sg'
    simp only [rn0, rn1, rn2, rn3, rn4, rn5, rn6, rn7, rn8, if_true, if_false, Nat.le_refl, true_and, and_true, decide_true, decide_false, Bool.not_true, Bool.not_false, reduceIte, Nat.reduceEqDiff, Nat.reduceAdd, Nat.reduceMul, Nat.reduceSub, Nat.reduceLeDiff, Nat.reduceLT, p2, p3, p4, p7, p36, p37, p38, hi', Cells.idx ht' hi, hld]
    refine step_new (vs := tarr S (L.getD (i + 1) fun _ => 0)) (by omega) (by omega) rfl (by simp only [rn0, rn1, rn2, rn3, rn4, rn5, rn6, rn7, rn8, if_true, if_false, Nat.le_refl, true_and, and_true, decide_true, decide_false, Bool.not_true, Bool.not_false, reduceIte, Nat.reduceEqDiff, Nat.reduceAdd, Nat.reduceMul, Nat.reduceSub, Nat.reduceLeDiff, Nat.reduceLT]; rfl) tarr_one tarr_len rfl fun g7 hx7 => ?_
    have n7 := hx7.next
    have f7 := hx7.floor
    have r17 := r1'.mono hx7.sub
    have r27 := r2'.mono hx7.sub
    obtain ⟨g8, b8, e8, i8, lb8, ub8, o8, u8, m8, f8⟩ := hH _ (hat (i + 1) (by omega)) g7 (by omega) (by omega) (hy'.mono hx7.sub)
    have sub8 : Sub All g7 g8 := AHeap.subOf o8
    simp only [rn0, rn1, rn2, rn3, rn4, rn5, rn6, rn7, rn8, if_true, if_false, Nat.le_refl, true_and, and_true, decide_true, decide_false, Bool.not_true, Bool.not_false, reduceIte, Nat.reduceEqDiff, Nat.reduceAdd, Nat.reduceMul, Nat.reduceSub, Nat.reduceLeDiff, Nat.reduceLT, p2, p3, p4, p7, p36, p37, p38, r17.whole (n := 1) rfl, r27.whole (n := 8) rfl, hx7.row.whole tarr_len, e8, len_slice]
    have gi8 : g8.get bw = some (.row (rngL (hoursN S v) (loB S v L i) (hiB S v L i)) true 2) := by
      have := AHeap.lt_of_get gi
      rw [o8 _ (by omega), hx7.old _ this]; exact gi
    refine W_loop (hoursN S v) (fun j f g'' ms => (Keep bw g8 g'' ∧ g''.get bw = some (.row (rngL (hoursN S v) (fun q => if q < j then loB S v L (i + 1) q else loB S v L i q) (fun q => if q < j then hiB S v L (i + 1) q else hiB S v L i q)) true 2) ∧ g''.next ≤ g8.next + 2 * j) ∧ ms = [] ∧ f 2 = .int .i64 (v : Int) ∧ f 3 = .pointer (some ⟨h.next, 0, none⟩) ∧ f 4 = .pointer (some ⟨g1.next, 0, none⟩) ∧ f 7 = .slice (some ⟨bw, 0, none⟩) (hoursN S v) unk ∧ f 36 = tl ∧ f 37 = .int .i64 ((L.length - 1 : Nat) : Int) ∧ f 38 = .int .i64 (i : Int) ∧ f 46 = .slice (some ⟨b8, 0, none⟩) (hoursN S v) (hoursN S v) ∧ f 47 = .int .i64 (hoursN S v : Int) ∧ f 48 = .int .i64 (j : Int)) (by simp; omega) ?_ ?_ ?_
    · simp only [rn0, rn1, rn2, rn3, rn4, rn5, rn6, rn7, rn8, if_true, if_false, Nat.le_refl, true_and, and_true, decide_true, decide_false, Bool.not_true, Bool.not_false, reduceIte, Nat.reduceEqDiff, Nat.reduceAdd, Nat.reduceMul, Nat.reduceSub, Nat.reduceLeDiff, Nat.reduceLT, p2, p3, p4, p7, p36, p37, p38]
      have e0 : rngL (hoursN S v) (fun q => if q < 0 then loB S v L (i + 1) q else loB S v L i q) (fun q => if q < 0 then hiB S v L (i + 1) q else hiB S v L i q) = rngL (hoursN S v) (loB S v L i) (hiB S v L i) := rngL_congr fun k _ => ⟨if_neg (by omega), if_neg (by omega)⟩
      rw [e0]
      exact ⟨⟨Keep.refl, gi8, by omega⟩, rfl⟩
    · rintro j f g'' ms hj ⟨⟨kj, gj, gjn⟩, rfl, p2, p3, p4, p7, p36, p37, p38, p46, p47, p48⟩
      have hj' : (j : Int) < (hoursN S v : Int) := by omega
      have hwj : wrapF .i64 ((j : Int) + 1) = ((j + 1 : Nat) : Int) := by rw [wrap_in (by omega) (by omega)]; rfl
      have jup := kj.up
      have jfl := kj.floor
      have hb8 : b8 ≠ bw := by have := AHeap.lt_of_get gi; omega
      have i8' := i8.keep kj fun a k c e => by cases e; exact hb8
      have hrg := rngL_cells (cap := unk) gj
      have hlo : loadCell g'' (.pointer (some ⟨bw, j * 2, none⟩)) = some (.int .i64 (loB S v L i j)) := by
        have := Cells.ld hrg hj (by omega : 0 < 2)
        simpa [ptrO] using this
      have hhi : loadCell g'' (.pointer (some ⟨bw, j * 2 + 1, none⟩)) = some (.int .i64 (hiB S v L i j)) := by
        have := Cells.ld hrg hj (by omega : 1 < 2)
        simpa [ptrO] using this
      simp only [rn0, rn1, rn2, rn3, rn4, rn5, rn6, rn7, rn8, if_true, if_false, Nat.le_refl, true_and, and_true, decide_true, decide_false, Bool.not_true, Bool.not_false, reduceIte, Nat.reduceEqDiff, Nat.reduceAdd, Nat.reduceMul, Nat.reduceSub, Nat.reduceLeDiff, Nat.reduceLT, p2, p3, p4, p7, p36, p37, p38, p46, p47, p48, hj', Cells.idx i8' hj, Cells.ld i8' hj Nat.zero_lt_one]
      refine W_draw All ?_
      simp only [rn0, rn1, rn2, rn3, rn4, rn5, rn6, rn7, rn8, if_true, if_false, Nat.le_refl, true_and, and_true, decide_true, decide_false, Bool.not_true, Bool.not_false, reduceIte, Nat.reduceEqDiff, Nat.reduceAdd, Nat.reduceMul, Nat.reduceSub, Nat.reduceLeDiff, Nat.reduceLT, p2, p3, p4, p7, p36, p37, p38, p46, p47, p48, idxSl_s (s := 2) hj, Nat.add_zero, hlo, hhi, eqV_int, sl_int]
      refine up_slice (by omega) rfl (fun g9 hx => hx.sub) fun g9 hx9 => ?_
      have n9 := hx9.next
      have f9 := hx9.floor
      have em := min_one (n := n) (by omega) (x := loB S v L i j) hx9.get
      have hmin : min (loB S v L i j) (blueS S (L.getD (i + 1) fun _ => 0) v (S.vb v + (j : Int))) = loB S v L (i + 1) j := rfl
      have hmax : max (hiB S v L i j) (blueS S (L.getD (i + 1) fun _ => 0) v (S.vb v + (j : Int))) = hiB S v L (i + 1) j := rfl
      rw [hmin] at em
      simp only [rn0, rn1, rn2, rn3, rn4, rn5, rn6, rn7, rn8, if_true, if_false, Nat.le_refl, true_and, and_true, decide_true, decide_false, Bool.not_true, Bool.not_false, reduceIte, Nat.reduceEqDiff, Nat.reduceAdd, Nat.reduceMul, Nat.reduceSub, Nat.reduceLeDiff, Nat.reduceLT, p2, p3, p4, p7, p36, p37, p38, p46, p47, p48, em, idxSl_s (s := 2) hj, Nat.add_zero, hlo, hhi, eqV_int, p_max, r_max, valN_tmp, Nat.reduceLT, hmax, build_range]
      refine ⟨hx9.sub, ?_⟩
      refine up_store (b := bw) (off := j * 2) (vs := [.int .i64 (loB S v L (i + 1) j), .int .i64 (hiB S v L (i + 1) j)]) rfl (hx9.sub _ _ _ _ trivial gj) (by have := AHeap.lt_of_get gj; omega) (by omega) rfl rfl rfl (by rw [rngL, flatL_len]; omega) (fun _ _ => trivial) fun g10 hs10 => ?_
      have n10 := hs10.next
      have f10 := hs10.floor
      have h10 := hs10.get
      rw [rngL, flatR_splice hj] at h10
      have e10 : (flatL 2 (hoursN S v) fun k' q => Value.int .i64 (if q = 0 then (fun i_1 => if i_1 = j then loB S v L (i + 1) j else (fun q => if q < j then loB S v L (i + 1) q else loB S v L i q) i_1) k' else (fun i_1 => if i_1 = j then hiB S v L (i + 1) j else (fun q => if q < j then hiB S v L (i + 1) q else hiB S v L i q) i_1) k')) = rngL (hoursN S v) (fun q => if q < j + 1 then loB S v L (i + 1) q else loB S v L i q) (fun q => if q < j + 1 then hiB S v L (i + 1) q else hiB S v L i q) := rngL_congr fun k hk => by
        by_cases c : k = j
        · subst c
          simp
        · by_cases c' : k < j
          · have : k < j + 1 := by omega
            simp [c, c', this]
          · have : ¬ k < j + 1 := by omega
            simp [c, c', this]
      rw [e10] at h10
      simp only [rn0, rn1, rn2, rn3, rn4, rn5, rn6, rn7, rn8, if_true, if_false, Nat.le_refl, true_and, and_true, decide_true, decide_false, Bool.not_true, Bool.not_false, reduceIte, Nat.reduceEqDiff, Nat.reduceAdd, Nat.reduceMul, Nat.reduceSub, Nat.reduceLeDiff, Nat.reduceLT, p2, p3, p4, p7, p36, p37, p38, p46, p47, p48, hwj]
      exact ⟨(kj.trans hx9.keep).trans hs10.keep, h10, by omega⟩
    · rintro f g'' ms ⟨⟨kj, gj, gjn⟩, rfl, p2, p3, p4, p7, p36, p37, p38, p46, p47, p48⟩
      have jup := kj.up
      have jfl := kj.floor
      simp only [rn0, rn1, rn2, rn3, rn4, rn5, rn6, rn7, rn8, if_true, if_false, Nat.le_refl, true_and, and_true, decide_true, decide_false, Bool.not_true, Bool.not_false, reduceIte, Nat.reduceEqDiff, Nat.reduceAdd, Nat.reduceMul, Nat.reduceSub, Nat.reduceLeDiff, Nat.reduceLT, p2, p3, p4, p7, p36, p37, p38, p46, p47, p48, Int.lt_irrefl, hwi]
      have e1 : rngL (hoursN S v) (fun q => if q < hoursN S v then loB S v L (i + 1) q else loB S v L i q) (fun q => if q < hoursN S v then hiB S v L (i + 1) q else hiB S v L i q) = rngL (hoursN S v) (loB S v L (i + 1)) (hiB S v L (i + 1)) := rngL_congr fun k hk => ⟨if_pos hk, if_pos hk⟩
      rw [e1] at gj
      have k78 : Keep bw g' g8 := ⟨fun q cs w gr hq hg => by have := AHeap.lt_of_get hg; rw [o8 _ (by omega), hx7.old _ this]; exact hg, by omega, by omega⟩
      exact ⟨(kin.trans k78).trans kj, gj, by omega⟩
  · rintro f g' ms ⟨⟨kin, gi, gin⟩, rfl, p2, p3, p4, p7, p36, p37, p38⟩
    have kup := kin.up
    have kfl := kin.floor
    simp only [rn0, rn1, rn2, rn3, rn4, rn5, rn6, rn7, rn8, if_true, if_false, Nat.le_refl, true_and, and_true, decide_true, decide_false, Bool.not_true, Bool.not_false, reduceIte, Nat.reduceEqDiff, Nat.reduceAdd, Nat.reduceMul, Nat.reduceSub, Nat.reduceLeDiff, Nat.reduceLT, p2, p3, p4, p7, p36, p37, p38, Int.lt_irrefl]
    exact ⟨rngL_cells gi, rfl, fun q cs w gr t hg => by
      have hlt := AHeap.lt_of_get hg
      exact kin.sub _ _ _ _ (by omega) (s6 _ _ _ _ trivial (sub2g _ _ _ _ trivial (sub2 _ _ _ _ trivial hg))), by omega, by omega, by omega⟩
end Go.Vm.St

namespace Go.Vm.St
open Go.Proofs Go.Vm.Vat
set_option linter.unusedSimpArgs false
set_option linter.unusedVariables false
set_option maxRecDepth 10000
variable {n : Nat} {h : AHeap}
structure TruIn (h : AHeap) (v r1 r2 : Value) (S : MS) (u : Nat → Int) : Prop where
  tru : TruR h r1 r2 S u
  b1 : ∀ x m c, r1 = .slice (some x) m c → x.block < h.next ∧ NeB v x.block
  b2 : ∀ x m c, r2 = .slice (some x) m c → x.block < h.next ∧ NeB v x.block
def trsC (S : MS) (l : List (Nat → Int)) (R1 R2 : Nat → Value) (k j : Nat) : Value := if j = 0 then R1 k else if j = 1 then .int .i64 ((l.getD k fun _ => 0) S.nw) else R2 k
structure TrsG (B : Nat) (h : AHeap) (v : Value) (S : MS) (l : List (Nat → Int)) (R1 R2 : Nat → Value) : Prop where
  g : GrowC B h v 3 l.length (trsC S l R1 R2)
  t : ∀ k, k < l.length → TruIn h v (R1 k) (R2 k) S (l.getD k fun _ => 0)
theorem TrsG.nil {B : Nat} {S : MS} : TrsG B h nilS S [] (fun _ => nilS) (fun _ => nilS) := ⟨.nil, fun k hk => absurd hk (Nat.not_lt_zero _)⟩
theorem TruIn.old {g : AHeap} {v r1 r2 : Value} {S : MS} {u : Nat → Int} (ht : TruIn h v r1 r2 S u) (ho : ∀ i, i < h.next → NeB v i → g.get i = h.get i) (hn : h.next ≤ g.next) : TruIn g v r1 r2 S u :=
  ⟨⟨cells_at ht.tru.w fun a k c e hlt => ho _ hlt (ht.b1 a k c e).2, cells_at ht.tru.f fun a k c e hlt => ho _ hlt (ht.b2 a k c e).2⟩, fun x m c e => ⟨by have := (ht.b1 x m c e).1; omega, (ht.b1 x m c e).2⟩, fun x m c e => ⟨by have := (ht.b2 x m c e).1; omega, (ht.b2 x m c e).2⟩⟩
theorem TrsG.old {B : Nat} {g : AHeap} {v : Value} {S : MS} {l : List (Nat → Int)} {R1 R2 : Nat → Value} (ht : TrsG B h v S l R1 R2) (ho : ∀ i, i < h.next → g.get i = h.get i) (hn : h.next ≤ g.next) : TrsG B g v S l R1 R2 :=
  ⟨GrowC.at' ht.g fun a k c e => ho _ (ht.g.block e).2, fun k hk => (ht.t k hk).old (fun i hi _ => ho i hi) hn⟩
theorem TrsG.push {B : Nat} {g1 : AHeap} {v r1 r2 : Value} {S : MS} {l : List (Nat → Int)} {R1 R2 : Nat → Value} {u : Nat → Int} (ht : TrsG B h v S l R1 R2) (hB : h.floor ≤ B) (hf : h.next + 2 < far) (hBn : B ≤ h.next) (hx : New h g1 (trL r1 r2 (u S.nw)) 0) (hu : TruIn h v r1 r2 S u) (o1 : oneCell r1 = true) (o2 : oneCell r2 = true) (hl : l.length ≤ 5000) :
    ∃ v' g2, appendA 3 56 g1 v (.slice (some ⟨h.next, 0, none⟩) 1 1) = some (v', g2) ∧ TrsG B g2 v' S (l ++ [u]) (fun k => if k = l.length then r1 else R1 k) (fun k => if k = l.length then r2 else R2 k) ∧ oneCell v' = true ∧ g2.next = h.next + 2 ∧ g2.floor = h.floor ∧ (∀ i, i < h.next → NeB v i → g2.get i = h.get i) := by
  have hlen : (l ++ [u]).length = l.length + 1 := by simp
  have hg : GrowC B h v 3 l.length (trsC S (l ++ [u]) (fun k => if k = l.length then r1 else R1 k) (fun k => if k = l.length then r2 else R2 k)) := growC_congr ht.g fun k j hk hj => by
    have : ¬ k = l.length := by omega
    simp only [trsC, this, if_false]
    rw [List.getD_eq_getElem?_getD, List.getD_eq_getElem?_getD, List.getElem?_append_left hk]
  obtain ⟨g2, e, gv, n2, f2, o2', u2⟩ := grow_push3 (bytes := 56) hg hB hf hBn hx rfl (by simp [trL, allB, o1, o2, one_int]) (fun j hj => by
    have hlast : ((l ++ [u]).getD l.length fun _ => 0) = u := by rw [List.getD_eq_getElem?_getD, List.getElem?_append_right (Nat.le_refl _)]; simp
    simp only [trsC, if_true, hlast]
    rcases j with _ | _ | _ | j
    · rfl
    · rfl
    · rfl
    · omega) (by simp [maxBytes]; omega) (by simp [maxBytes]; omega)
  refine ⟨_, g2, e, ⟨by rw [hlen]; exact gv, fun k hk => ?_⟩, rfl, n2, f2, o2'⟩
  have fresh : ∀ i, i < h.next → NeB (.slice (some ⟨h.next + 1, 0, none⟩) (l.length + 1) unk) i := fun i hi b m c e => by cases e; show i ≠ h.next + 1; omega
  have re : ∀ {a b : Value} {w : Nat → Int}, TruIn h v a b S w → TruIn g2 (.slice (some ⟨h.next + 1, 0, none⟩) (l.length + 1) unk) a b S w := fun {a b w} hi => by
    have h1 := hi.old (g := g2) o2' (by omega)
    exact ⟨h1.tru, fun x m c e => ⟨(h1.b1 x m c e).1, fresh _ (hi.b1 x m c e).1⟩, fun x m c e => ⟨(h1.b2 x m c e).1, fresh _ (hi.b2 x m c e).1⟩⟩
  by_cases c : k = l.length
  · subst c
    have hlast : ((l ++ [u]).getD l.length fun _ => 0) = u := by rw [List.getD_eq_getElem?_getD, List.getElem?_append_right (Nat.le_refl _)]; simp
    simp only [if_true, hlast]
    exact re hu
  · have hk' : k < l.length := by omega
    simp only [c, if_false]
    rw [List.getD_eq_getElem?_getD, List.getElem?_append_left hk', ← List.getD_eq_getElem?_getD]
    exact re (ht.t k hk')
end Go.Vm.St

namespace Go.Vm.St
open Go.Proofs Go.Vm.Vat
set_option linter.unusedSimpArgs false
set_option linter.unusedVariables false
set_option maxRecDepth 10000
variable {n : Nat} {h : AHeap}
end Go.Vm.St

namespace Go.Vm.St
open Go.Proofs Go.Vm.Vat
set_option linter.unusedSimpArgs false
set_option linter.unusedVariables false
set_option maxRecDepth 10000
variable {n : Nat} {h : AHeap}
def OutR (h : AHeap) (S : MS) (at_ : Int) (v : Value) (h' : AHeap) : Prop := Sub All h h' ∧ h.next ≤ h'.next ∧ h'.next ≤ h.next + 700000 ∧ h'.floor = h.floor ∧
  ((faultS S ≠ 0 ∧ v = .tuple ⟨[nilS, .int .i64 (faultS S)]⟩) ∨ (faultS S = 0 ∧ ¬ InV S at_ ∧ v = .tuple ⟨[nilS, .int .i64 2]⟩) ∨ (faultS S = 0 ∧ InV S at_ ∧ truthsS S = [] ∧ v = .tuple ⟨[nilS, .int .i64 11]⟩) ∨
    (faultS S = 0 ∧ InV S at_ ∧ truthsS S ≠ [] ∧ ∃ r, v = .tuple ⟨[r, .int .i64 0]⟩ ∧ Ranges h' r (hoursN S at_.toNat) (loB S at_.toNat (truthsS S) ((truthsS S).length - 1)) (hiB S at_.toNat (truthsS S) ((truthsS S).length - 1))))
def s35 : SCode := (.seq (.ops [⟨(some 2), none, .box (T 0)⟩, ⟨(some 4), none, .mov (.const (.slice none 0 0))⟩, ⟨(some 5), none, .mov (.const (.int .i64 (0)))⟩]) (.seq (.ops [⟨(some 9), none, .loadN 7 (T 2)⟩, ⟨(some 10), none, .mov (T 1)⟩, ⟨(some 11), none, .call (.func 88) [(T 9), (T 10), (.const (.slice none 0 0))]⟩, ⟨(some 8), none, .mov (T 11)⟩, ⟨(some 12), none, .extract 0 (T 8)⟩, ⟨(some 13), none, .extract 1 (T 8)⟩, ⟨(some 6), none, .alloc [(.int .i64 (0)), (.int .i64 (0)), (.slice none 0 0), (.int .i64 (0)), (.int .i64 (0)), (.slice none 0 0), (.slice none 0 0), (.slice none 0 0)]⟩, ⟨none, none, .store 8 (T 6) (T 12)⟩, ⟨(some 7), none, .mov (T 13)⟩]) (.seq (.seq (.ops [⟨(some 14), none, .mov (T 7)⟩, ⟨(some 15), none, .int2 .neq (T 14) (.const (.int .i64 (0)))⟩]) (.cond (T 15) (.seq (.ops [⟨(some 16), none, .mov (T 7)⟩, ⟨(some 4), none, .mov (.const (.slice none 0 0))⟩, ⟨(some 5), none, .mov (T 16)⟩]) .ret) .skip)) (.seq (.ops [⟨(some 17), none, .build #[(0, 1)] [.nilFunc] [0] [(.func 76)]⟩, ⟨(some 18), none, .loadN 8 (T 6)⟩, ⟨(some 19), none, .mov (T 1)⟩, ⟨(some 20), none, .call (.func 89) [(T 17), (T 18), (T 19)]⟩, ⟨(some 4), none, .mov (T 20)⟩, ⟨(some 5), none, .mov (.const (.int .i64 (0)))⟩]) .ret))))
theorem fok35 : FnOk Try.prog 35 21 s35 [.tmp 4, .tmp 5] := ⟨Try.f35, _, Try.func35, rfl, Try.ntmps35, by kernel_rfl, by kernel_rfl⟩
set_option maxHeartbeats 1000000 in
theorem out_c (hn : 2400 ≤ n) (hr : h.next + 1000000 < far) (hfl : h.floor ≤ h.next) {wv vv sv : Value} {S : MS} (hy : SteepR h wv vv sv S) (hT : ThinS S) (at_ : Int) :
    ∃ v h', call n (.func (.func 35) #[] #[]) [.agg ⟨stL S wv vv sv⟩, .int .i64 at_] h = some (v, h') ∧ OutR h S at_ v h' := by
  obtain ⟨n, rfl⟩ : ∃ p, n = p + 1 := ⟨n - 1, by omega⟩
  refine call_any0 fok35 rfl rfl (by simp) ?_
  simp only [s35, W_seq, W_ops]
  refine ops_box (cs := stL S wv vv sv) (by omega) rfl hy.one fun g1 hx1 => ?_
  have n1 := hx1.next
  have f1 := hx1.floor
  have w1 := hx1.row.whole (n := 7) rfl
  obtain ⟨pv, g2, eo, o2, u2, m2, f2, hp⟩ := openVat_c (n := n) (h := g1) (by omega) (by omega) (by omega) (hy.mono hx1.sub) hT at_
  have sub2 : Sub All h g2 := hx1.sub.trans (AHeap.subOf o2)
  rcases hp with ⟨hf, rfl⟩ | ⟨hf, hv, rfl⟩ | ⟨hf, hv, hz, rfl⟩ | ⟨hf, hv, hz, tv, rfl, hone, htr, hlong⟩
  · simp only [rn0, rn1, rn2, rn3, rn4, rn5, rn6, rn7, rn8, if_true, if_false, Nat.le_refl, true_and, and_true, decide_true, decide_false, Bool.not_true, Bool.not_false, reduceIte, Nat.reduceEqDiff, Nat.reduceAdd, Nat.reduceMul, Nat.reduceSub, Nat.reduceLeDiff, Nat.reduceLT, w1, eo, ex0, ex1]
    refine step_new (vs := wk0) (by omega) (by omega) rfl (by simp only [rn0, rn1, rn2, rn3, rn4, rn5, rn6, rn7, rn8, if_true, if_false, Nat.le_refl, true_and, and_true, decide_true, decide_false, Bool.not_true, Bool.not_false, reduceIte, Nat.reduceEqDiff, Nat.reduceAdd, Nat.reduceMul, Nat.reduceSub, Nat.reduceLeDiff, Nat.reduceLT]; rfl) rfl rfl rfl fun g3 hx3 => ?_
    have n3 := hx3.next
    have f3 := hx3.floor
    simp only [rn0, rn1, rn2, rn3, rn4, rn5, rn6, rn7, rn8, if_true, if_false, Nat.le_refl, true_and, and_true, decide_true, decide_false, Bool.not_true, Bool.not_false, reduceIte, Nat.reduceEqDiff, Nat.reduceAdd, Nat.reduceMul, Nat.reduceSub, Nat.reduceLeDiff, Nat.reduceLT, hf, ret_tt]
    exact ⟨sub2.trans hx3.sub, by omega, by omega, by omega, .inl ⟨hf, rfl⟩⟩
  · simp only [rn0, rn1, rn2, rn3, rn4, rn5, rn6, rn7, rn8, if_true, if_false, Nat.le_refl, true_and, and_true, decide_true, decide_false, Bool.not_true, Bool.not_false, reduceIte, Nat.reduceEqDiff, Nat.reduceAdd, Nat.reduceMul, Nat.reduceSub, Nat.reduceLeDiff, Nat.reduceLT, w1, eo, ex0, ex1]
    refine step_new (vs := wk0) (by omega) (by omega) rfl (by simp only [rn0, rn1, rn2, rn3, rn4, rn5, rn6, rn7, rn8, if_true, if_false, Nat.le_refl, true_and, and_true, decide_true, decide_false, Bool.not_true, Bool.not_false, reduceIte, Nat.reduceEqDiff, Nat.reduceAdd, Nat.reduceMul, Nat.reduceSub, Nat.reduceLeDiff, Nat.reduceLT]; rfl) rfl rfl rfl fun g3 hx3 => ?_
    have n3 := hx3.next
    have f3 := hx3.floor
    have z20 : ¬ (2 : Int) = 0 := by decide
    simp only [rn0, rn1, rn2, rn3, rn4, rn5, rn6, rn7, rn8, if_true, if_false, Nat.le_refl, true_and, and_true, decide_true, decide_false, Bool.not_true, Bool.not_false, reduceIte, Nat.reduceEqDiff, Nat.reduceAdd, Nat.reduceMul, Nat.reduceSub, Nat.reduceLeDiff, Nat.reduceLT, z20, ret_tt]
    exact ⟨sub2.trans hx3.sub, by omega, by omega, by omega, .inr (.inl ⟨hf, hv, rfl⟩)⟩
  · simp only [rn0, rn1, rn2, rn3, rn4, rn5, rn6, rn7, rn8, if_true, if_false, Nat.le_refl, true_and, and_true, decide_true, decide_false, Bool.not_true, Bool.not_false, reduceIte, Nat.reduceEqDiff, Nat.reduceAdd, Nat.reduceMul, Nat.reduceSub, Nat.reduceLeDiff, Nat.reduceLT, w1, eo, ex0, ex1]
    refine step_new (vs := wk0) (by omega) (by omega) rfl (by simp only [rn0, rn1, rn2, rn3, rn4, rn5, rn6, rn7, rn8, if_true, if_false, Nat.le_refl, true_and, and_true, decide_true, decide_false, Bool.not_true, Bool.not_false, reduceIte, Nat.reduceEqDiff, Nat.reduceAdd, Nat.reduceMul, Nat.reduceSub, Nat.reduceLeDiff, Nat.reduceLT]; rfl) rfl rfl rfl fun g3 hx3 => ?_
    have n3 := hx3.next
    have f3 := hx3.floor
    have z110 : ¬ (11 : Int) = 0 := by decide
    simp only [rn0, rn1, rn2, rn3, rn4, rn5, rn6, rn7, rn8, if_true, if_false, Nat.le_refl, true_and, and_true, decide_true, decide_false, Bool.not_true, Bool.not_false, reduceIte, Nat.reduceEqDiff, Nat.reduceAdd, Nat.reduceMul, Nat.reduceSub, Nat.reduceLeDiff, Nat.reduceLT, z110, ret_tt]
    exact ⟨sub2.trans hx3.sub, by omega, by omega, by omega, .inr (.inr (.inl ⟨hf, hv, hz, rfl⟩))⟩
  · have hG := good_of hf
    have how := wk_one hy (tv := tv) hone
    simp only [rn0, rn1, rn2, rn3, rn4, rn5, rn6, rn7, rn8, if_true, if_false, Nat.le_refl, true_and, and_true, decide_true, decide_false, Bool.not_true, Bool.not_false, reduceIte, Nat.reduceEqDiff, Nat.reduceAdd, Nat.reduceMul, Nat.reduceSub, Nat.reduceLeDiff, Nat.reduceLT, w1, eo, ex0, ex1]
    refine step_new (vs := wkL S wv vv sv tv) (by omega) (by omega) rfl (by simp only [rn0, rn1, rn2, rn3, rn4, rn5, rn6, rn7, rn8, if_true, if_false, Nat.le_refl, true_and, and_true, decide_true, decide_false, Bool.not_true, Bool.not_false, reduceIte, Nat.reduceEqDiff, Nat.reduceAdd, Nat.reduceMul, Nat.reduceSub, Nat.reduceLeDiff, Nat.reduceLT]; rfl) how rfl rfl fun g3 hx3 => ?_
    have n3 := hx3.next
    have f3 := hx3.floor
    have sub3 := sub2.trans hx3.sub
    obtain ⟨va, hva⟩ : ∃ va : Nat, at_ = (va : Int) := ⟨at_.toNat, by unfold InV at hv; omega⟩
    subst hva
    have hvn : va < S.nv := by unfold InV at hv; omega
    obtain ⟨r, g4, eb, hr4, hone4, sub4, u4, m4, f4⟩ := bounds_c (n := n) (h := g3) (by omega) (by omega) (by omega) (hy.mono sub3) (tv := tv) hone hG hz (truths_len hG) (fun t ht => (truths_mem.1 ht).1.1) (Cells.mono htr hx3.sub) hlong hvn
    simp only [rn0, rn1, rn2, rn3, rn4, rn5, rn6, rn7, rn8, if_true, if_false, Nat.le_refl, true_and, and_true, decide_true, decide_false, Bool.not_true, Bool.not_false, reduceIte, Nat.reduceEqDiff, Nat.reduceAdd, Nat.reduceMul, Nat.reduceSub, Nat.reduceLeDiff, Nat.reduceLT, build_meas, hx3.row.whole (n := 8) rfl, eb, ret_tt]
    exact ⟨sub3.trans sub4, by omega, by omega, by omega, .inr (.inr (.inr ⟨hf, hv, hz, r, rfl, hr4⟩))⟩
end Go.Vm.St

namespace Go.Vm.St
open Go.Proofs Go.Vm.Vat
set_option linter.unusedSimpArgs false
set_option linter.unusedVariables false
set_option maxRecDepth 10000
variable {n : Nat} {h : AHeap}
noncomputable def verdS (S : MS) (v : Nat) (hh kk : Int) (L : List (Nat → Int)) : Int := open Classical in if ∀ t, t ∈ L → kindS S t v hh ≠ kk then 2 else if ∀ t, t ∈ L → kindS S t v hh = kk then 1 else 3
theorem sumK_at {S : MS} {v : Nat} {L : List (Nat → Int)} {hh kk : Int} (hG : Good S) (ho : HourOk S v hh) : ∀ k, (sumK S v L ((v : Int), hh, kk) k = 0 ↔ ∀ i, i < k → kindS S (L.getD i fun _ => 0) v hh ≠ kk) ∧ (sumK S v L ((v : Int), hh, kk) k = k ↔ ∀ i, i < k → kindS S (L.getD i fun _ => 0) v hh = kk)
  | 0 => by simp [sumK]
  | k + 1 => by
    obtain ⟨h1, h2⟩ := sumK_at hG ho (L := L) (kk := kk) k
    obtain ⟨b1, b2⟩ := sumK_bound (S := S) (v := v) (L := L) (p := ((v : Int), hh, kk)) k
    obtain ⟨m1, _⟩ := hoursN_ok hG ho.isV
    have hlo := ho.isLo
    have hhi := ho.isHi
    have e : oneK S v (L.getD k fun _ => 0) (hoursN S v) ((v : Int), hh, kk) = if kk = kindS S (L.getD k fun _ => 0) v hh then 1 else 0 := by
      unfold oneK
      by_cases c : kk = kindS S (L.getD k fun _ => 0) v hh
      · rw [if_pos ⟨rfl, hlo, by show hh < _; omega, c⟩, if_pos c]
      · rw [if_neg fun q => c q.2.2.2, if_neg c]
    simp only [sumK]
    rw [e]
    by_cases c : kk = kindS S (L.getD k fun _ => 0) v hh
    · rw [if_pos c]
      constructor
      · constructor
        · intro q; omega
        · intro q; exact absurd c.symm (q k (by omega))
      · constructor
        · intro q i hi
          have q' : sumK S v L ((v : Int), hh, kk) k = k := by omega
          by_cases e : i = k
          · rw [e]; exact c.symm
          · exact h2.1 q' i (by omega)
        · intro q
          have := h2.2 fun i hi => q i (by omega)
          omega
    · rw [if_neg c]
      constructor
      · constructor
        · intro q i hi
          have q' : sumK S v L ((v : Int), hh, kk) k = 0 := by omega
          by_cases e : i = k
          · rw [e]; exact fun q => c q.symm
          · exact h1.1 q' i (by omega)
        · intro q
          have := h1.2 fun i hi => q i (by omega)
          omega
      · constructor
        · intro q; omega
        · intro q; exact absurd (q k (by omega)).symm c
theorem all_at {L : List (Nat → Int)} {p : (Nat → Int) → Prop} : (∀ i, i < L.length → p (L.getD i fun _ => 0)) ↔ ∀ t, t ∈ L → p t := by
  constructor
  · intro hp t ht
    obtain ⟨i, hi, e⟩ := mem_getD ht
    rw [← e]
    exact hp i hi
  · intro hp i hi
    exact hp _ (getD_mem hi)
theorem cntK_all {S : MS} {v : Nat} {L : List (Nat → Int)} {p : Int × Int × Int} : cntK S v L L.length 0 p = sumK S v L p L.length := by
  simp only [cntK, oneK]
  rw [if_neg (by omega)]
  omega
open Classical in
theorem verd_cnt {S : MS} {v : Nat} {L : List (Nat → Int)} {hh kk : Int} (hG : Good S) (ho : HourOk S v hh) : (if cntK S v L L.length 0 ((v : Int), hh, kk) = 0 then (2 : Int) else if cntK S v L L.length 0 ((v : Int), hh, kk) = L.length then 1 else 3) = verdS S v hh kk L := by
  obtain ⟨h1, h2⟩ := sumK_at hG ho (L := L) (kk := kk) L.length
  rw [cntK_all]
  unfold verdS
  rw [all_at (p := fun t => kindS S t v hh ≠ kk)] at h1
  rw [all_at (p := fun t => kindS S t v hh = kk)] at h2
  simp only [h1, h2]
def s90 : SCode := (.seq (.ops [⟨(some 4), none, .box (T 0)⟩, ⟨(some 8), none, .mov (.const (.int .i64 (0)))⟩]) (.seq (.seq (.ops [⟨(some 9), none, .mov (T 1)⟩, ⟨(some 10), none, .mov (T 2)⟩, ⟨(some 11), none, .mov (T 3)⟩, ⟨(some 12), none, .build #[(0, 1), (1, 1), (2, 1)] [(.int .i64 (0)), (.int .i64 (0)), (.int .i64 (0))] [0, 1, 2] [(T 10), (T 11), (.const (.int .i64 (1)))]⟩, ⟨(some 13), none, .lookup 89 (.int .i64 (0)) false (T 9) (T 12)⟩]) (.block 0 (.seq (.ops [⟨(some 15), none, .int2 .eql (T 13) (.const (.int .i64 (0)))⟩, ⟨(some 14), none, .mov (T 15)⟩]) (.cond (T 14) (.seq (.ops [⟨(some 8), none, .mov (.const (.int .i64 (2)))⟩]) .ret) (.seq (.ops [⟨(some 17), none, .fieldAddr 7 (T 4)⟩, ⟨(some 18), none, .load1 (T 17)⟩, ⟨(some 19), none, .len (T 18)⟩, ⟨(some 20), none, .int2 .eql (T 13) (T 19)⟩, ⟨(some 16), none, .mov (T 20)⟩]) (.cond (T 16) (.seq (.ops [⟨(some 8), none, .mov (.const (.int .i64 (1)))⟩]) .ret) .skip)))))) (.seq (.ops [⟨(some 8), none, .mov (.const (.int .i64 (3)))⟩]) .ret)))
theorem fok90 : FnOk Try.prog 90 21 s90 [.tmp 8] := ⟨Try.f90, _, Try.func90, rfl, Try.ntmps90, by kernel_rfl, by kernel_rfl⟩
theorem verdict_c (hn : 5 ≤ n) (hr : h.next + 5 < far) {wv vv sv tv : Value} {S : MS} (hy : SteepR h wv vv sv S) (ho1 : oneCell tv = true) (hG : Good S) {L : List (Nat → Int)} (htr : TruthsR h S tv L) {r v : Nat} {hh : Int} (hm : MapF h r key3 (cntK S v L L.length 0)) (ho : HourOk S v hh) :
    call n (.func (.func 90) #[] #[]) [.agg ⟨wkL S wv vv sv tv⟩, .map (some r), .int .i64 (v : Int), .int .i64 hh] h = some (.int .i64 (verdS S v hh 1 L), h) := by
  obtain ⟨n, rfl⟩ : ∃ p, n = p + 1 := ⟨n - 1, by omega⟩
  refine call_plain0 fok90 rfl rfl (by simp) rfl ?_
  have hy := hy.shut
  have htr : TruthsR h.shutAll S tv L := Cells.shut htr
  have hm := hm.shut
  have hr : h.shutAll.next + 5 < far := hr
  generalize h.shutAll = h at hy htr hm hr
  simp only [s90, W_seq, W_ops]
  refine ops_box (cs := wkL S wv vv sv tv) (by omega) rfl (wk_one hy ho1) fun g1 hx1 => ?_
  have n1 := hx1.next
  have htr1 : TruthsR g1 S tv L := Cells.mono htr hx1.sub
  have hm1 : MapF g1 r key3 (cntK S v L L.length 0) := hm.keep (hx1.old _ hm.lt)
  have el := lookupF key89 hm1 ((v : Int), hh, 1)
  have el : lookupA Try.prog 89 (.int .i64 0) false g1 (.map (some r)) (.agg ⟨[.int .i64 (v : Int), .int .i64 hh, .int .i64 1]⟩) = some (.int .i64 (cntK S v L L.length 0 ((v : Int), hh, 1)), g1) := el
  have hv := verd_cnt (L := L) (kk := 1) hG ho
  by_cases c1 : cntK S v L L.length 0 ((v : Int), hh, 1) = 0
  · rw [if_pos c1] at hv
    simp only [rn0, rn1, rn2, rn3, rn4, rn5, rn6, rn7, rn8, if_true, if_false, Nat.le_refl, true_and, and_true, decide_true, decide_false, Bool.not_true, Bool.not_false, reduceIte, Nat.reduceEqDiff, Nat.reduceAdd, Nat.reduceMul, Nat.reduceSub, Nat.reduceLeDiff, Nat.reduceLT, build_sm, x_lookup, el, c1, ← hv]
  · rw [if_neg c1] at hv
    by_cases c2 : cntK S v L L.length 0 ((v : Int), hh, 1) = L.length
    · rw [if_pos c2] at hv
      have c1' : ¬ (L.length : Int) = 0 := by rw [← c2]; exact c1
      simp only [rn0, rn1, rn2, rn3, rn4, rn5, rn6, rn7, rn8, if_true, if_false, Nat.le_refl, true_and, and_true, decide_true, decide_false, Bool.not_true, Bool.not_false, reduceIte, Nat.reduceEqDiff, Nat.reduceAdd, Nat.reduceMul, Nat.reduceSub, Nat.reduceLeDiff, Nat.reduceLT, build_sm, x_lookup, el, c2, c1', hx1.row.ld, wkg, Nat.zero_add, Cells.len htr1, ← hv]
    · rw [if_neg c2] at hv
      simp only [rn0, rn1, rn2, rn3, rn4, rn5, rn6, rn7, rn8, if_true, if_false, Nat.le_refl, true_and, and_true, decide_true, decide_false, Bool.not_true, Bool.not_false, reduceIte, Nat.reduceEqDiff, Nat.reduceAdd, Nat.reduceMul, Nat.reduceSub, Nat.reduceLeDiff, Nat.reduceLT, build_sm, x_lookup, el, c1, hx1.row.ld, wkg, Nat.zero_add, Cells.len htr1, c2, ← hv]
end Go.Vm.St

namespace Go.Vm.St
open Go.Proofs Go.Vm.Vat
set_option linter.unusedSimpArgs false
set_option linter.unusedVariables false
set_option maxRecDepth 10000
variable {n : Nat} {h : AHeap}
def s121 : SCode := (.seq (.ops [⟨(some 4), none, .mov (.const (.bool false))⟩]) (.seq (.ops [⟨(some 5), none, .loadN 8 (T 1)⟩, ⟨(some 6), none, .load1 (T 2)⟩, ⟨(some 7), none, .mov (T 0)⟩, ⟨(some 8), none, .call (.func 122) [(T 5), (T 6), (T 7)]⟩, ⟨(some 4), none, .mov (T 8)⟩]) .ret))
theorem fok121 : FnOk Try.prog 121 9 s121 [.tmp 4] := ⟨Try.f121, _, Try.func121, rfl, Try.ntmps121, by kernel_rfl, by kernel_rfl⟩
theorem hour1_c (hn : 3 ≤ n) (hr : h.next + 2 < far) {wv vv sv tv : Value} {S : MS} (hy : SteepR h wv vv sv S) (ht : oneCell tv = true) {va : Nat} (hv : va < S.nv) {p q : Nat} (hp : Row h p (wkL S wv vv sv tv)) (hq : Row h q [.int .i64 (va : Int)]) (hh : Int) :
    call n (.func (.func 121) ⟨[]⟩ ⟨[.pointer (some ⟨p, 0, none⟩), .pointer (some ⟨q, 0, none⟩)]⟩) [.int .i64 hh] h = some (.bool (decide (S.vb va ≤ hh ∧ hh ≤ S.last)), h) := by
  obtain ⟨n, rfl⟩ : ∃ p, n = p + 1 := ⟨n - 1, by omega⟩
  refine call_plain (xs := []) (ys := [.pointer (some ⟨p, 0, none⟩), .pointer (some ⟨q, 0, none⟩)]) fok121 rfl rfl (by simp) rfl ?_
  have hy := hy.shut
  have hp := hp.mono (g := h.shutAll) fun _ _ _ _ _ h => h
  have hq := hq.mono (g := h.shutAll) fun _ _ _ _ _ h => h
  have hr : h.shutAll.next + 2 < far := hr
  generalize h.shutAll = h at hy hr hp hq
  have hi := hasHour_c (n := n) (h := h) (by omega) (by omega) hy ht hv hh
  simp only [rn0, rn1, rn2, rn3, rn4, rn5, rn6, rn7, rn8, if_true, if_false, Nat.le_refl, true_and, and_true, decide_true, decide_false, Bool.not_true, Bool.not_false, reduceIte, Nat.reduceEqDiff, Nat.reduceAdd, Nat.reduceMul, Nat.reduceSub, Nat.reduceLeDiff, Nat.reduceLT, s121, List.cons_append, List.nil_append, hp.whole (n := 8) rfl, hq.ld, Nat.zero_add, List.getElem?_cons_zero, hi]
theorem everyInt_one (hn : 5 ≤ n) (hr : h.next + 5 < far) {ok : Value} {r : Bool} {b : Nat} {x : Int} (hg : h.get b = some (.row [.int .i64 x] true 0)) (hok : ∀ g, Sub All h g → g.next ≤ h.next + 5 → call (n - 1) ok [.int .i64 x] g = some (.bool r, g)) :
    call n (.func (.func 120) #[] #[]) [.slice (some ⟨b, 0, none⟩) 1 1, ok] h = some (.bool r, h) := by
  obtain ⟨n, rfl⟩ : ∃ p, n = p + 1 := ⟨n - 1, by omega⟩
  rw [Nat.add_sub_cancel] at hok
  refine call_plain0 fok120 rfl rfl (by simp) rfl ?_
  have e0 := hok h.shutAll (fun _ _ _ _ _ h => h) (Nat.le_add_right _ _)
  have hrow : Row h.shutAll b [.int .i64 x] := (show Row h b [.int .i64 x] from ⟨_, _, hg⟩).mono fun _ _ _ _ _ h => h
  have hr : h.shutAll.next + 5 < far := hr
  generalize h.shutAll = h at hr e0 hrow
  have hc : Cells h (.slice (some ⟨b, 0, none⟩) 1 1) 1 1 (fun _ _ => .int .i64 x) := cells_row hrow fun k j hk hj => by
    obtain rfl : k = 0 := by omega
    obtain rfl : j = 0 := by omega
    rfl
  simp only [rn0, rn1, rn2, rn3, rn4, rn5, rn6, rn7, rn8, if_true, if_false, Nat.le_refl, true_and, and_true, decide_true, decide_false, Bool.not_true, Bool.not_false, reduceIte, Nat.reduceEqDiff, Nat.reduceAdd, Nat.reduceMul, Nat.reduceSub, Nat.reduceLeDiff, Nat.reduceLT, s120, len_slice]
  refine W_loop 1 (fun k f g m => g = h ∧ m = [] ∧ f 1 = ok ∧ f 7 = .slice (some ⟨b, 0, none⟩) 1 1 ∧ f 8 = .int .i64 ((1 : Nat) : Int) ∧ f 9 = .int .i64 (k : Int) ∧ (k = 1 → r = true)) (by simp; omega) ?_ ?_ ?_
  · simp only [rn0, rn1, rn2, rn3, rn4, rn5, rn6, rn7, rn8, if_true, if_false, Nat.le_refl, true_and, and_true, decide_true, decide_false, Bool.not_true, Bool.not_false, reduceIte, Nat.reduceEqDiff, Nat.reduceAdd, Nat.reduceMul, Nat.reduceSub, Nat.reduceLeDiff, Nat.reduceLT, Int.natCast_zero]
    first | done | exact fun e => absurd e (by omega) | exact ⟨rfl, fun e => absurd e (by omega)⟩ | simp
  · rintro k f g m hk ⟨rfl, rfl, p1, p7, p8, p9, _⟩
    obtain rfl : k = 0 := by omega
    have hlt : ((0 : Nat) : Int) < ((1 : Nat) : Int) := by decide
    have hw : wrapF .i64 (((0 : Nat) : Int) + 1) = ((0 + 1 : Nat) : Int) := by rw [wrap_in (by omega) (by omega)]; rfl
    cases r with
    | true =>
      simp only [rn0, rn1, rn2, rn3, rn4, rn5, rn6, rn7, rn8, if_true, if_false, Nat.le_refl, true_and, and_true, decide_true, decide_false, Bool.not_true, Bool.not_false, reduceIte, Nat.reduceEqDiff, Nat.reduceAdd, Nat.reduceMul, Nat.reduceSub, Nat.reduceLeDiff, Nat.reduceLT, p1, p7, p8, p9, hlt, Cells.idx hc Nat.zero_lt_one, Cells.ld hc Nat.zero_lt_one Nat.zero_lt_one, e0, hw]
      exact fun _ => trivial
    | false => simp only [rn0, rn1, rn2, rn3, rn4, rn5, rn6, rn7, rn8, if_true, if_false, Nat.le_refl, true_and, and_true, decide_true, decide_false, Bool.not_true, Bool.not_false, reduceIte, Nat.reduceEqDiff, Nat.reduceAdd, Nat.reduceMul, Nat.reduceSub, Nat.reduceLeDiff, Nat.reduceLT, p1, p7, p8, p9, hlt, Cells.idx hc Nat.zero_lt_one, Cells.ld hc Nat.zero_lt_one Nat.zero_lt_one, e0, hw]
  · rintro f g m ⟨rfl, rfl, p1, p7, p8, p9, hq⟩
    have := hq rfl
    subst this
    simp only [rn0, rn1, rn2, rn3, rn4, rn5, rn6, rn7, rn8, if_true, if_false, Nat.le_refl, true_and, and_true, decide_true, decide_false, Bool.not_true, Bool.not_false, reduceIte, Nat.reduceEqDiff, Nat.reduceAdd, Nat.reduceMul, Nat.reduceSub, Nat.reduceLeDiff, Nat.reduceLT, p1, p7, p8, p9, Int.lt_irrefl]
def OpenHR (h : AHeap) (S : MS) (wv vv sv : Value) (at_ hh : Int) (v : Value) (h' : AHeap) : Prop := (∀ i, i < h.next → h'.get i = h.get i) ∧ h.next ≤ h'.next ∧ h'.next ≤ h.next + 500100 ∧ h'.floor = h.floor ∧
  ((faultS S ≠ 0 ∧ v = .tuple ⟨[.agg ⟨wk0⟩, .int .i64 (faultS S)]⟩) ∨ (faultS S = 0 ∧ ¬ (InV S at_ ∧ S.vb at_.toNat ≤ hh ∧ hh ≤ S.last) ∧ v = .tuple ⟨[.agg ⟨wk0⟩, .int .i64 2]⟩) ∨ (faultS S = 0 ∧ (InV S at_ ∧ S.vb at_.toNat ≤ hh ∧ hh ≤ S.last) ∧ truthsS S = [] ∧ v = .tuple ⟨[.agg ⟨wk0⟩, .int .i64 11]⟩) ∨
    (faultS S = 0 ∧ (InV S at_ ∧ S.vb at_.toNat ≤ hh ∧ hh ≤ S.last) ∧ truthsS S ≠ [] ∧ ∃ tv, v = .tuple ⟨[.agg ⟨wkL S wv vv sv tv⟩, .int .i64 0]⟩ ∧ oneCell tv = true ∧ TruthsR h' S tv (truthsS S) ∧ Long tv))
set_option maxHeartbeats 1000000 in
theorem openVatH_c (hn : 600 ≤ n) (hr : h.next + 700000 < far) (hfl : h.floor ≤ h.next) {wv vv sv : Value} {S : MS} (hy : SteepR h wv vv sv S) (hT : ThinS S) (at_ : Int) {bl : Nat} {hh : Int} (hbl : h.get bl = some (.row [.int .i64 hh] true 0)) :
    ∃ v h', call n (.func (.func 88) #[] #[]) [.agg ⟨stL S wv vv sv⟩, .int .i64 at_, .slice (some ⟨bl, 0, none⟩) 1 1] h = some (v, h') ∧ OpenHR h S wv vv sv at_ hh v h' := by
  obtain ⟨n, rfl⟩ : ∃ p, n = p + 1 := ⟨n - 1, by omega⟩
  refine call_any0 fok88 rfl rfl (by simp) ?_
  simp only [s88, W_seq, W_ops]
  refine ops_box (cs := stL S wv vv sv) (by omega) rfl hy.one fun g1 hx1 => ?_
  have n1 := hx1.next
  have f1 := hx1.floor
  refine ops_box (cs := [.int .i64 at_]) (by omega) rfl rfl fun g2 hx2 => ?_
  have n2 := hx2.next
  have f2 := hx2.floor
  simp only [rn0, rn1, rn2, rn3, rn4, rn5, rn6, rn7, rn8, if_true, if_false, Nat.le_refl, true_and, and_true, decide_true, decide_false, Bool.not_true, Bool.not_false, reduceIte, Nat.reduceEqDiff, Nat.reduceAdd, Nat.reduceMul, Nat.reduceSub, Nat.reduceLeDiff, Nat.reduceLT]
  refine step_row (cs := wk0) (by omega) rfl rfl fun g3 hx3 => ?_
  have n3 := hx3.next
  have f3 := hx3.floor
  have sub3 : Sub All h g3 := hx1.sub.trans (hx2.sub.trans hx3.sub)
  have w1 := ((hx1.row.mono hx2.sub).mono hx3.sub).whole (n := 7) rfl
  obtain ⟨pv, g4, eo, o4, u4, m4, f4, ho⟩ := open_c (n := n) (h := g3) (by omega) (by omega) (by omega) (hy.mono sub3) hT
  have old4 : ∀ i, i < h.next → g4.get i = h.get i := fun i hi => by rw [o4 i (by omega), hx3.old i (by omega), hx2.old i (by omega), hx1.old i hi]
  have q6 : g4.get g2.next = some (.row wk0 true 0) := by rw [o4 _ (by omega)]; exact hx3.get
  rcases ho with ⟨hf, rfl⟩ | ⟨hf, tv, rfl, hone, htr, htb, hlong⟩
  · simp only [rn0, rn1, rn2, rn3, rn4, rn5, rn6, rn7, rn8, if_true, if_false, Nat.le_refl, true_and, and_true, decide_true, decide_false, Bool.not_true, Bool.not_false, reduceIte, Nat.reduceEqDiff, Nat.reduceAdd, Nat.reduceMul, Nat.reduceSub, Nat.reduceLeDiff, Nat.reduceLT, w1, eo, ex0, ex1]
    refine step_new (vs := wk0) (by omega) (by omega) rfl (by simp only [rn0, rn1, rn2, rn3, rn4, rn5, rn6, rn7, rn8, if_true, if_false, Nat.le_refl, true_and, and_true, decide_true, decide_false, Bool.not_true, Bool.not_false, reduceIte, Nat.reduceEqDiff, Nat.reduceAdd, Nat.reduceMul, Nat.reduceSub, Nat.reduceLeDiff, Nat.reduceLT]; rfl) rfl rfl rfl fun g5 hx5 => ?_
    have n5 := hx5.next
    have f5 := hx5.floor
    simp only [rn0, rn1, rn2, rn3, rn4, rn5, rn6, rn7, rn8, if_true, if_false, Nat.le_refl, true_and, and_true, decide_true, decide_false, Bool.not_true, Bool.not_false, reduceIte, Nat.reduceEqDiff, Nat.reduceAdd, Nat.reduceMul, Nat.reduceSub, Nat.reduceLeDiff, Nat.reduceLT, hf, build_wk0]
    refine step_store (b := g2.next) (off := 0) (vs := wk0) rfl (by rw [hx5.old _ (by omega)]; exact q6) (by omega) (by omega) rfl rfl rfl (by simp) fun g6 hs6 => ?_
    rw [splice_all (by rfl)] at hs6
    have n6 := hs6.next
    have f6 := hs6.floor
    simp only [rn0, rn1, rn2, rn3, rn4, rn5, rn6, rn7, rn8, if_true, if_false, Nat.le_refl, true_and, and_true, decide_true, decide_false, Bool.not_true, Bool.not_false, reduceIte, Nat.reduceEqDiff, Nat.reduceAdd, Nat.reduceMul, Nat.reduceSub, Nat.reduceLeDiff, Nat.reduceLT, res_two, hs6.row.whole (n := 8) rfl]
    exact ⟨fun i hi => by rw [hs6.old i (by omega), hx5.old i (by omega), old4 i hi], by omega, by omega, by omega, .inl ⟨hf, rfl⟩⟩
  · have hG := good_of hf
    have how := wk_one (hy.mono sub3) (tv := tv) hone
    simp only [rn0, rn1, rn2, rn3, rn4, rn5, rn6, rn7, rn8, if_true, if_false, Nat.le_refl, true_and, and_true, decide_true, decide_false, Bool.not_true, Bool.not_false, reduceIte, Nat.reduceEqDiff, Nat.reduceAdd, Nat.reduceMul, Nat.reduceSub, Nat.reduceLeDiff, Nat.reduceLT, w1, eo, ex0, ex1]
    refine step_new (vs := wkL S wv vv sv tv) (by omega) (by omega) rfl (by simp only [rn0, rn1, rn2, rn3, rn4, rn5, rn6, rn7, rn8, if_true, if_false, Nat.le_refl, true_and, and_true, decide_true, decide_false, Bool.not_true, Bool.not_false, reduceIte, Nat.reduceEqDiff, Nat.reduceAdd, Nat.reduceMul, Nat.reduceSub, Nat.reduceLeDiff, Nat.reduceLT]; rfl) how rfl rfl fun g5 hx5 => ?_
    have n5 := hx5.next
    have f5 := hx5.floor
    have old5 : ∀ i, i < h.next → g5.get i = h.get i := fun i hi => by rw [hx5.old i (by omega), old4 i hi]
    have hy5 := hy.mono (AHeap.subOf old5)
    have w5 := hx5.row.whole (n := 8) rfl
    have r2 : Row g5 g1.next [.int .i64 at_] := ⟨true, 0, by rw [hx5.old _ (by omega), o4 _ (by omega), hx3.old _ (by omega)]; exact hx2.get⟩
    have ehv := hasVat_c (n := n) (h := g5) (tv := tv) (by omega) (by omega) hy5 hone at_
    have q5 : g5.get g2.next = some (.row wk0 true 0) := by rw [hx5.old _ (by omega)]; exact q6
    have hblt := AHeap.lt_of_get hbl
    have hbl5 : g5.get bl = some (.row [.int .i64 hh] true 0) := by rw [old5 _ hblt]; exact hbl
    have htr5 : TruthsR g5 S tv (truthsS S) := Cells.mono htr hx5.sub
    by_cases hv : InV S at_
    · have ed : decide (0 ≤ at_ ∧ at_ ≤ (S.nv : Int) - 1) = true := decide_eq_true hv
      rw [ed] at ehv
      obtain ⟨va, hva⟩ : ∃ va : Nat, at_ = (va : Int) := ⟨at_.toNat, by unfold InV at hv; omega⟩
      subst hva
      have hvn : va < S.nv := by unfold InV at hv; omega
      have een := everyInt_one (n := n) (h := g5) (ok := .func (.func 121) ⟨[]⟩ ⟨[.pointer (some ⟨g4.next, 0, none⟩), .pointer (some ⟨g1.next, 0, none⟩)]⟩) (r := decide (S.vb va ≤ hh ∧ hh ≤ S.last)) (by omega) (by omega) hbl5 fun g hs hg => hour1_c (by omega) (by omega) (hy5.mono hs) hone hvn (hx5.row.mono hs) (r2.mono hs) hh
      by_cases hho : S.vb va ≤ hh ∧ hh ≤ S.last
      case neg =>
        rw [decide_eq_false hho] at een
        simp only [rn0, rn1, rn2, rn3, rn4, rn5, rn6, rn7, rn8, if_true, if_false, Nat.le_refl, true_and, and_true, decide_true, decide_false, Bool.not_true, Bool.not_false, reduceIte, Nat.reduceEqDiff, Nat.reduceAdd, Nat.reduceMul, Nat.reduceSub, Nat.reduceLeDiff, Nat.reduceLT, hf, w5, r2.ld, Nat.zero_add, List.getElem?_cons_zero, ehv, een, build_wk0]
        refine step_store (b := g2.next) (off := 0) (vs := wk0) rfl q5 (by omega) (by omega) rfl rfl rfl (by simp) fun g6 hs6 => ?_
        rw [splice_all (by rfl)] at hs6
        have n6 := hs6.next
        have f6 := hs6.floor
        simp only [rn0, rn1, rn2, rn3, rn4, rn5, rn6, rn7, rn8, if_true, if_false, Nat.le_refl, true_and, and_true, decide_true, decide_false, Bool.not_true, Bool.not_false, reduceIte, Nat.reduceEqDiff, Nat.reduceAdd, Nat.reduceMul, Nat.reduceSub, Nat.reduceLeDiff, Nat.reduceLT, res_two, hs6.row.whole (n := 8) rfl]
        exact ⟨fun i hi => by rw [hs6.old i (by omega), old5 i hi], by omega, by omega, by omega, .inr (.inl ⟨hf, fun q => hho q.2, rfl⟩)⟩
      rw [decide_eq_true hho] at een
      by_cases hz : truthsS S = []
      · have hl0 : ((truthsS S).length : Int) = 0 := by rw [hz]; rfl
        simp only [rn0, rn1, rn2, rn3, rn4, rn5, rn6, rn7, rn8, if_true, if_false, Nat.le_refl, true_and, and_true, decide_true, decide_false, Bool.not_true, Bool.not_false, reduceIte, Nat.reduceEqDiff, Nat.reduceAdd, Nat.reduceMul, Nat.reduceSub, Nat.reduceLeDiff, Nat.reduceLT, hf, w5, r2.ld, Nat.zero_add, List.getElem?_cons_zero, ehv, een, hx5.row.ld, wkg, Cells.len htr5, hl0, build_wk0]
        refine step_store (b := g2.next) (off := 0) (vs := wk0) rfl q5 (by omega) (by omega) rfl rfl rfl (by simp) fun g6 hs6 => ?_
        rw [splice_all (by rfl)] at hs6
        have n6 := hs6.next
        have f6 := hs6.floor
        simp only [rn0, rn1, rn2, rn3, rn4, rn5, rn6, rn7, rn8, if_true, if_false, Nat.le_refl, true_and, and_true, decide_true, decide_false, Bool.not_true, Bool.not_false, reduceIte, Nat.reduceEqDiff, Nat.reduceAdd, Nat.reduceMul, Nat.reduceSub, Nat.reduceLeDiff, Nat.reduceLT, res_two, hs6.row.whole (n := 8) rfl]
        exact ⟨fun i hi => by rw [hs6.old i (by omega), old5 i hi], by omega, by omega, by omega, .inr (.inr (.inl ⟨hf, ⟨hv, hho⟩, hz, rfl⟩))⟩
      · have hl0 : ¬ ((truthsS S).length : Int) = 0 := fun e => hz (List.length_eq_zero_iff.1 (by omega))
        simp only [rn0, rn1, rn2, rn3, rn4, rn5, rn6, rn7, rn8, if_true, if_false, Nat.le_refl, true_and, and_true, decide_true, decide_false, Bool.not_true, Bool.not_false, reduceIte, Nat.reduceEqDiff, Nat.reduceAdd, Nat.reduceMul, Nat.reduceSub, Nat.reduceLeDiff, Nat.reduceLT, hf, w5, r2.ld, Nat.zero_add, List.getElem?_cons_zero, ehv, een, hx5.row.ld, wkg, Cells.len htr5, hl0]
        refine step_store (b := g2.next) (off := 0) (vs := wkL S wv vv sv tv) rfl q5 (by omega) (by omega) rfl how rfl (by simp) fun g6 hs6 => ?_
        rw [splice_all (by rfl)] at hs6
        have n6 := hs6.next
        have f6 := hs6.floor
        simp only [rn0, rn1, rn2, rn3, rn4, rn5, rn6, rn7, rn8, if_true, if_false, Nat.le_refl, true_and, and_true, decide_true, decide_false, Bool.not_true, Bool.not_false, reduceIte, Nat.reduceEqDiff, Nat.reduceAdd, Nat.reduceMul, Nat.reduceSub, Nat.reduceLeDiff, Nat.reduceLT, res_two, hs6.row.whole (n := 8) rfl]
        refine ⟨fun i hi => by rw [hs6.old i (by omega), old5 i hi], by omega, by omega, by omega, .inr (.inr (.inr ⟨hf, ⟨hv, hho⟩, hz, tv, rfl, hone, ?_, hlong⟩))⟩
        exact cells_at' htr5 fun a k c e => by
          have := htb a k c e
          exact hs6.old _ (by omega)
    · have ed : decide (0 ≤ at_ ∧ at_ ≤ (S.nv : Int) - 1) = false := decide_eq_false hv
      rw [ed] at ehv
      simp only [rn0, rn1, rn2, rn3, rn4, rn5, rn6, rn7, rn8, if_true, if_false, Nat.le_refl, true_and, and_true, decide_true, decide_false, Bool.not_true, Bool.not_false, reduceIte, Nat.reduceEqDiff, Nat.reduceAdd, Nat.reduceMul, Nat.reduceSub, Nat.reduceLeDiff, Nat.reduceLT, hf, w5, r2.ld, Nat.zero_add, List.getElem?_cons_zero, ehv, build_wk0]
      refine step_store (b := g2.next) (off := 0) (vs := wk0) rfl q5 (by omega) (by omega) rfl rfl rfl (by simp) fun g6 hs6 => ?_
      rw [splice_all (by rfl)] at hs6
      have n6 := hs6.next
      have f6 := hs6.floor
      simp only [rn0, rn1, rn2, rn3, rn4, rn5, rn6, rn7, rn8, if_true, if_false, Nat.le_refl, true_and, and_true, decide_true, decide_false, Bool.not_true, Bool.not_false, reduceIte, Nat.reduceEqDiff, Nat.reduceAdd, Nat.reduceMul, Nat.reduceSub, Nat.reduceLeDiff, Nat.reduceLT, res_two, hs6.row.whole (n := 8) rfl]
      exact ⟨fun i hi => by rw [hs6.old i (by omega), old5 i hi], by omega, by omega, by omega, .inr (.inl ⟨hf, fun q => hv q.1, rfl⟩)⟩
end Go.Vm.St

namespace Go.Vm.St
open Go.Proofs Go.Vm.Vat
set_option linter.unusedSimpArgs false
set_option linter.unusedVariables false
set_option maxRecDepth 10000
variable {n : Nat} {h : AHeap}
theorem wk_self {wv vv sv tv : Value} {S : MS} {l : List (Nat → Int)} (hy : SteepR h wv vv sv S) (ht : TruthsR h S tv l) : eqV (.agg ⟨wkL S wv vv sv tv⟩) (.agg ⟨wkL S wv vv sv tv⟩) = true := by
  simp [wkL, eqV, eqCells, eqC_int, Cells.selfC hy.w, Cells.selfC hy.v, Cells.selfC hy.s, Cells.selfC ht]
def InH (S : MS) (at_ hh : Int) : Prop := InV S at_ ∧ S.vb at_.toNat ≤ hh ∧ hh ≤ S.last
open Classical in
noncomputable def errH (S : MS) (at_ hh : Int) : Int := if faultS S ≠ 0 then faultS S else if ¬ InH S at_ hh then 2 else if truthsS S = [] then 11 else 0
open Classical in
noncomputable def rightV (S : MS) (at_ hh : Int) : Int := if errH S at_ hh = 0 then verdS S at_.toNat hh 1 (truthsS S) else 0
def s40 : SCode := (.seq (.ops [⟨(some 3), none, .box (T 0)⟩, ⟨(some 6), none, .mov (.const (.int .i64 (0)))⟩, ⟨(some 7), none, .mov (.const (.int .i64 (0)))⟩]) (.seq (.ops [⟨(some 11), none, .loadN 7 (T 3)⟩, ⟨(some 12), none, .mov (T 1)⟩, ⟨(some 13), none, .mov (T 2)⟩, ⟨(some 14), none, .bslice 1 1 [(.int .i64 (0))] [0] [(T 13)]⟩, ⟨(some 15), none, .call (.func 88) [(T 11), (T 12), (T 14)]⟩, ⟨(some 10), none, .mov (T 15)⟩, ⟨(some 16), none, .extract 0 (T 10)⟩, ⟨(some 17), none, .extract 1 (T 10)⟩, ⟨(some 8), none, .alloc [(.int .i64 (0)), (.int .i64 (0)), (.slice none 0 0), (.int .i64 (0)), (.int .i64 (0)), (.slice none 0 0), (.slice none 0 0), (.slice none 0 0)]⟩, ⟨none, none, .store 8 (T 8) (T 16)⟩, ⟨(some 9), none, .mov (T 17)⟩]) (.seq (.seq (.ops [⟨(some 18), none, .mov (T 9)⟩, ⟨(some 19), none, .int2 .neq (T 18) (.const (.int .i64 (0)))⟩]) (.cond (T 19) (.seq (.ops [⟨(some 20), none, .mov (T 9)⟩, ⟨(some 6), none, .mov (.const (.int .i64 (0)))⟩, ⟨(some 7), none, .mov (T 20)⟩]) .ret) .skip)) (.seq (.draw [⟨.rd, ⟨(some 21), none, .loadN 8 (T 8)⟩⟩, ⟨.rd1, ⟨(some 22), none, .loadN 8 (T 8)⟩⟩, ⟨.free, ⟨(some 23), none, .mov (T 1)⟩⟩, ⟨.up, ⟨(some 24), none, .call (.func 91) [(T 22), (T 23)]⟩⟩, ⟨.free, ⟨(some 25), none, .mov (T 1)⟩⟩, ⟨.free, ⟨(some 26), none, .mov (T 2)⟩⟩, ⟨.any, ⟨(some 27), none, .call (.func 90) [(T 21), (T 24), (T 25), (T 26)]⟩⟩, ⟨.free, ⟨(some 6), none, .mov (T 27)⟩⟩, ⟨.free, ⟨(some 7), none, .mov (.const (.int .i64 (0)))⟩⟩]) .ret))))
theorem fok40 : FnOk Try.prog 40 28 s40 [.tmp 6, .tmp 7] := ⟨Try.f40, _, Try.func40, rfl, Try.ntmps40, by kernel_rfl, by kernel_rfl⟩
set_option maxHeartbeats 1000000 in
theorem rightP_c (hn : 2500 ≤ n) (hr : h.next + 1000000 < far) {wv vv sv : Value} {S : MS} (hy : SteepR h wv vv sv S) (hT : ThinS S) (at_ hh : Int) :
    call n (.func (.func 40) #[] #[]) [.agg ⟨stL S wv vv sv⟩, .int .i64 at_, .int .i64 hh] h = some (.tuple ⟨[.int .i64 (rightV S at_ hh), .int .i64 (errH S at_ hh)]⟩, h) := by
  obtain ⟨n, rfl⟩ : ∃ p, n = p + 1 := ⟨n - 1, by omega⟩
  refine call_plain0 fok40 rfl rfl (by simp) rfl ?_
  have hy := hy.shut
  have hr : h.shutAll.next + 1000000 < far := hr
  have hfl : h.shutAll.floor ≤ h.shutAll.next := Nat.le_refl _
  generalize h.shutAll = h at hy hr hfl
  simp only [s40, W_seq, W_ops]
  refine ops_box (cs := stL S wv vv sv) (by omega) rfl hy.one fun g1 hx1 => ?_
  have n1 := hx1.next
  have f1 := hx1.floor
  simp only [rn0, rn1, rn2, rn3, rn4, rn5, rn6, rn7, rn8, if_true, if_false, Nat.le_refl, true_and, and_true, decide_true, decide_false, Bool.not_true, Bool.not_false, reduceIte, Nat.reduceEqDiff, Nat.reduceAdd, Nat.reduceMul, Nat.reduceSub, Nat.reduceLeDiff, Nat.reduceLT, hx1.row.whole (n := 7) rfl, sl_int]
  refine step_slice (by omega) rfl fun g2 hx2 => ?_
  have n2 := hx2.next
  have f2 := hx2.floor
  have sub2 : Sub All h g2 := hx1.sub.trans hx2.sub
  obtain ⟨pv, g3, eo, o3, u3, m3, f3, hp⟩ := openVatH_c (n := n) (h := g2) (by omega) (by omega) (by omega) (hy.mono sub2) hT at_ (hh := hh) hx2.get
  have sub3 : Sub All h g3 := sub2.trans (AHeap.subOf o3)
  rcases hp with ⟨hf, rfl⟩ | ⟨hf, hv, rfl⟩ | ⟨hf, hv, hz, rfl⟩ | ⟨hf, hv, hz, tv, rfl, hone, htr, hlong⟩
  · have e1 : errH S at_ hh = faultS S := if_pos hf
    have e2 : rightV S at_ hh = 0 := if_neg (by rw [e1]; exact hf)
    rw [e1, e2]
    simp only [rn0, rn1, rn2, rn3, rn4, rn5, rn6, rn7, rn8, if_true, if_false, Nat.le_refl, true_and, and_true, decide_true, decide_false, Bool.not_true, Bool.not_false, reduceIte, Nat.reduceEqDiff, Nat.reduceAdd, Nat.reduceMul, Nat.reduceSub, Nat.reduceLeDiff, Nat.reduceLT, eo, ex0, ex1]
    refine step_new (vs := wk0) (by omega) (by omega) rfl (by simp only [rn0, rn1, rn2, rn3, rn4, rn5, rn6, rn7, rn8, if_true, if_false, Nat.le_refl, true_and, and_true, decide_true, decide_false, Bool.not_true, Bool.not_false, reduceIte, Nat.reduceEqDiff, Nat.reduceAdd, Nat.reduceMul, Nat.reduceSub, Nat.reduceLeDiff, Nat.reduceLT]; rfl) rfl rfl rfl fun g4 hx4 => ?_
    simp only [rn0, rn1, rn2, rn3, rn4, rn5, rn6, rn7, rn8, if_true, if_false, Nat.le_refl, true_and, and_true, decide_true, decide_false, Bool.not_true, Bool.not_false, reduceIte, Nat.reduceEqDiff, Nat.reduceAdd, Nat.reduceMul, Nat.reduceSub, Nat.reduceLeDiff, Nat.reduceLT, hf, ret_tt]
  · have hv : ¬ InH S at_ hh := hv
    have e1 : errH S at_ hh = 2 := by unfold errH; rw [if_neg (by simpa using hf), if_pos hv]
    have e2 : rightV S at_ hh = 0 := if_neg (by rw [e1]; decide)
    have z20 : ¬ (2 : Int) = 0 := by decide
    rw [e1, e2]
    simp only [rn0, rn1, rn2, rn3, rn4, rn5, rn6, rn7, rn8, if_true, if_false, Nat.le_refl, true_and, and_true, decide_true, decide_false, Bool.not_true, Bool.not_false, reduceIte, Nat.reduceEqDiff, Nat.reduceAdd, Nat.reduceMul, Nat.reduceSub, Nat.reduceLeDiff, Nat.reduceLT, eo, ex0, ex1]
    refine step_new (vs := wk0) (by omega) (by omega) rfl (by simp only [rn0, rn1, rn2, rn3, rn4, rn5, rn6, rn7, rn8, if_true, if_false, Nat.le_refl, true_and, and_true, decide_true, decide_false, Bool.not_true, Bool.not_false, reduceIte, Nat.reduceEqDiff, Nat.reduceAdd, Nat.reduceMul, Nat.reduceSub, Nat.reduceLeDiff, Nat.reduceLT]; rfl) rfl rfl rfl fun g4 hx4 => ?_
    simp only [rn0, rn1, rn2, rn3, rn4, rn5, rn6, rn7, rn8, if_true, if_false, Nat.le_refl, true_and, and_true, decide_true, decide_false, Bool.not_true, Bool.not_false, reduceIte, Nat.reduceEqDiff, Nat.reduceAdd, Nat.reduceMul, Nat.reduceSub, Nat.reduceLeDiff, Nat.reduceLT, z20, ret_tt]
  · have e1 : errH S at_ hh = 11 := by unfold errH; rw [if_neg (by simpa using hf), if_neg (by intro q; exact q hv), if_pos hz]
    have e2 : rightV S at_ hh = 0 := if_neg (by rw [e1]; decide)
    have z110 : ¬ (11 : Int) = 0 := by decide
    rw [e1, e2]
    simp only [rn0, rn1, rn2, rn3, rn4, rn5, rn6, rn7, rn8, if_true, if_false, Nat.le_refl, true_and, and_true, decide_true, decide_false, Bool.not_true, Bool.not_false, reduceIte, Nat.reduceEqDiff, Nat.reduceAdd, Nat.reduceMul, Nat.reduceSub, Nat.reduceLeDiff, Nat.reduceLT, eo, ex0, ex1]
    refine step_new (vs := wk0) (by omega) (by omega) rfl (by simp only [rn0, rn1, rn2, rn3, rn4, rn5, rn6, rn7, rn8, if_true, if_false, Nat.le_refl, true_and, and_true, decide_true, decide_false, Bool.not_true, Bool.not_false, reduceIte, Nat.reduceEqDiff, Nat.reduceAdd, Nat.reduceMul, Nat.reduceSub, Nat.reduceLeDiff, Nat.reduceLT]; rfl) rfl rfl rfl fun g4 hx4 => ?_
    simp only [rn0, rn1, rn2, rn3, rn4, rn5, rn6, rn7, rn8, if_true, if_false, Nat.le_refl, true_and, and_true, decide_true, decide_false, Bool.not_true, Bool.not_false, reduceIte, Nat.reduceEqDiff, Nat.reduceAdd, Nat.reduceMul, Nat.reduceSub, Nat.reduceLeDiff, Nat.reduceLT, z110, ret_tt]
  · have hG := good_of hf
    have e1 : errH S at_ hh = 0 := by unfold errH; rw [if_neg (by simpa using hf), if_neg (by intro q; exact q hv), if_neg hz]
    have e2 : rightV S at_ hh = verdS S at_.toNat hh 1 (truthsS S) := if_pos e1
    rw [e1, e2]
    have how := wk_one hy (tv := tv) hone
    simp only [rn0, rn1, rn2, rn3, rn4, rn5, rn6, rn7, rn8, if_true, if_false, Nat.le_refl, true_and, and_true, decide_true, decide_false, Bool.not_true, Bool.not_false, reduceIte, Nat.reduceEqDiff, Nat.reduceAdd, Nat.reduceMul, Nat.reduceSub, Nat.reduceLeDiff, Nat.reduceLT, eo, ex0, ex1]
    refine step_new (vs := wkL S wv vv sv tv) (by omega) (by omega) rfl (by simp only [rn0, rn1, rn2, rn3, rn4, rn5, rn6, rn7, rn8, if_true, if_false, Nat.le_refl, true_and, and_true, decide_true, decide_false, Bool.not_true, Bool.not_false, reduceIte, Nat.reduceEqDiff, Nat.reduceAdd, Nat.reduceMul, Nat.reduceSub, Nat.reduceLeDiff, Nat.reduceLT]; rfl) how rfl rfl fun g4 hx4 => ?_
    have n4 := hx4.next
    have f4 := hx4.floor
    have sub4 := sub3.trans hx4.sub
    obtain ⟨hv1, hv2⟩ := hv
    obtain ⟨va, hva⟩ : ∃ va : Nat, at_ = (va : Int) := ⟨at_.toNat, by unfold InV at hv1; omega⟩
    subst hva
    have hvn : va < S.nv := by unfold InV at hv1; omega
    have htr4 : TruthsR g4 S tv (truthsS S) := Cells.mono htr hx4.sub
    have hy4 := hy.mono sub4
    obtain ⟨r, g5, ek, hm5, hr5, sub5, u5, m5, f5⟩ := kindsOf_c (n := n) (h := g4) (by omega) (by omega) (by omega) hy4 hone hG (truths_len hG) (fun t ht => (truths_mem.1 ht).1.1) htr4 hvn
    have ev := verdict_c (n := n) (h := g5) (by omega) (by omega) (hy4.mono sub5) hone hG (Cells.mono htr4 sub5) hm5 (hh := hh) ⟨hvn, hv2.1, hv2.2⟩
    simp only [rn0, rn1, rn2, rn3, rn4, rn5, rn6, rn7, rn8, if_true, if_false, Nat.le_refl, true_and, and_true, decide_true, decide_false, Bool.not_true, Bool.not_false, reduceIte, Nat.reduceEqDiff, Nat.reduceAdd, Nat.reduceMul, Nat.reduceSub, Nat.reduceLeDiff, Nat.reduceLT]
    refine W_draw All ?_
    simp only [rn0, rn1, rn2, rn3, rn4, rn5, rn6, rn7, rn8, if_true, if_false, Nat.le_refl, true_and, and_true, decide_true, decide_false, Bool.not_true, Bool.not_false, reduceIte, Nat.reduceEqDiff, Nat.reduceAdd, Nat.reduceMul, Nat.reduceSub, Nat.reduceLeDiff, Nat.reduceLT, hx4.row.whole (n := 8) rfl, wk_self hy4 htr4, ek, ev, ret_tt]
    exact ⟨⟨by omega, sub5⟩, rfl⟩
end Go.Vm.St

namespace Go.Vm.St
open Go.Proofs Go.Vm.Vat
set_option linter.unusedSimpArgs false
set_option linter.unusedVariables false
set_option maxRecDepth 10000
variable {n : Nat} {h : AHeap}
noncomputable def gI (S : MS) (v : Nat) (L : List (Nat → Int)) (k : Nat) : List Int := pickL (fun i => verdS S v (S.vb v + (i : Int)) 1 L = 1) k
def gLo (b : Int) (l : List Int) : Int := if l = [] then 0 else b + atL l 0
def gHi (b : Int) (l : List Int) : Int := if l = [] then 0 else b + atL l (l.length - 1)
theorem gLo_nil {b : Int} : gLo b [] = 0 := rfl
theorem gHi_nil {b : Int} : gHi b [] = 0 := rfl
theorem gLo_app {b x : Int} {l : List Int} (hl : l ≠ []) : gLo b (l ++ [x]) = gLo b l := by
  unfold gLo
  rw [if_neg hl, if_neg (by simp), at_append (List.length_pos_iff.2 hl)]
theorem gHi_app {b x : Int} {l : List Int} : gHi b (l ++ [x]) = b + x := by
  unfold gHi
  rw [if_neg (by simp), List.length_append, List.length_singleton, Nat.add_sub_cancel, at_last]
def s93 : SCode := (.seq (.ops [⟨(some 2), none, .box (T 0)⟩, ⟨(some 4), none, .alloc [(.int .i64 (0)), (.int .i64 (0))]⟩, ⟨(some 5), none, .mov (.const (.bool false))⟩]) (.seq (.ops [⟨(some 9), none, .loadN 8 (T 2)⟩, ⟨(some 10), none, .mov (T 1)⟩, ⟨(some 11), none, .call (.func 91) [(T 9), (T 10)]⟩, ⟨(some 6), none, .mov (T 11)⟩]) (.seq (.seq (.ops [⟨(some 12), none, .loadN 8 (T 2)⟩, ⟨(some 13), none, .mov (T 1)⟩, ⟨(some 14), none, .call (.func 107) [(T 12), (T 13)]⟩, ⟨(some 15), none, .mov (.const (.int .i64 (0)))⟩]) (.block 0 (.loop (.seq (.ops [⟨(some 16), none, .int2 .lss (T 15) (T 14)⟩]) (.seq (.cond (T 16) .skip (.exit 0)) (.seq (.block 1 (.seq (.ops [⟨(some 17), none, .mov (T 15)⟩, ⟨(some 7), none, .mov (T 17)⟩]) (.seq (.ops [⟨(some 18), none, .fieldAddr 0 (T 2)⟩, ⟨(some 19), none, .fieldAddr 5 (T 18)⟩, ⟨(some 20), none, .load1 (T 19)⟩, ⟨(some 21), none, .mov (T 1)⟩, ⟨(some 22), none, .idxSl 4 (T 20) (T 21)⟩, ⟨(some 23), none, .fieldAddr 0 (T 22)⟩, ⟨(some 24), none, .load1 (T 23)⟩, ⟨(some 25), none, .mov (T 7)⟩, ⟨(some 26), none, .int2 .add (T 24) (T 25)⟩, ⟨(some 8), none, .mov (T 26)⟩]) (.seq (.seq (.ops [⟨(some 27), none, .loadN 8 (T 2)⟩, ⟨(some 28), none, .mov (T 6)⟩, ⟨(some 29), none, .mov (T 1)⟩, ⟨(some 30), none, .mov (T 8)⟩, ⟨(some 31), none, .call (.func 90) [(T 27), (T 28), (T 29), (T 30)]⟩, ⟨(some 32), none, .int2 .neq (T 31) (.const (.int .i64 (1)))⟩]) (.cond (T 32) (.exit 1) .skip)) (.seq (.seq (.ops [⟨(some 33), none, .mov (T 5)⟩, ⟨(some 34), none, .not (T 33)⟩]) (.cond (T 34) (.ops [⟨(some 35), none, .mov (T 8)⟩, ⟨(some 36), none, .fieldAddr 0 (T 4)⟩, ⟨none, none, .store 1 (T 36) (T 35)⟩]) .skip)) (.ops [⟨(some 37), none, .mov (T 8)⟩, ⟨(some 38), none, .fieldAddr 1 (T 4)⟩, ⟨none, none, .store 1 (T 38) (T 37)⟩, ⟨(some 5), none, .mov (.const (.bool true))⟩])))))) (.ops [⟨(some 39), none, .int2 .add (T 15) (.const (.int .i64 (1)))⟩, ⟨(some 15), none, .mov (T 39)⟩]))))))) (.seq (.ops [⟨(some 40), none, .loadN 2 (T 4)⟩, ⟨(some 41), none, .mov (T 5)⟩, ⟨none, none, .store 2 (T 4) (T 40)⟩, ⟨(some 5), none, .mov (T 41)⟩]) .ret))))
theorem fok93 : FnOk Try.prog 93 42 s93 [.cellN 4 2, .tmp 5] := ⟨Try.f93, _, Try.func93, rfl, Try.ntmps93, by kernel_rfl, by kernel_rfl⟩
set_option maxHeartbeats 2000000 in
theorem goodHours_c (hn : 2320 ≤ n) (hr : h.next + 300000 < far) {wv vv sv tv : Value} {S : MS} (hy : SteepR h wv vv sv S) (ho1 : oneCell tv = true) (hG : Good S) {L : List (Nat → Int)} (hlen : L.length ≤ 2000) (hin : ∀ t, t ∈ L → InU S t) (htr : TruthsR h S tv L) {v : Nat} (hv : v < S.nv) :
    call n (.func (.func 93) #[] #[]) [.agg ⟨wkL S wv vv sv tv⟩, .int .i64 (v : Int)] h = some (.tuple ⟨[.agg ⟨[.int .i64 (gLo (S.vb v) (gI S v L (hoursN S v))), .int .i64 (gHi (S.vb v) (gI S v L (hoursN S v)))]⟩, .bool (decide (gI S v L (hoursN S v) ≠ []))]⟩, h) := by
  obtain ⟨n, rfl⟩ : ∃ p, n = p + 1 := ⟨n - 1, by omega⟩
  refine call_plain0 fok93 rfl rfl (by simp) rfl ?_
  have hy := hy.shut
  have htr : TruthsR h.shutAll S tv L := Cells.shut htr
  have hr : h.shutAll.next + 300000 < far := hr
  have hfl : h.shutAll.floor ≤ h.shutAll.next := Nat.le_refl _
  generalize h.shutAll = h at hy htr hr hfl
  obtain ⟨mh1, mh2, mh3⟩ := hoursN_ok hG hv
  obtain ⟨⟨vb1, vb2⟩, _⟩ := hG.args.vat v hv
  obtain ⟨zl0, zl5, _⟩ := hG.sizes
  simp only [s93, W_seq, W_ops]
  refine ops_box (cs := wkL S wv vv sv tv) (by omega) rfl (wk_one hy ho1) fun g1 hx1 => ?_
  have n1 := hx1.next
  have f1 := hx1.floor
  refine ops_alloc (cs := [.int .i64 0, .int .i64 0]) (by omega) rfl fun g2 hx2 => ?_
  have n2 := hx2.next
  have f2 := hx2.floor
  have s2 : Sub All h g2 := hx1.sub.trans hx2.sub
  have r2 := hx1.row.mono hx2.sub
  obtain ⟨r, g3, ek, hm3, hr3, sub3, u3, m3, f3⟩ := kindsOf_c (n := n) (h := g2) (by omega) (by omega) (by omega) (hy.mono s2) ho1 hG hlen hin (Cells.mono htr s2) hv
  have s3 := s2.trans sub3
  have eh := hoursOf_c (n := n) (h := g3) (by omega) (by omega) (hy.mono s3) ho1 hG hv
  rw [← mh1] at eh
  have r3 := r2.mono sub3
  have q3 : g3.get g1.next = some (.row [.int .i64 0, .int .i64 0] true 0) := sub3 _ _ _ _ trivial hx2.get
  simp only [rn0, rn1, rn2, rn3, rn4, rn5, rn6, rn7, rn8, if_true, if_false, Nat.le_refl, true_and, and_true, decide_true, decide_false, Bool.not_true, Bool.not_false, reduceIte, Nat.reduceEqDiff, Nat.reduceAdd, Nat.reduceMul, Nat.reduceSub, Nat.reduceLeDiff, Nat.reduceLT, r2.whole (n := 8) rfl, ek, r3.whole (n := 8) rfl, eh]
  refine W_loop (hoursN S v) (fun k f g ms => ((∀ i, i ≠ g1.next → g.get i = g3.get i) ∧ g.next = g3.next ∧ g.floor = g3.floor ∧ g.get g1.next = some (.row [.int .i64 (gLo (S.vb v) (gI S v L k)), .int .i64 (gHi (S.vb v) (gI S v L k))] true 0)) ∧ ms = [] ∧ f 1 = .int .i64 (v : Int) ∧ f 2 = .pointer (some ⟨h.next, 0, none⟩) ∧ f 4 = .pointer (some ⟨g1.next, 0, none⟩) ∧ f 5 = .bool (decide (gI S v L k ≠ [])) ∧ f 6 = .map (some r) ∧ f 14 = .int .i64 (hoursN S v : Int) ∧ f 15 = .int .i64 (k : Int)) (by simp; omega) ?_ ?_ ?_
  · have e0 : gI S v L 0 = [] := rfl
    have d0 : decide ((([] : List Int)) ≠ []) = false := rfl
    rw [e0]
    simp only [rn0, rn1, rn2, rn3, rn4, rn5, rn6, rn7, rn8, if_true, if_false, Nat.le_refl, true_and, and_true, decide_true, decide_false, Bool.not_true, Bool.not_false, reduceIte, Nat.reduceEqDiff, Nat.reduceAdd, Nat.reduceMul, Nat.reduceSub, Nat.reduceLeDiff, Nat.reduceLT, gLo_nil, gHi_nil, d0]
    first | exact ⟨⟨fun i _ => trivial, q3⟩, rfl⟩ | exact ⟨⟨fun i _ => rfl, rfl, rfl, q3⟩, rfl⟩ | exact ⟨⟨fun i _ => trivial, trivial, trivial, q3⟩, rfl⟩
  · rintro k f g ms hk ⟨⟨go, gn, gf, gr⟩, rfl, p1, p2, p4, p5, p6, p14, p15⟩
    have hk' : (k : Int) < (hoursN S v : Int) := by omega
    have hw : wrapF .i64 ((k : Int) + 1) = ((k + 1 : Nat) : Int) := by rw [wrap_in (by omega) (by omega)]; rfl
    have hwb : wrapF .i64 (S.vb v + (k : Int)) = S.vb v + (k : Int) := wrap_in (by omega) (by omega)
    have sg : Sub All h g := fun i cs w gr' t hg => by rw [go i (by have := AHeap.lt_of_get hg; omega)]; exact s3 _ _ _ _ t hg
    have hyg := hy.mono sg
    have htg : TruthsR g S tv L := Cells.mono htr sg
    have rg : Row g h.next (wkL S wv vv sv tv) := by
      obtain ⟨w, gr', e⟩ := r3
      exact ⟨w, gr', by rw [go _ (by omega)]; exact e⟩
    have mg : MapF g r key3 (cntK S v L L.length 0) := hm3.keep (go _ (by omega))
    have ev := verdict_c (n := n) (h := g) (by omega) (by omega) hyg ho1 hG htg mg (hour_at hG hv hk)
    by_cases c : verdS S v (S.vb v + (k : Int)) 1 L = 1
    · have eg : gI S v L (k + 1) = gI S v L k ++ [(k : Int)] := pick_yes c
      have hne : decide (gI S v L (k + 1) ≠ []) = true := decide_eq_true (by rw [eg]; simp)
      by_cases c0 : gI S v L k = []
      · have d0 : decide (gI S v L k ≠ []) = false := decide_eq_false (by simpa using c0)
        rw [d0] at p5
        have e1 : gLo (S.vb v) (gI S v L (k + 1)) = S.vb v + (k : Int) := by rw [eg, c0]; rfl
        have e2 : gHi (S.vb v) (gI S v L (k + 1)) = S.vb v + (k : Int) := by rw [eg, gHi_app]
        simp only [rn0, rn1, rn2, rn3, rn4, rn5, rn6, rn7, rn8, if_true, if_false, Nat.le_refl, true_and, and_true, decide_true, decide_false, Bool.not_true, Bool.not_false, reduceIte, Nat.reduceEqDiff, Nat.reduceAdd, Nat.reduceMul, Nat.reduceSub, Nat.reduceLeDiff, Nat.reduceLT, p1, p2, p4, p5, p6, p14, p15, hk', rg.whole (n := 8) rfl, rg.ld, wkg, Nat.zero_add, Nat.add_zero, Cells.idx hyg.v hv, Cells.fld hyg.v hv, begin_ld hyg hv, hwb, ev, c]
        refine step_store (b := g1.next) (off := 0) (vs := [.int .i64 (S.vb v + (k : Int))]) rfl gr (by omega) (by omega) rfl rfl rfl (by simp) fun g4 hs4 => ?_
        have n4 := hs4.next
        have f4 := hs4.floor
        simp only [rn0, rn1, rn2, rn3, rn4, rn5, rn6, rn7, rn8, if_true, if_false, Nat.le_refl, true_and, and_true, decide_true, decide_false, Bool.not_true, Bool.not_false, reduceIte, Nat.reduceEqDiff, Nat.reduceAdd, Nat.reduceMul, Nat.reduceSub, Nat.reduceLeDiff, Nat.reduceLT, p1, p2, p4, p5, p6, p14, p15]
        refine step_store (b := g1.next) (off := 1) (vs := [.int .i64 (S.vb v + (k : Int))]) rfl hs4.get (by omega) (by omega) rfl rfl rfl (by simp [splice]) fun g5 hs5 => ?_
        have n5 := hs5.next
        have f5 := hs5.floor
        simp only [rn0, rn1, rn2, rn3, rn4, rn5, rn6, rn7, rn8, if_true, if_false, Nat.le_refl, true_and, and_true, decide_true, decide_false, Bool.not_true, Bool.not_false, reduceIte, Nat.reduceEqDiff, Nat.reduceAdd, Nat.reduceMul, Nat.reduceSub, Nat.reduceLeDiff, Nat.reduceLT, p1, p2, p4, p5, p6, p14, p15, hw, hne]
        rw [e1, e2]
        exact ⟨fun i hi => by rw [hs5.old i hi, hs4.old i hi, go i hi], by omega, by omega, hs5.get⟩
      · have d0 : decide (gI S v L k ≠ []) = true := decide_eq_true c0
        rw [d0] at p5
        have e1 : gLo (S.vb v) (gI S v L (k + 1)) = gLo (S.vb v) (gI S v L k) := by rw [eg, gLo_app c0]
        have e2 : gHi (S.vb v) (gI S v L (k + 1)) = S.vb v + (k : Int) := by rw [eg, gHi_app]
        simp only [rn0, rn1, rn2, rn3, rn4, rn5, rn6, rn7, rn8, if_true, if_false, Nat.le_refl, true_and, and_true, decide_true, decide_false, Bool.not_true, Bool.not_false, reduceIte, Nat.reduceEqDiff, Nat.reduceAdd, Nat.reduceMul, Nat.reduceSub, Nat.reduceLeDiff, Nat.reduceLT, p1, p2, p4, p5, p6, p14, p15, hk', rg.whole (n := 8) rfl, rg.ld, wkg, Nat.zero_add, Nat.add_zero, Cells.idx hyg.v hv, Cells.fld hyg.v hv, begin_ld hyg hv, hwb, ev, c]
        refine step_store (b := g1.next) (off := 1) (vs := [.int .i64 (S.vb v + (k : Int))]) rfl gr (by omega) (by omega) rfl rfl rfl (by simp) fun g5 hs5 => ?_
        have n5 := hs5.next
        have f5 := hs5.floor
        simp only [rn0, rn1, rn2, rn3, rn4, rn5, rn6, rn7, rn8, if_true, if_false, Nat.le_refl, true_and, and_true, decide_true, decide_false, Bool.not_true, Bool.not_false, reduceIte, Nat.reduceEqDiff, Nat.reduceAdd, Nat.reduceMul, Nat.reduceSub, Nat.reduceLeDiff, Nat.reduceLT, p1, p2, p4, p5, p6, p14, p15, hw, hne]
        rw [e1, e2]
        exact ⟨fun i hi => by rw [hs5.old i hi, go i hi], by omega, by omega, hs5.get⟩
    · have eg : gI S v L (k + 1) = gI S v L k := pick_no c
      simp only [rn0, rn1, rn2, rn3, rn4, rn5, rn6, rn7, rn8, if_true, if_false, Nat.le_refl, true_and, and_true, decide_true, decide_false, Bool.not_true, Bool.not_false, reduceIte, Nat.reduceEqDiff, Nat.reduceAdd, Nat.reduceMul, Nat.reduceSub, Nat.reduceLeDiff, Nat.reduceLT, p1, p2, p4, p5, p6, p14, p15, hk', rg.whole (n := 8) rfl, rg.ld, wkg, Nat.zero_add, Nat.add_zero, Cells.idx hyg.v hv, Cells.fld hyg.v hv, begin_ld hyg hv, hwb, ev, c, hw]
      rw [eg]
      first | exact ⟨⟨go, gn, gf, gr⟩, rfl⟩ | exact ⟨go, gn, gf, gr⟩
  · rintro f g ms ⟨⟨go, gn, gf, gr⟩, rfl, p1, p2, p4, p5, p6, p14, p15⟩
    have rt : Row g g1.next _ := ⟨_, _, gr⟩
    simp only [rn0, rn1, rn2, rn3, rn4, rn5, rn6, rn7, rn8, if_true, if_false, Nat.le_refl, true_and, and_true, decide_true, decide_false, Bool.not_true, Bool.not_false, reduceIte, Nat.reduceEqDiff, Nat.reduceAdd, Nat.reduceMul, Nat.reduceSub, Nat.reduceLeDiff, Nat.reduceLT, p1, p2, p4, p5, p6, p14, p15, Int.lt_irrefl, rt.whole (n := 2) rfl]
    refine step_store (b := g1.next) (off := 0) (vs := [.int .i64 (gLo (S.vb v) (gI S v L (hoursN S v))), .int .i64 (gHi (S.vb v) (gI S v L (hoursN S v)))]) rfl gr (by omega) (by omega) rfl rfl rfl (by simp) fun g6 hs6 => ?_
    rw [splice_all (by rfl)] at hs6
    simp only [rn0, rn1, rn2, rn3, rn4, rn5, rn6, rn7, rn8, if_true, if_false, Nat.le_refl, true_and, and_true, decide_true, decide_false, Bool.not_true, Bool.not_false, reduceIte, Nat.reduceEqDiff, Nat.reduceAdd, Nat.reduceMul, Nat.reduceSub, Nat.reduceLeDiff, Nat.reduceLT, p4, p5, res_two, hs6.row.whole (n := 2) rfl]
end Go.Vm.St

namespace Go.Vm.St
open Go.Proofs Go.Vm.Vat
set_option linter.unusedSimpArgs false
set_option linter.unusedVariables false
set_option maxRecDepth 10000
variable {n : Nat} {h : AHeap}
end Go.Vm.St

namespace Go.Vm.St
open Go.Proofs Go.Vm.Vat
set_option linter.unusedSimpArgs false
set_option linter.unusedVariables false
set_option maxRecDepth 10000
variable {n : Nat} {h : AHeap}
end Go.Vm.St

namespace Go.Vm.St
open Go.Proofs Go.Vm.Vat
set_option linter.unusedSimpArgs false
set_option linter.unusedVariables false
set_option maxRecDepth 10000
variable {n : Nat} {h : AHeap}
end Go.Vm.St

namespace Go.Vm.St
open Go.Proofs Go.Vm.Vat
set_option linter.unusedSimpArgs false
set_option linter.unusedVariables false
set_option maxRecDepth 10000
variable {n : Nat} {h : AHeap}
theorem build_rng0 : buildA (fun x => (#[(0, 1), (1, 1)] : Array (Nat × Nat))[x]?) ⟨[.int .i64 0, .int .i64 0]⟩ [] h [] = some (.agg ⟨[.int .i64 0, .int .i64 0]⟩, h) := id rfl
open Classical in
noncomputable def errV (S : MS) (at_ : Int) : Int := if faultS S ≠ 0 then faultS S else if ¬ InV S at_ then 2 else if truthsS S = [] then 11 else 0
noncomputable def gAll (S : MS) (v : Nat) : List Int := gI S v (truthsS S) (hoursN S v)
noncomputable def goodE (S : MS) (at_ : Int) : Int := if errV S at_ = 0 then (if gAll S at_.toNat = [] then 10 else 0) else errV S at_
noncomputable def goodLo (S : MS) (at_ : Int) : Int := if errV S at_ = 0 then gLo (S.vb at_.toNat) (gAll S at_.toNat) else 0
noncomputable def goodHi (S : MS) (at_ : Int) : Int := if errV S at_ = 0 then gHi (S.vb at_.toNat) (gAll S at_.toNat) else 0
theorem errV_1 {S : MS} {at_ : Int} (hf : faultS S ≠ 0) : errV S at_ = faultS S := if_pos hf
theorem errV_2 {S : MS} {at_ : Int} (hf : faultS S = 0) (hv : ¬ InV S at_) : errV S at_ = 2 := by unfold errV; rw [if_neg (by simpa using hf), if_pos hv]
theorem errV_3 {S : MS} {at_ : Int} (hf : faultS S = 0) (hv : InV S at_) (hz : truthsS S = []) : errV S at_ = 11 := by unfold errV; rw [if_neg (by simpa using hf), if_neg (by intro q; exact q hv), if_pos hz]
theorem errV_4 {S : MS} {at_ : Int} (hf : faultS S = 0) (hv : InV S at_) (hz : truthsS S ≠ []) : errV S at_ = 0 := by unfold errV; rw [if_neg (by simpa using hf), if_neg (by intro q; exact q hv), if_neg hz]
theorem good_err {S : MS} {at_ : Int} (he : errV S at_ ≠ 0) : goodE S at_ = errV S at_ ∧ goodLo S at_ = 0 ∧ goodHi S at_ = 0 := ⟨if_neg he, if_neg he, if_neg he⟩
theorem good_ok {S : MS} {at_ : Int} (he : errV S at_ = 0) : goodE S at_ = (if gAll S at_.toNat = [] then 10 else 0) ∧ goodLo S at_ = gLo (S.vb at_.toNat) (gAll S at_.toNat) ∧ goodHi S at_ = gHi (S.vb at_.toNat) (gAll S at_.toNat) := ⟨if_pos he, if_pos he, if_pos he⟩
def s44 : SCode := (.seq (.ops [⟨(some 2), none, .box (T 0)⟩, ⟨(some 4), none, .alloc [(.int .i64 (0)), (.int .i64 (0))]⟩, ⟨(some 5), none, .mov (.const (.int .i64 (0)))⟩]) (.seq (.ops [⟨(some 11), none, .loadN 7 (T 2)⟩, ⟨(some 12), none, .mov (T 1)⟩, ⟨(some 13), none, .call (.func 88) [(T 11), (T 12), (.const (.slice none 0 0))]⟩, ⟨(some 10), none, .mov (T 13)⟩, ⟨(some 14), none, .extract 0 (T 10)⟩, ⟨(some 15), none, .extract 1 (T 10)⟩, ⟨(some 6), none, .alloc [(.int .i64 (0)), (.int .i64 (0)), (.slice none 0 0), (.int .i64 (0)), (.int .i64 (0)), (.slice none 0 0), (.slice none 0 0), (.slice none 0 0)]⟩, ⟨none, none, .store 8 (T 6) (T 14)⟩, ⟨(some 7), none, .mov (T 15)⟩]) (.seq (.seq (.ops [⟨(some 16), none, .mov (T 7)⟩, ⟨(some 17), none, .int2 .neq (T 16) (.const (.int .i64 (0)))⟩]) (.cond (T 17) (.seq (.ops [⟨(some 18), none, .build #[(0, 1), (1, 1)] [(.int .i64 (0)), (.int .i64 (0))] [] []⟩, ⟨(some 19), none, .mov (T 7)⟩, ⟨none, none, .store 2 (T 4) (T 18)⟩, ⟨(some 5), none, .mov (T 19)⟩]) .ret) .skip)) (.seq (.ops [⟨(some 21), none, .loadN 8 (T 6)⟩, ⟨(some 22), none, .mov (T 1)⟩, ⟨(some 23), none, .call (.func 93) [(T 21), (T 22)]⟩, ⟨(some 20), none, .mov (T 23)⟩, ⟨(some 24), none, .extract 0 (T 20)⟩, ⟨(some 25), none, .extract 1 (T 20)⟩, ⟨(some 8), none, .alloc [(.int .i64 (0)), (.int .i64 (0))]⟩, ⟨none, none, .store 2 (T 8) (T 24)⟩, ⟨(some 9), none, .mov (T 25)⟩]) (.seq (.seq (.ops [⟨(some 26), none, .mov (T 9)⟩, ⟨(some 27), none, .not (T 26)⟩]) (.cond (T 27) (.seq (.ops [⟨(some 28), none, .build #[(0, 1), (1, 1)] [(.int .i64 (0)), (.int .i64 (0))] [] []⟩, ⟨none, none, .store 2 (T 4) (T 28)⟩, ⟨(some 5), none, .mov (.const (.int .i64 (10)))⟩]) .ret) .skip)) (.seq (.ops [⟨(some 29), none, .loadN 2 (T 8)⟩, ⟨none, none, .store 2 (T 4) (T 29)⟩, ⟨(some 5), none, .mov (.const (.int .i64 (0)))⟩]) .ret))))))
theorem fok44 : FnOk Try.prog 44 30 s44 [.cellN 4 2, .tmp 5] := ⟨Try.f44, _, Try.func44, rfl, Try.ntmps44, by kernel_rfl, by kernel_rfl⟩
set_option maxHeartbeats 2000000 in
theorem goodP_c (hn : 2500 ≤ n) (hr : h.next + 1200000 < far) {wv vv sv : Value} {S : MS} (hy : SteepR h wv vv sv S) (hT : ThinS S) (at_ : Int) :
    call n (.func (.func 44) #[] #[]) [.agg ⟨stL S wv vv sv⟩, .int .i64 at_] h = some (.tuple ⟨[.agg ⟨[.int .i64 (goodLo S at_), .int .i64 (goodHi S at_)]⟩, .int .i64 (goodE S at_)]⟩, h) := by
  obtain ⟨n, rfl⟩ : ∃ p, n = p + 1 := ⟨n - 1, by omega⟩
  refine call_plain0 fok44 rfl rfl (by simp) rfl ?_
  have hy := hy.shut
  have hr : h.shutAll.next + 1200000 < far := hr
  have hfl : h.shutAll.floor ≤ h.shutAll.next := Nat.le_refl _
  generalize h.shutAll = h at hy hr hfl
  simp only [s44, W_seq, W_ops]
  refine ops_box (cs := stL S wv vv sv) (by omega) rfl hy.one fun g1 hx1 => ?_
  have n1 := hx1.next
  have f1 := hx1.floor
  refine ops_alloc (cs := [.int .i64 0, .int .i64 0]) (by omega) rfl fun g2 hx2 => ?_
  have n2 := hx2.next
  have f2 := hx2.floor
  have sub2 : Sub All h g2 := hx1.sub.trans hx2.sub
  have w2 := (hx1.row.mono hx2.sub).whole (n := 7) rfl
  obtain ⟨pv, g3, eo, o3, u3, m3, f3, hp⟩ := openVat_c (n := n) (h := g2) (by omega) (by omega) (by omega) (hy.mono sub2) hT at_
  have sub3 : Sub All h g3 := sub2.trans (AHeap.subOf o3)
  have q3 : g3.get g1.next = some (.row [.int .i64 0, .int .i64 0] true 0) := by rw [o3 _ (by omega)]; exact hx2.get
  have z20 : ¬ (2 : Int) = 0 := by decide
  have z110 : ¬ (11 : Int) = 0 := by decide
  rcases hp with ⟨hf, rfl⟩ | ⟨hf, hv, rfl⟩ | ⟨hf, hv, hz, rfl⟩ | ⟨hf, hv, hz, tv, rfl, hone, htr, hlong⟩
  · have e0 : errV S at_ = faultS S := errV_1 hf
    obtain ⟨q1, q2, q3'⟩ := good_err (S := S) (at_ := at_) (by rw [e0]; exact hf)
    rw [q1, q2, q3', e0]
    simp only [rn0, rn1, rn2, rn3, rn4, rn5, rn6, rn7, rn8, if_true, if_false, Nat.le_refl, true_and, and_true, decide_true, decide_false, Bool.not_true, Bool.not_false, reduceIte, Nat.reduceEqDiff, Nat.reduceAdd, Nat.reduceMul, Nat.reduceSub, Nat.reduceLeDiff, Nat.reduceLT, w2, eo, ex0, ex1]
    refine step_new (vs := wk0) (by omega) (by omega) rfl (by simp only [rn0, rn1, rn2, rn3, rn4, rn5, rn6, rn7, rn8, if_true, if_false, Nat.le_refl, true_and, and_true, decide_true, decide_false, Bool.not_true, Bool.not_false, reduceIte, Nat.reduceEqDiff, Nat.reduceAdd, Nat.reduceMul, Nat.reduceSub, Nat.reduceLeDiff, Nat.reduceLT]; rfl) rfl rfl rfl fun g4 hx4 => ?_
    have n4 := hx4.next
    have f4 := hx4.floor
    simp only [rn0, rn1, rn2, rn3, rn4, rn5, rn6, rn7, rn8, if_true, if_false, Nat.le_refl, true_and, and_true, decide_true, decide_false, Bool.not_true, Bool.not_false, reduceIte, Nat.reduceEqDiff, Nat.reduceAdd, Nat.reduceMul, Nat.reduceSub, Nat.reduceLeDiff, Nat.reduceLT, hf, build_rng0]
    refine step_store (b := g1.next) (off := 0) (vs := [.int .i64 0, .int .i64 0]) rfl (by rw [hx4.old _ (by omega)]; exact q3) (by omega) (by omega) rfl rfl rfl (by simp) fun g6 hs6 => ?_
    rw [splice_all (by rfl)] at hs6
    simp only [rn0, rn1, rn2, rn3, rn4, rn5, rn6, rn7, rn8, if_true, if_false, Nat.le_refl, true_and, and_true, decide_true, decide_false, Bool.not_true, Bool.not_false, reduceIte, Nat.reduceEqDiff, Nat.reduceAdd, Nat.reduceMul, Nat.reduceSub, Nat.reduceLeDiff, Nat.reduceLT, res_two, hs6.row.whole (n := 2) rfl]
  · have e0 : errV S at_ = 2 := errV_2 hf hv
    obtain ⟨q1, q2, q3'⟩ := good_err (S := S) (at_ := at_) (by rw [e0]; exact z20)
    rw [q1, q2, q3', e0]
    simp only [rn0, rn1, rn2, rn3, rn4, rn5, rn6, rn7, rn8, if_true, if_false, Nat.le_refl, true_and, and_true, decide_true, decide_false, Bool.not_true, Bool.not_false, reduceIte, Nat.reduceEqDiff, Nat.reduceAdd, Nat.reduceMul, Nat.reduceSub, Nat.reduceLeDiff, Nat.reduceLT, w2, eo, ex0, ex1]
    refine step_new (vs := wk0) (by omega) (by omega) rfl (by simp only [rn0, rn1, rn2, rn3, rn4, rn5, rn6, rn7, rn8, if_true, if_false, Nat.le_refl, true_and, and_true, decide_true, decide_false, Bool.not_true, Bool.not_false, reduceIte, Nat.reduceEqDiff, Nat.reduceAdd, Nat.reduceMul, Nat.reduceSub, Nat.reduceLeDiff, Nat.reduceLT]; rfl) rfl rfl rfl fun g4 hx4 => ?_
    have n4 := hx4.next
    have f4 := hx4.floor
    simp only [rn0, rn1, rn2, rn3, rn4, rn5, rn6, rn7, rn8, if_true, if_false, Nat.le_refl, true_and, and_true, decide_true, decide_false, Bool.not_true, Bool.not_false, reduceIte, Nat.reduceEqDiff, Nat.reduceAdd, Nat.reduceMul, Nat.reduceSub, Nat.reduceLeDiff, Nat.reduceLT, z20, build_rng0]
    refine step_store (b := g1.next) (off := 0) (vs := [.int .i64 0, .int .i64 0]) rfl (by rw [hx4.old _ (by omega)]; exact q3) (by omega) (by omega) rfl rfl rfl (by simp) fun g6 hs6 => ?_
    rw [splice_all (by rfl)] at hs6
    simp only [rn0, rn1, rn2, rn3, rn4, rn5, rn6, rn7, rn8, if_true, if_false, Nat.le_refl, true_and, and_true, decide_true, decide_false, Bool.not_true, Bool.not_false, reduceIte, Nat.reduceEqDiff, Nat.reduceAdd, Nat.reduceMul, Nat.reduceSub, Nat.reduceLeDiff, Nat.reduceLT, res_two, hs6.row.whole (n := 2) rfl]
  · have e0 : errV S at_ = 11 := errV_3 hf hv hz
    obtain ⟨q1, q2, q3'⟩ := good_err (S := S) (at_ := at_) (by rw [e0]; exact z110)
    rw [q1, q2, q3', e0]
    simp only [rn0, rn1, rn2, rn3, rn4, rn5, rn6, rn7, rn8, if_true, if_false, Nat.le_refl, true_and, and_true, decide_true, decide_false, Bool.not_true, Bool.not_false, reduceIte, Nat.reduceEqDiff, Nat.reduceAdd, Nat.reduceMul, Nat.reduceSub, Nat.reduceLeDiff, Nat.reduceLT, w2, eo, ex0, ex1]
    refine step_new (vs := wk0) (by omega) (by omega) rfl (by simp only [rn0, rn1, rn2, rn3, rn4, rn5, rn6, rn7, rn8, if_true, if_false, Nat.le_refl, true_and, and_true, decide_true, decide_false, Bool.not_true, Bool.not_false, reduceIte, Nat.reduceEqDiff, Nat.reduceAdd, Nat.reduceMul, Nat.reduceSub, Nat.reduceLeDiff, Nat.reduceLT]; rfl) rfl rfl rfl fun g4 hx4 => ?_
    have n4 := hx4.next
    have f4 := hx4.floor
    simp only [rn0, rn1, rn2, rn3, rn4, rn5, rn6, rn7, rn8, if_true, if_false, Nat.le_refl, true_and, and_true, decide_true, decide_false, Bool.not_true, Bool.not_false, reduceIte, Nat.reduceEqDiff, Nat.reduceAdd, Nat.reduceMul, Nat.reduceSub, Nat.reduceLeDiff, Nat.reduceLT, z110, build_rng0]
    refine step_store (b := g1.next) (off := 0) (vs := [.int .i64 0, .int .i64 0]) rfl (by rw [hx4.old _ (by omega)]; exact q3) (by omega) (by omega) rfl rfl rfl (by simp) fun g6 hs6 => ?_
    rw [splice_all (by rfl)] at hs6
    simp only [rn0, rn1, rn2, rn3, rn4, rn5, rn6, rn7, rn8, if_true, if_false, Nat.le_refl, true_and, and_true, decide_true, decide_false, Bool.not_true, Bool.not_false, reduceIte, Nat.reduceEqDiff, Nat.reduceAdd, Nat.reduceMul, Nat.reduceSub, Nat.reduceLeDiff, Nat.reduceLT, res_two, hs6.row.whole (n := 2) rfl]
  · have hG := good_of hf
    have e0 : errV S at_ = 0 := errV_4 hf hv hz
    obtain ⟨q1, q2, q3'⟩ := good_ok e0
    rw [q1, q2, q3']
    have how := wk_one hy (tv := tv) hone
    obtain ⟨va, hva⟩ : ∃ va : Nat, at_ = (va : Int) := ⟨at_.toNat, by unfold InV at hv; omega⟩
    subst hva
    have hvn : va < S.nv := by unfold InV at hv; omega
    simp only [Int.toNat_natCast]
    simp only [rn0, rn1, rn2, rn3, rn4, rn5, rn6, rn7, rn8, if_true, if_false, Nat.le_refl, true_and, and_true, decide_true, decide_false, Bool.not_true, Bool.not_false, reduceIte, Nat.reduceEqDiff, Nat.reduceAdd, Nat.reduceMul, Nat.reduceSub, Nat.reduceLeDiff, Nat.reduceLT, w2, eo, ex0, ex1]
    refine step_new (vs := wkL S wv vv sv tv) (by omega) (by omega) rfl (by simp only [rn0, rn1, rn2, rn3, rn4, rn5, rn6, rn7, rn8, if_true, if_false, Nat.le_refl, true_and, and_true, decide_true, decide_false, Bool.not_true, Bool.not_false, reduceIte, Nat.reduceEqDiff, Nat.reduceAdd, Nat.reduceMul, Nat.reduceSub, Nat.reduceLeDiff, Nat.reduceLT]; rfl) how rfl rfl fun g4 hx4 => ?_
    have n4 := hx4.next
    have f4 := hx4.floor
    have sub4 := sub3.trans hx4.sub
    have htr4 : TruthsR g4 S tv (truthsS S) := Cells.mono htr hx4.sub
    have q4 : g4.get g1.next = some (.row [.int .i64 0, .int .i64 0] true 0) := by rw [hx4.old _ (by omega)]; exact q3
    have eg := goodHours_c (n := n) (h := g4) (by omega) (by omega) (hy.mono sub4) hone hG (truths_len hG) (fun t ht => (truths_mem.1 ht).1.1) htr4 hvn
    change call n _ _ g4 = some (.tuple ⟨[.agg ⟨[.int .i64 (gLo (S.vb va) (gAll S va)), .int .i64 (gHi (S.vb va) (gAll S va))]⟩, .bool (decide (gAll S va ≠ []))]⟩, g4) at eg
    by_cases c : gAll S va = []
    · have d0 : decide (gAll S va ≠ []) = false := decide_eq_false (by simpa using c)
      rw [if_pos c, c, gLo_nil, gHi_nil]
      rw [d0, c, gLo_nil, gHi_nil] at eg
      simp only [rn0, rn1, rn2, rn3, rn4, rn5, rn6, rn7, rn8, if_true, if_false, Nat.le_refl, true_and, and_true, decide_true, decide_false, Bool.not_true, Bool.not_false, reduceIte, Nat.reduceEqDiff, Nat.reduceAdd, Nat.reduceMul, Nat.reduceSub, Nat.reduceLeDiff, Nat.reduceLT, hx4.row.whole (n := 8) rfl, eg, ex0, ex1]
      refine step_new (vs := [.int .i64 0, .int .i64 0]) (by omega) (by omega) rfl (by simp only [rn0, rn1, rn2, rn3, rn4, rn5, rn6, rn7, rn8, if_true, if_false, Nat.le_refl, true_and, and_true, decide_true, decide_false, Bool.not_true, Bool.not_false, reduceIte, Nat.reduceEqDiff, Nat.reduceAdd, Nat.reduceMul, Nat.reduceSub, Nat.reduceLeDiff, Nat.reduceLT]; rfl) rfl rfl rfl fun g5 hx5 => ?_
      have n5 := hx5.next
      have f5 := hx5.floor
      simp only [rn0, rn1, rn2, rn3, rn4, rn5, rn6, rn7, rn8, if_true, if_false, Nat.le_refl, true_and, and_true, decide_true, decide_false, Bool.not_true, Bool.not_false, reduceIte, Nat.reduceEqDiff, Nat.reduceAdd, Nat.reduceMul, Nat.reduceSub, Nat.reduceLeDiff, Nat.reduceLT, build_rng0]
      refine step_store (b := g1.next) (off := 0) (vs := [.int .i64 0, .int .i64 0]) rfl (by rw [hx5.old _ (by omega)]; exact q4) (by omega) (by omega) rfl rfl rfl (by simp) fun g6 hs6 => ?_
      rw [splice_all (by rfl)] at hs6
      simp only [rn0, rn1, rn2, rn3, rn4, rn5, rn6, rn7, rn8, if_true, if_false, Nat.le_refl, true_and, and_true, decide_true, decide_false, Bool.not_true, Bool.not_false, reduceIte, Nat.reduceEqDiff, Nat.reduceAdd, Nat.reduceMul, Nat.reduceSub, Nat.reduceLeDiff, Nat.reduceLT, res_two, hs6.row.whole (n := 2) rfl]
    · have d0 : decide (gAll S va ≠ []) = true := decide_eq_true c
      rw [if_neg c]
      rw [d0] at eg
      simp only [rn0, rn1, rn2, rn3, rn4, rn5, rn6, rn7, rn8, if_true, if_false, Nat.le_refl, true_and, and_true, decide_true, decide_false, Bool.not_true, Bool.not_false, reduceIte, Nat.reduceEqDiff, Nat.reduceAdd, Nat.reduceMul, Nat.reduceSub, Nat.reduceLeDiff, Nat.reduceLT, hx4.row.whole (n := 8) rfl, eg, ex0, ex1]
      refine step_new (vs := [.int .i64 (gLo (S.vb va) (gAll S va)), .int .i64 (gHi (S.vb va) (gAll S va))]) (by omega) (by omega) rfl (by simp only [rn0, rn1, rn2, rn3, rn4, rn5, rn6, rn7, rn8, if_true, if_false, Nat.le_refl, true_and, and_true, decide_true, decide_false, Bool.not_true, Bool.not_false, reduceIte, Nat.reduceEqDiff, Nat.reduceAdd, Nat.reduceMul, Nat.reduceSub, Nat.reduceLeDiff, Nat.reduceLT]; rfl) rfl rfl rfl fun g5 hx5 => ?_
      have n5 := hx5.next
      have f5 := hx5.floor
      simp only [rn0, rn1, rn2, rn3, rn4, rn5, rn6, rn7, rn8, if_true, if_false, Nat.le_refl, true_and, and_true, decide_true, decide_false, Bool.not_true, Bool.not_false, reduceIte, Nat.reduceEqDiff, Nat.reduceAdd, Nat.reduceMul, Nat.reduceSub, Nat.reduceLeDiff, Nat.reduceLT, hx5.row.whole (n := 2) rfl]
      refine step_store (b := g1.next) (off := 0) (vs := [.int .i64 (gLo (S.vb va) (gAll S va)), .int .i64 (gHi (S.vb va) (gAll S va))]) rfl (by rw [hx5.old _ (by omega)]; exact q4) (by omega) (by omega) rfl rfl rfl (by simp) fun g6 hs6 => ?_
      rw [splice_all (by rfl)] at hs6
      simp only [rn0, rn1, rn2, rn3, rn4, rn5, rn6, rn7, rn8, if_true, if_false, Nat.le_refl, true_and, and_true, decide_true, decide_false, Bool.not_true, Bool.not_false, reduceIte, Nat.reduceEqDiff, Nat.reduceAdd, Nat.reduceMul, Nat.reduceSub, Nat.reduceLeDiff, Nat.reduceLT, res_two, hs6.row.whole (n := 2) rfl]
def s45 : SCode := (.seq (.ops [⟨(some 3), none, .box (T 0)⟩, ⟨(some 6), none, .mov (.const (.slice none 0 0))⟩]) (.seq (.ops [⟨(some 7), none, .mov (.const (.slice none 0 0))⟩]) (.seq (.seq (.ops [⟨(some 9), none, .fieldAddr 5 (T 3)⟩, ⟨(some 10), none, .load1 (T 9)⟩, ⟨(some 11), none, .mov (T 2)⟩, ⟨(some 12), none, .idxSl 4 (T 10) (T 11)⟩, ⟨(some 13), none, .fieldAddr 0 (T 12)⟩, ⟨(some 14), none, .load1 (T 13)⟩, ⟨(some 8), none, .mov (T 14)⟩]) (.block 0 (.loop (.seq (.seq (.ops [⟨(some 15), none, .mov (T 8)⟩, ⟨(some 16), none, .fieldAddr 0 (T 3)⟩, ⟨(some 17), none, .load1 (T 16)⟩, ⟨(some 18), none, .int2 .leq (T 15) (T 17)⟩]) (.cond (T 18) .skip (.exit 0))) (.seq (.block 1 (.seq (.ops [⟨(some 21), none, .loadN 7 (T 3)⟩, ⟨(some 22), none, .mov (T 1)⟩, ⟨(some 23), none, .mov (T 2)⟩, ⟨(some 24), none, .mov (T 8)⟩, ⟨(some 25), none, .call (.func 43) [(T 21), (T 22), (T 23), (T 24)]⟩, ⟨(some 26), none, .int2 .eql (T 25) (.const (.int .i64 (1)))⟩]) (.cond (T 26) (.ops [⟨(some 27), none, .mov (T 7)⟩, ⟨(some 28), none, .mov (T 8)⟩, ⟨(some 29), none, .bslice 1 1 [(.int .i64 (0))] [0] [(T 28)]⟩, ⟨(some 30), none, .append 1 8 (T 27) (T 29)⟩, ⟨(some 7), none, .mov (T 30)⟩]) .skip))) (.ops [⟨(some 19), none, .mov (T 8)⟩, ⟨(some 20), none, .int2 .add (T 19) (.const (.int .i64 (1)))⟩, ⟨(some 8), none, .mov (T 20)⟩])))))) (.seq (.ops [⟨(some 31), none, .mov (T 7)⟩, ⟨(some 6), none, .mov (T 31)⟩]) .ret))))
theorem verd_one {S : MS} {v : Nat} {hh kk : Int} {L : List (Nat → Int)} (hL : L ≠ []) : verdS S v hh kk L = 1 ↔ ∀ t, t ∈ L → kindS S t v hh = kk := by
  obtain ⟨t, ht⟩ := List.exists_mem_of_ne_nil _ hL
  unfold verdS
  by_cases c1 : ∀ t, t ∈ L → kindS S t v hh ≠ kk
  · rw [if_pos c1]
    exact ⟨fun e => absurd e (by decide), fun q => absurd (q t ht) (c1 t ht)⟩
  · rw [if_neg c1]
    by_cases c2 : ∀ t, t ∈ L → kindS S t v hh = kk
    · rw [if_pos c2]; exact ⟨fun _ => c2, fun _ => rfl⟩
    · rw [if_neg c2]; exact ⟨fun e => absurd e (by decide), fun q => absurd q c2⟩
theorem kind_up {S : MS} {u : Nat → Int} (hG : Good S) (hu : InU S u) {v : Nat} (hv : v < S.nv) {i : Nat} : ∀ d, i + d < hoursN S v → kindS S u v (S.vb v + (i : Int)) ≤ kindS S u v (S.vb v + ((i + d : Nat) : Int))
  | 0, _ => Int.le_refl _
  | d + 1, hd => by
    have h1 := kind_up hG hu hv (i := i) d (by omega)
    have o1 := hour_at hG hv (i := i + d) (by omega)
    have o2 := hour_at hG hv (i := i + d + 1) (by omega)
    have ee : S.vb v + ((i + d + 1 : Nat) : Int) = S.vb v + ((i + d : Nat) : Int) + 1 := by omega
    have h2 := kind_next hG hu o1 (by rw [← ee]; exact o2)
    rw [← ee] at h2
    exact Int.le_trans h1 h2
theorem good_mid {S : MS} (hG : Good S) {v : Nat} (hv : v < S.nv) {L : List (Nat → Int)} (hL : L ≠ []) (hin : ∀ t, t ∈ L → InU S t) {a b c : Nat} (h1 : a ≤ b) (h2 : b ≤ c) (h3 : c < hoursN S v) (ha : verdS S v (S.vb v + (a : Int)) 1 L = 1) (hc : verdS S v (S.vb v + (c : Int)) 1 L = 1) : verdS S v (S.vb v + (b : Int)) 1 L = 1 := by
  rw [verd_one hL] at ha hc ⊢
  intro t ht
  have k1 := kind_up hG (hin t ht) hv (i := a) (b - a) (by omega)
  have k2 := kind_up hG (hin t ht) hv (i := b) (c - b) (by omega)
  rw [show a + (b - a) = b by omega, ha t ht] at k1
  rw [show b + (c - b) = c by omega, hc t ht] at k2
  omega
theorem pick_run {p : Nat → Prop} : ∀ (k : Nat), (∀ a b c, a ≤ b → b ≤ c → c < k → p a → p c → p b) → pickL p k ≠ [] → ∃ a, (∀ i, i < (pickL p k).length → atL (pickL p k) i = ((a + i : Nat) : Int)) ∧ a + (pickL p k).length ≤ k ∧ ∀ x, x < k → (p x ↔ a ≤ x ∧ x < a + (pickL p k).length)
  | 0, _, h => absurd rfl h
  | k + 1, hg, h => by
    by_cases c : p k
    · rw [pick_yes c] at h ⊢
      by_cases c0 : pickL p k = []
      · refine ⟨k, ?_, by rw [c0]; simp, ?_⟩
        · rw [c0]
          intro i hi
          simp only [List.nil_append, List.length_singleton] at hi
          obtain rfl : i = 0 := by omega
          rfl
        · rw [c0]
          intro x hx
          simp only [List.nil_append, List.length_singleton]
          constructor
          · intro hp
            by_cases e : x = k
            · omega
            · obtain ⟨i, i1, i2⟩ := pick_has (p := p) (k := k) (show x < k by omega) hp
              rw [c0] at i1
              exact absurd i1 (Nat.not_lt_zero _)
          · intro q
            obtain rfl : x = k := by omega
            exact c
      · obtain ⟨a, h1, h2, h3⟩ := pick_run k (fun a b c h1 h2 h3 => hg a b c h1 h2 (by omega)) c0
        have hpos : 0 < (pickL p k).length := List.length_pos_iff.2 c0
        have hpa : p a := (h3 a (by omega)).2 ⟨Nat.le_refl _, by omega⟩
        have hend : a + (pickL p k).length = k := by
          apply Classical.byContradiction
          intro hne
          have := (h3 (a + (pickL p k).length) (by omega)).1 (hg a _ k (by omega) (by omega) (by omega) hpa c)
          omega
        refine ⟨a, fun i hi => ?_, by rw [List.length_append, List.length_singleton]; omega, fun x hx => ?_⟩
        · rw [List.length_append, List.length_singleton] at hi
          by_cases e : i < (pickL p k).length
          · rw [at_append e, h1 i e]
          · obtain rfl : i = (pickL p k).length := by omega
            rw [at_last, hend]
        · rw [List.length_append, List.length_singleton]
          by_cases e : x = k
          · subst e
            exact ⟨fun _ => ⟨by omega, by omega⟩, fun _ => c⟩
          · rw [h3 x (by omega)]
            omega
    · rw [pick_no c] at h ⊢
      obtain ⟨a, h1, h2, h3⟩ := pick_run k (fun a b c h1 h2 h3 => hg a b c h1 h2 (by omega)) h
      refine ⟨a, h1, by omega, fun x hx => ?_⟩
      by_cases e : x = k
      · subst e
        exact ⟨fun q => absurd q c, fun q => by omega⟩
      · exact h3 x (by omega)
theorem gAll_run {S : MS} (hG : Good S) {v : Nat} (hv : v < S.nv) (hz : truthsS S ≠ []) (hne : gAll S v ≠ []) : ∃ a : Nat, a + (gAll S v).length ≤ hoursN S v ∧ 0 < (gAll S v).length ∧ gLo (S.vb v) (gAll S v) = S.vb v + (a : Int) ∧ gHi (S.vb v) (gAll S v) = S.vb v + ((a + (gAll S v).length - 1 : Nat) : Int) ∧ ∀ x, x < hoursN S v → (verdS S v (S.vb v + (x : Int)) 1 (truthsS S) = 1 ↔ a ≤ x ∧ x < a + (gAll S v).length) := by
  obtain ⟨a, h1, h2, h3⟩ := pick_run (p := fun i => verdS S v (S.vb v + (i : Int)) 1 (truthsS S) = 1) (hoursN S v) (fun a b c k1 k2 k3 ha hc => good_mid hG hv hz (fun t ht => (truths_mem.1 ht).1.1) k1 k2 k3 ha hc) hne
  have e : pickL (fun i => verdS S v (S.vb v + (i : Int)) 1 (truthsS S) = 1) (hoursN S v) = gAll S v := rfl
  simp only [e] at h1 h2 h3
  have hpos : 0 < (gAll S v).length := List.length_pos_iff.2 hne
  refine ⟨a, h2, hpos, ?_, ?_, h3⟩
  · unfold gLo
    rw [if_neg hne, h1 0 hpos, Nat.add_zero]
  · unfold gHi
    rw [if_neg hne, h1 _ (by omega)]
    congr 2
    omega
end Go.Vm.St

namespace Go.Vm.St
open Go.Proofs Go.Vm.Vat
set_option linter.unusedSimpArgs false
set_option linter.unusedVariables false
set_option maxRecDepth 10000
variable {n : Nat} {h : AHeap}
def s5 : SCode := (.seq (.ops [⟨(some 3), none, .box (T 0)⟩, ⟨(some 6), none, .mov (.const (.bool false))⟩]) (.seq (.seq (.ops [⟨(some 13), none, .loadN 7 (T 3)⟩, ⟨(some 14), none, .call (.func 23) [(T 13)]⟩, ⟨(some 15), none, .not (T 14)⟩]) (.cond (T 15) (.seq (.ops [⟨(some 16), none, .call (.func 24) []⟩, ⟨(some 6), none, .mov (T 16)⟩]) .ret) .skip)) (.seq (.ops [⟨(some 18), none, .loadN 7 (T 3)⟩, ⟨(some 19), none, .call (.func 26) [(T 18)]⟩, ⟨(some 20), none, .mov (T 1)⟩, ⟨(some 21), none, .mov (T 2)⟩, ⟨(some 22), none, .call (.func 40) [(T 19), (T 20), (T 21)]⟩, ⟨(some 17), none, .mov (T 22)⟩, ⟨(some 23), none, .extract 0 (T 17)⟩, ⟨(some 24), none, .extract 1 (T 17)⟩, ⟨(some 7), none, .mov (T 23)⟩, ⟨(some 8), none, .mov (T 24)⟩]) (.seq (.ops [⟨(some 25), none, .loadN 7 (T 3)⟩, ⟨(some 26), none, .call (.func 26) [(T 25)]⟩, ⟨(some 27), none, .mov (T 1)⟩, ⟨(some 28), none, .mov (T 2)⟩, ⟨(some 29), none, .call (.func 41) [(T 26), (T 27), (T 28)]⟩, ⟨(some 9), none, .mov (T 29)⟩]) (.seq (.draw [⟨.rd, ⟨(some 31), none, .loadN 7 (T 3)⟩⟩, ⟨.rd1, ⟨(some 32), none, .loadN 7 (T 3)⟩⟩, ⟨.free, ⟨(some 33), none, .mov (T 1)⟩⟩, ⟨.up, ⟨(some 34), none, .call (.func 37) [(T 32), (T 33)]⟩⟩, ⟨.free, ⟨(some 35), none, .mov (T 34)⟩⟩, ⟨.rd1, ⟨(some 36), (some (35, true)), .loadN 7 (T 3)⟩⟩, ⟨.up, ⟨(some 37), (some (35, true)), .call (.func 29) [(T 36)]⟩⟩, ⟨.free, ⟨(some 38), (some (35, true)), .int2 .eql (T 37) (.const (.int .i64 (0)))⟩⟩, ⟨.free, ⟨(some 39), none, .pick (T 35) (T 38) (.const (.bool false))⟩⟩, ⟨.free, ⟨(some 40), none, .mov (T 39)⟩⟩, ⟨.free, ⟨(some 41), (some (40, true)), .mov (T 2)⟩⟩, ⟨.free, ⟨(some 42), (some (40, true)), .fieldAddr 5 (T 3)⟩⟩, ⟨.rd1, ⟨(some 43), (some (40, true)), .load1 (T 42)⟩⟩, ⟨.free, ⟨(some 44), (some (40, true)), .mov (T 1)⟩⟩, ⟨.free, ⟨(some 45), (some (40, true)), .idxSl 4 (T 43) (T 44)⟩⟩, ⟨.free, ⟨(some 46), (some (40, true)), .fieldAddr 0 (T 45)⟩⟩, ⟨.rd1, ⟨(some 47), (some (40, true)), .load1 (T 46)⟩⟩, ⟨.free, ⟨(some 48), (some (40, true)), .fieldAddr 0 (T 3)⟩⟩, ⟨.rd1, ⟨(some 49), (some (40, true)), .load1 (T 48)⟩⟩, ⟨.up, ⟨(some 50), (some (40, true)), .call (.func 42) [(T 41), (T 47), (T 49)]⟩⟩, ⟨.free, ⟨(some 51), none, .pick (T 40) (T 50) (.const (.bool false))⟩⟩, ⟨.any, ⟨(some 52), none, .call (.func 36) [(T 31), (T 51)]⟩⟩, ⟨.free, ⟨(some 30), none, .mov (T 52)⟩⟩, ⟨.free, ⟨(some 53), none, .extract 0 (T 30)⟩⟩, ⟨.free, ⟨(some 54), none, .extract 1 (T 30)⟩⟩, ⟨.free, ⟨(some 10), none, .mov (T 53)⟩⟩, ⟨.free, ⟨(some 11), none, .mov (T 54)⟩⟩]) (.seq (.seq (.ops [⟨(some 55), none, .mov (T 11)⟩, ⟨(some 56), none, .int2 .neq (T 55) (.const (.int .i64 (0)))⟩]) (.cond (T 56) (.seq (.ops [⟨(some 57), none, .mov (T 8)⟩, ⟨(some 58), none, .mov (T 11)⟩, ⟨(some 59), none, .int2 .eql (T 57) (T 58)⟩, ⟨(some 60), none, .mov (T 59)⟩, ⟨(some 61), (some (60, true)), .mov (T 7)⟩, ⟨(some 62), (some (60, true)), .int2 .eql (T 61) (.const (.int .i64 (0)))⟩, ⟨(some 63), none, .pick (T 60) (T 62) (.const (.bool false))⟩, ⟨(some 64), none, .mov (T 63)⟩, ⟨(some 65), (some (64, true)), .mov (T 9)⟩, ⟨(some 66), (some (64, true)), .not (T 65)⟩, ⟨(some 67), none, .pick (T 64) (T 66) (.const (.bool false))⟩, ⟨(some 68), none, .mov (T 67)⟩, ⟨(some 69), (some (68, true)), .call (.func 24) []⟩, ⟨(some 70), none, .pick (T 68) (T 69) (.const (.bool false))⟩, ⟨(some 6), none, .mov (T 70)⟩]) .ret) .skip)) (.seq (.ops [⟨(some 71), none, .loadN 7 (T 3)⟩, ⟨(some 72), none, .mov (T 10)⟩, ⟨(some 73), none, .mov (T 1)⟩, ⟨(some 74), none, .mov (T 2)⟩, ⟨(some 75), none, .call (.func 43) [(T 71), (T 72), (T 73), (T 74)]⟩, ⟨(some 12), none, .mov (T 75)⟩]) (.seq (.ops [⟨(some 76), none, .mov (T 8)⟩, ⟨(some 77), none, .int2 .eql (T 76) (.const (.int .i64 (0)))⟩, ⟨(some 78), none, .mov (T 77)⟩, ⟨(some 79), (some (78, true)), .mov (T 7)⟩, ⟨(some 80), (some (78, true)), .mov (T 12)⟩, ⟨(some 81), (some (78, true)), .int2 .eql (T 79) (T 80)⟩, ⟨(some 82), none, .pick (T 78) (T 81) (.const (.bool false))⟩, ⟨(some 83), none, .mov (T 82)⟩, ⟨(some 84), (some (83, true)), .mov (T 9)⟩, ⟨(some 85), (some (83, true)), .mov (T 12)⟩, ⟨(some 86), (some (83, true)), .int2 .eql (T 85) (.const (.int .i64 (1)))⟩, ⟨(some 87), (some (83, true)), .bin .eql (.binOp .eql 4 (T 84) (T 86) 4) 4 (T 84) (T 86)⟩, ⟨(some 88), none, .pick (T 83) (T 87) (.const (.bool false))⟩, ⟨(some 89), none, .mov (T 88)⟩, ⟨(some 90), (some (89, true)), .call (.func 24) []⟩, ⟨(some 91), none, .pick (T 89) (T 90) (.const (.bool false))⟩, ⟨(some 6), none, .mov (T 91)⟩]) .ret))))))))
end Go.Vm.St

namespace Go.Vm
variable {P : Program} {N : Nat} {f : Fr} {h : AHeap} {ty t u e : TypeId} {x y : Operand}
end Go.Vm
namespace Go.Vm.St
open Go.Proofs Go.Vm.Vat
set_option linter.unusedSimpArgs false
set_option linter.unusedVariables false
set_option maxRecDepth 10000
variable {n : Nat} {h : AHeap}
def s46 : SCode := (.seq (.ops [⟨(some 4), none, .alloc [(.int .i64 (0)), (.int .i64 (0))]⟩]) (.seq (.ops [⟨(some 5), none, .mov (T 0)⟩, ⟨(some 6), none, .mov (T 1)⟩, ⟨(some 7), none, .build #[(0, 1), (1, 1)] [(.int .i64 (0)), (.int .i64 (0))] [0, 1] [(T 5), (T 6)]⟩, ⟨none, none, .store 2 (T 4) (T 7)⟩]) .ret))
theorem fok46 : FnOk Try.prog 46 8 s46 [.cellN 4 2] := ⟨Try.f46, _, Try.func46, rfl, Try.ntmps46, by kernel_rfl, by kernel_rfl⟩
theorem between_c (hn : 1 ≤ n) (hr : h.next + 2 < far) (lo hi : Int) : call n (.func (.func 46) #[] #[]) [.int .i64 lo, .int .i64 hi] h = some (.agg ⟨[.int .i64 lo, .int .i64 hi]⟩, h) := by
  obtain ⟨n, rfl⟩ : ∃ p, n = p + 1 := ⟨n - 1, by omega⟩
  refine call_plain0 fok46 rfl rfl (by simp) rfl ?_
  have hr : h.shutAll.next + 2 < far := hr
  have hfl : h.shutAll.floor ≤ h.shutAll.next := Nat.le_refl _
  generalize h.shutAll = h at hr hfl
  simp only [s46, W_seq, W_ops]
  refine ops_alloc (by omega) rfl fun h2 hx2 => ?_
  have n2 := hx2.next
  have f2 := hx2.floor
  simp only [rn0, rn1, rn2, rn3, rn4, rn5, rn6, rn7, rn8, if_true, if_false, Nat.le_refl, true_and, and_true, decide_true, decide_false, Bool.not_true, Bool.not_false, reduceIte, Nat.reduceEqDiff, Nat.reduceAdd, Nat.reduceMul, Nat.reduceSub, Nat.reduceLeDiff, Nat.reduceLT, build_range]
  refine step_store (vs := [.int .i64 lo, .int .i64 hi]) rfl hx2.get (by omega) (by omega) rfl rfl rfl (by simp) fun h3 hs => ?_
  rw [splice2] at hs
  simp only [rn0, rn1, rn2, rn3, rn4, rn5, rn6, rn7, rn8, if_true, if_false, Nat.le_refl, true_and, and_true, decide_true, decide_false, Bool.not_true, Bool.not_false, reduceIte, Nat.reduceEqDiff, Nat.reduceAdd, Nat.reduceMul, Nat.reduceSub, Nat.reduceLeDiff, Nat.reduceLT, hs.row.whole (n := 2) rfl]
def s6 : SCode := (.seq (.ops [⟨(some 2), none, .box (T 0)⟩, ⟨(some 4), none, .mov (.const (.bool false))⟩]) (.seq (.seq (.ops [⟨(some 10), none, .loadN 7 (T 2)⟩, ⟨(some 11), none, .call (.func 23) [(T 10)]⟩, ⟨(some 12), none, .not (T 11)⟩]) (.cond (T 12) (.seq (.ops [⟨(some 13), none, .call (.func 24) []⟩, ⟨(some 4), none, .mov (T 13)⟩]) .ret) .skip)) (.seq (.ops [⟨(some 15), none, .loadN 7 (T 2)⟩, ⟨(some 16), none, .call (.func 26) [(T 15)]⟩, ⟨(some 17), none, .mov (T 1)⟩, ⟨(some 18), none, .call (.func 44) [(T 16), (T 17)]⟩, ⟨(some 14), none, .mov (T 18)⟩, ⟨(some 19), none, .extract 0 (T 14)⟩, ⟨(some 20), none, .extract 1 (T 14)⟩, ⟨(some 5), none, .alloc [(.int .i64 (0)), (.int .i64 (0))]⟩, ⟨none, none, .store 2 (T 5) (T 19)⟩, ⟨(some 6), none, .mov (T 20)⟩]) (.seq (.draw [⟨.rd, ⟨(some 22), none, .loadN 7 (T 2)⟩⟩, ⟨.rd1, ⟨(some 23), none, .loadN 7 (T 2)⟩⟩, ⟨.free, ⟨(some 24), none, .mov (T 1)⟩⟩, ⟨.up, ⟨(some 25), none, .call (.func 37) [(T 23), (T 24)]⟩⟩, ⟨.any, ⟨(some 26), none, .call (.func 36) [(T 22), (T 25)]⟩⟩, ⟨.free, ⟨(some 21), none, .mov (T 26)⟩⟩, ⟨.free, ⟨(some 27), none, .extract 0 (T 21)⟩⟩, ⟨.free, ⟨(some 28), none, .extract 1 (T 21)⟩⟩, ⟨.free, ⟨(some 7), none, .mov (T 27)⟩⟩, ⟨.free, ⟨(some 8), none, .mov (T 28)⟩⟩]) (.seq (.seq (.ops [⟨(some 29), none, .mov (T 8)⟩, ⟨(some 30), none, .int2 .neq (T 29) (.const (.int .i64 (0)))⟩]) (.cond (T 30) (.seq (.ops [⟨(some 31), none, .mov (T 6)⟩, ⟨(some 32), none, .mov (T 8)⟩, ⟨(some 33), none, .int2 .eql (T 31) (T 32)⟩, ⟨(some 34), none, .mov (T 33)⟩, ⟨(some 35), (some (34, true)), .loadN 2 (T 5)⟩, ⟨(some 36), (some (34, true)), .build #[(0, 1), (1, 1)] [(.int .i64 (0)), (.int .i64 (0))] [] []⟩, ⟨(some 37), (some (34, true)), .bin .eql (.binOp .eql 39 (T 35) (T 36) 39) 4 (T 35) (T 36)⟩, ⟨(some 38), none, .pick (T 34) (T 37) (.const (.bool false))⟩, ⟨(some 39), none, .mov (T 38)⟩, ⟨(some 40), (some (39, true)), .call (.func 24) []⟩, ⟨(some 41), none, .pick (T 39) (T 40) (.const (.bool false))⟩, ⟨(some 4), none, .mov (T 41)⟩]) .ret) .skip)) (.seq (.ops [⟨(some 42), none, .loadN 7 (T 2)⟩, ⟨(some 43), none, .mov (T 7)⟩, ⟨(some 44), none, .mov (T 1)⟩, ⟨(some 45), none, .call (.func 45) [(T 42), (T 43), (T 44)]⟩, ⟨(some 9), none, .mov (T 45)⟩]) (.seq (.seq (.ops [⟨(some 46), none, .mov (T 9)⟩, ⟨(some 47), none, .len (T 46)⟩, ⟨(some 48), none, .int2 .eql (T 47) (.const (.int .i64 (0)))⟩]) (.cond (T 48) (.seq (.ops [⟨(some 49), none, .mov (T 6)⟩, ⟨(some 50), none, .int2 .eql (T 49) (.const (.int .i64 (10)))⟩, ⟨(some 51), none, .mov (T 50)⟩, ⟨(some 52), (some (51, true)), .loadN 2 (T 5)⟩, ⟨(some 53), (some (51, true)), .build #[(0, 1), (1, 1)] [(.int .i64 (0)), (.int .i64 (0))] [] []⟩, ⟨(some 54), (some (51, true)), .bin .eql (.binOp .eql 39 (T 52) (T 53) 39) 4 (T 52) (T 53)⟩, ⟨(some 55), none, .pick (T 51) (T 54) (.const (.bool false))⟩, ⟨(some 56), none, .mov (T 55)⟩, ⟨(some 57), (some (56, true)), .call (.func 24) []⟩, ⟨(some 58), none, .pick (T 56) (T 57) (.const (.bool false))⟩, ⟨(some 4), none, .mov (T 58)⟩]) .ret) .skip)) (.seq (.draw [⟨.free, ⟨(some 59), none, .mov (T 6)⟩⟩, ⟨.free, ⟨(some 60), none, .int2 .eql (T 59) (.const (.int .i64 (0)))⟩⟩, ⟨.free, ⟨(some 61), none, .mov (T 60)⟩⟩, ⟨.rd, ⟨(some 62), (some (61, true)), .loadN 2 (T 5)⟩⟩, ⟨.free, ⟨(some 63), (some (61, true)), .mov (T 9)⟩⟩, ⟨.free, ⟨(some 64), (some (61, true)), .idxSl 1 (T 63) (.const (.int .i64 (0)))⟩⟩, ⟨.rd1, ⟨(some 65), (some (61, true)), .load1 (T 64)⟩⟩, ⟨.free, ⟨(some 66), (some (61, true)), .mov (T 9)⟩⟩, ⟨.free, ⟨(some 67), (some (61, true)), .mov (T 9)⟩⟩, ⟨.free, ⟨(some 68), (some (61, true)), .len (T 67)⟩⟩, ⟨.free, ⟨(some 69), (some (61, true)), .int2 .sub (T 68) (.const (.int .i64 (1)))⟩⟩, ⟨.free, ⟨(some 70), (some (61, true)), .idxSl 1 (T 66) (T 69)⟩⟩, ⟨.rd1, ⟨(some 71), (some (61, true)), .load1 (T 70)⟩⟩, ⟨.up, ⟨(some 72), (some (61, true)), .call (.func 46) [(T 65), (T 71)]⟩⟩, ⟨.free, ⟨(some 73), (some (61, true)), .bin .eql (.binOp .eql 39 (T 62) (T 72) 39) 4 (T 62) (T 72)⟩⟩, ⟨.free, ⟨(some 74), none, .pick (T 61) (T 73) (.const (.bool false))⟩⟩, ⟨.free, ⟨(some 75), none, .mov (T 74)⟩⟩, ⟨.free, ⟨(some 76), (some (75, true)), .mov (T 9)⟩⟩, ⟨.free, ⟨(some 77), (some (75, true)), .len (T 76)⟩⟩, ⟨.free, ⟨(some 78), (some (75, true)), .fieldAddr 1 (T 5)⟩⟩, ⟨.rd1, ⟨(some 79), (some (75, true)), .load1 (T 78)⟩⟩, ⟨.free, ⟨(some 80), (some (75, true)), .fieldAddr 0 (T 5)⟩⟩, ⟨.rd1, ⟨(some 81), (some (75, true)), .load1 (T 80)⟩⟩, ⟨.free, ⟨(some 82), (some (75, true)), .int2 .sub (T 79) (T 81)⟩⟩, ⟨.free, ⟨(some 83), (some (75, true)), .int2 .add (T 82) (.const (.int .i64 (1)))⟩⟩, ⟨.free, ⟨(some 84), (some (75, true)), .int2 .eql (T 77) (T 83)⟩⟩, ⟨.free, ⟨(some 85), none, .pick (T 75) (T 84) (.const (.bool false))⟩⟩, ⟨.free, ⟨(some 86), none, .mov (T 85)⟩⟩, ⟨.any, ⟨(some 87), (some (86, true)), .call (.func 24) []⟩⟩, ⟨.free, ⟨(some 88), none, .pick (T 86) (T 87) (.const (.bool false))⟩⟩, ⟨.free, ⟨(some 4), none, .mov (T 88)⟩⟩]) .ret))))))))
end Go.Vm.St

namespace Go.Vm.St
open Go.Proofs Go.Vm.Vat
set_option linter.unusedSimpArgs false
set_option linter.unusedVariables false
set_option maxRecDepth 10000
variable {n : Nat} {h : AHeap}
def optI : Option Nat → Int → Int
  | some v, _ => (v : Int)
  | none, d => d
def s7 : SCode := (.seq (.ops [⟨(some 1), none, .box (T 0)⟩, ⟨(some 2), none, .mov (.const (.bool false))⟩]) (.seq (.seq (.ops [⟨(some 8), none, .loadN 7 (T 1)⟩, ⟨(some 9), none, .call (.func 23) [(T 8)]⟩, ⟨(some 10), none, .not (T 9)⟩]) (.cond (T 10) (.seq (.ops [⟨(some 11), none, .call (.func 24) []⟩, ⟨(some 2), none, .mov (T 11)⟩]) .ret) .skip)) (.seq (.ops [⟨(some 13), none, .loadN 7 (T 1)⟩, ⟨(some 14), none, .call (.func 26) [(T 13)]⟩, ⟨(some 15), none, .call (.func 47) [(T 14)]⟩, ⟨(some 12), none, .mov (T 15)⟩, ⟨(some 16), none, .extract 0 (T 12)⟩, ⟨(some 17), none, .extract 1 (T 12)⟩, ⟨(some 3), none, .mov (T 16)⟩, ⟨(some 4), none, .mov (T 17)⟩]) (.seq (.ops [⟨(some 19), none, .loadN 7 (T 1)⟩, ⟨(some 20), none, .call (.func 36) [(T 19), (.const (.bool true))]⟩, ⟨(some 18), none, .mov (T 20)⟩, ⟨(some 21), none, .extract 0 (T 18)⟩, ⟨(some 22), none, .extract 1 (T 18)⟩, ⟨(some 5), none, .mov (T 21)⟩, ⟨(some 6), none, .mov (T 22)⟩]) (.seq (.seq (.ops [⟨(some 23), none, .mov (T 6)⟩, ⟨(some 24), none, .int2 .neq (T 23) (.const (.int .i64 (0)))⟩]) (.cond (T 24) (.seq (.ops [⟨(some 25), none, .mov (T 4)⟩, ⟨(some 26), none, .mov (T 6)⟩, ⟨(some 27), none, .int2 .eql (T 25) (T 26)⟩, ⟨(some 28), none, .mov (T 27)⟩, ⟨(some 29), (some (28, true)), .mov (T 3)⟩, ⟨(some 30), (some (28, true)), .int2 .eql (T 29) (.const (.int .i64 (0)))⟩, ⟨(some 31), none, .pick (T 28) (T 30) (.const (.bool false))⟩, ⟨(some 32), none, .mov (T 31)⟩, ⟨(some 33), (some (32, true)), .call (.func 24) []⟩, ⟨(some 34), none, .pick (T 32) (T 33) (.const (.bool false))⟩, ⟨(some 2), none, .mov (T 34)⟩]) .ret) .skip)) (.seq (.seq (.ops [⟨(some 35), none, .loadN 7 (T 1)⟩, ⟨(some 36), none, .mov (T 5)⟩, ⟨(some 37), none, .call (.func 48) [(T 35), (T 36)]⟩, ⟨(some 7), none, .mov (T 37)⟩]) (.seq (.ops [⟨(some 38), none, .mov (T 7)⟩, ⟨(some 39), none, .int2 .geq (T 38) (.const (.int .i64 (0)))⟩]) (.cond (T 39) (.seq (.ops [⟨(some 40), none, .mov (T 4)⟩, ⟨(some 41), none, .int2 .eql (T 40) (.const (.int .i64 (0)))⟩, ⟨(some 42), none, .mov (T 41)⟩, ⟨(some 43), (some (42, true)), .mov (T 3)⟩, ⟨(some 44), (some (42, true)), .mov (T 7)⟩, ⟨(some 45), (some (42, true)), .int2 .eql (T 43) (T 44)⟩, ⟨(some 46), none, .pick (T 42) (T 45) (.const (.bool false))⟩, ⟨(some 47), none, .mov (T 46)⟩, ⟨(some 48), (some (47, true)), .call (.func 24) []⟩, ⟨(some 49), none, .pick (T 47) (T 48) (.const (.bool false))⟩, ⟨(some 2), none, .mov (T 49)⟩]) .ret) .skip))) (.seq (.ops [⟨(some 50), none, .mov (T 4)⟩, ⟨(some 51), none, .int2 .eql (T 50) (.const (.int .i64 (7)))⟩, ⟨(some 52), none, .mov (T 51)⟩, ⟨(some 53), (some (52, true)), .mov (T 3)⟩, ⟨(some 54), (some (52, true)), .int2 .eql (T 53) (.const (.int .i64 (0)))⟩, ⟨(some 55), none, .pick (T 52) (T 54) (.const (.bool false))⟩, ⟨(some 56), none, .mov (T 55)⟩, ⟨(some 57), (some (56, true)), .call (.func 24) []⟩, ⟨(some 58), none, .pick (T 56) (T 57) (.const (.bool false))⟩, ⟨(some 2), none, .mov (T 58)⟩]) .ret)))))))
end Go.Vm.St

namespace Go.Vm.St
open Go.Proofs Go.Vm.Vat
set_option linter.unusedSimpArgs false
set_option linter.unusedVariables false
set_option maxRecDepth 10000
variable {n : Nat} {h : AHeap}
def cntS (S : MS) (v : Nat) (hh kk : Int) (L : List (Nat → Int)) : Nat := cntB (fun t => kindS S t v hh) L kk
def lvS (S : MS) (v : Nat) (hh : Int) (L : List (Nat → Int)) : Int := max (max (cntS S v hh 0 L : Int) (cntS S v hh 1 L)) (cntS S v hh 2 L)
structure Sm where
  v : Int
  h : Int
  l : Int
end Go.Vm.St

namespace Go.Vm.St
open Go.Proofs Go.Vm.Vat
set_option linter.unusedSimpArgs false
set_option linter.unusedVariables false
set_option maxRecDepth 10000
variable {n : Nat} {h : AHeap}
def s8 : SCode := (.seq (.ops [⟨(some 1), none, .box (T 0)⟩, ⟨(some 2), none, .mov (.const (.bool false))⟩]) (.seq (.seq (.ops [⟨(some 12), none, .loadN 7 (T 1)⟩, ⟨(some 13), none, .call (.func 23) [(T 12)]⟩, ⟨(some 14), none, .not (T 13)⟩]) (.cond (T 14) (.seq (.ops [⟨(some 15), none, .call (.func 24) []⟩, ⟨(some 2), none, .mov (T 15)⟩]) .ret) .skip)) (.seq (.ops [⟨(some 17), none, .loadN 7 (T 1)⟩, ⟨(some 18), none, .call (.func 26) [(T 17)]⟩, ⟨(some 19), none, .call (.func 49) [(T 18)]⟩, ⟨(some 16), none, .mov (T 19)⟩, ⟨(some 20), none, .extract 0 (T 16)⟩, ⟨(some 21), none, .extract 1 (T 16)⟩, ⟨(some 22), none, .extract 2 (T 16)⟩, ⟨(some 23), none, .extract 3 (T 16)⟩, ⟨(some 3), none, .mov (T 20)⟩, ⟨(some 4), none, .mov (T 21)⟩, ⟨(some 5), none, .mov (T 22)⟩, ⟨(some 6), none, .mov (T 23)⟩]) (.seq (.ops [⟨(some 25), none, .loadN 7 (T 1)⟩, ⟨(some 26), none, .call (.func 36) [(T 25), (.const (.bool true))]⟩, ⟨(some 24), none, .mov (T 26)⟩, ⟨(some 27), none, .extract 0 (T 24)⟩, ⟨(some 28), none, .extract 1 (T 24)⟩, ⟨(some 7), none, .mov (T 27)⟩, ⟨(some 8), none, .mov (T 28)⟩]) (.seq (.seq (.ops [⟨(some 29), none, .mov (T 8)⟩, ⟨(some 30), none, .int2 .eql (T 29) (.const (.int .i64 (0)))⟩, ⟨(some 31), none, .mov (T 30)⟩, ⟨(some 32), (some (31, true)), .fieldAddr 5 (T 1)⟩, ⟨(some 33), (some (31, true)), .load1 (T 32)⟩, ⟨(some 34), (some (31, true)), .len (T 33)⟩, ⟨(some 35), (some (31, true)), .int2 .eql (T 34) (.const (.int .i64 (0)))⟩, ⟨(some 36), none, .pick (T 31) (T 35) (.const (.bool false))⟩]) (.cond (T 36) (.ops [⟨(some 8), none, .mov (.const (.int .i64 (7)))⟩]) .skip)) (.seq (.seq (.ops [⟨(some 37), none, .mov (T 8)⟩, ⟨(some 38), none, .int2 .neq (T 37) (.const (.int .i64 (0)))⟩]) (.cond (T 38) (.seq (.ops [⟨(some 39), none, .mov (T 6)⟩, ⟨(some 40), none, .mov (T 8)⟩, ⟨(some 41), none, .int2 .eql (T 39) (T 40)⟩, ⟨(some 42), none, .mov (T 41)⟩, ⟨(some 43), (some (42, true)), .mov (T 3)⟩, ⟨(some 44), (some (42, true)), .int2 .eql (T 43) (.const (.int .i64 (0)))⟩, ⟨(some 45), none, .pick (T 42) (T 44) (.const (.bool false))⟩, ⟨(some 46), none, .mov (T 45)⟩, ⟨(some 47), (some (46, true)), .mov (T 4)⟩, ⟨(some 48), (some (46, true)), .int2 .eql (T 47) (.const (.int .i64 (0)))⟩, ⟨(some 49), none, .pick (T 46) (T 48) (.const (.bool false))⟩, ⟨(some 50), none, .mov (T 49)⟩, ⟨(some 51), (some (50, true)), .mov (T 5)⟩, ⟨(some 52), (some (50, true)), .int2 .eql (T 51) (.const (.int .i64 (0)))⟩, ⟨(some 53), none, .pick (T 50) (T 52) (.const (.bool false))⟩, ⟨(some 54), none, .mov (T 53)⟩, ⟨(some 55), (some (54, true)), .call (.func 24) []⟩, ⟨(some 56), none, .pick (T 54) (T 55) (.const (.bool false))⟩, ⟨(some 2), none, .mov (T 56)⟩]) .ret) .skip)) (.seq (.ops [⟨(some 58), none, .loadN 7 (T 1)⟩, ⟨(some 59), none, .mov (T 7)⟩, ⟨(some 60), none, .call (.func 50) [(T 58), (T 59)]⟩, ⟨(some 57), none, .mov (T 60)⟩, ⟨(some 61), none, .extract 0 (T 57)⟩, ⟨(some 62), none, .extract 1 (T 57)⟩, ⟨(some 63), none, .extract 2 (T 57)⟩, ⟨(some 9), none, .mov (T 61)⟩, ⟨(some 10), none, .mov (T 62)⟩, ⟨(some 11), none, .mov (T 63)⟩]) (.seq (.ops [⟨(some 64), none, .mov (T 6)⟩, ⟨(some 65), none, .int2 .eql (T 64) (.const (.int .i64 (0)))⟩, ⟨(some 66), none, .mov (T 65)⟩, ⟨(some 67), (some (66, true)), .mov (T 3)⟩, ⟨(some 68), (some (66, true)), .mov (T 9)⟩, ⟨(some 69), (some (66, true)), .int2 .eql (T 67) (T 68)⟩, ⟨(some 70), none, .pick (T 66) (T 69) (.const (.bool false))⟩, ⟨(some 71), none, .mov (T 70)⟩, ⟨(some 72), (some (71, true)), .mov (T 4)⟩, ⟨(some 73), (some (71, true)), .mov (T 10)⟩, ⟨(some 74), (some (71, true)), .int2 .eql (T 72) (T 73)⟩, ⟨(some 75), none, .pick (T 71) (T 74) (.const (.bool false))⟩, ⟨(some 76), none, .mov (T 75)⟩, ⟨(some 77), (some (76, true)), .mov (T 5)⟩, ⟨(some 78), (some (76, true)), .mov (T 11)⟩, ⟨(some 79), (some (76, true)), .int2 .eql (T 77) (T 78)⟩, ⟨(some 80), none, .pick (T 76) (T 79) (.const (.bool false))⟩, ⟨(some 81), none, .mov (T 80)⟩, ⟨(some 82), (some (81, true)), .call (.func 24) []⟩, ⟨(some 83), none, .pick (T 81) (T 82) (.const (.bool false))⟩, ⟨(some 2), none, .mov (T 83)⟩]) .ret))))))))
end Go.Vm.St
