/- Texts of the proofs of this seat, put together: StBnds, StTruths, StMem, StOut, StVerd, StOpenH, StRightP, StGoodH, StOutL, StRightL, StRightM, StGoodP, StRightN, StGoodL, StStuckL, StAskP, StAskL, StStay, StLess, StWarmer, StAskedL, VmSets, VmSetR. -/
import Derived.Test.YtffgdpkogokdhaaPk14

namespace Go.Vm.St
open Go.Proofs Go.Vm.Vat
set_option linter.unusedSimpArgs false
set_option linter.unusedVariables false
set_option maxRecDepth 10000
variable {n : Nat} {h : AHeap}
theorem cs_flat {s m : Nat} {cs : List Value} {c : Nat → Nat → Value} (hs : 0 < s) (hl : cs.length = m * s) (hc : ∀ k j, k < m → j < s → cs[k * s + j]? = some (c k j)) : cs = flatL s m c := by
  apply List.ext_getElem?
  intro i
  by_cases hi : i < m * s
  · have h1 : i / s < m := Nat.div_lt_of_lt_mul (by rw [Nat.mul_comm]; exact hi)
    have h2 : i % s < s := Nat.mod_lt _ hs
    have h3 : i / s * s + i % s = i := by rw [Nat.mul_comm]; exact Nat.div_add_mod i s
    have a := hc _ _ h1 h2
    have b := flatL_get (c := c) h1 h2
    rw [h3] at a b
    rw [a, b]
  · rw [List.getElem?_eq_none (by omega), List.getElem?_eq_none (by rw [flatL_len]; omega)]
def rngL (m : Nat) (lo hi : Nat → Int) : List Value := flatL 2 m fun k j => .int .i64 (if j = 0 then lo k else hi k)
theorem rngL_congr {m : Nat} {lo hi lo' hi' : Nat → Int} (he : ∀ k, k < m → lo k = lo' k ∧ hi k = hi' k) : rngL m lo hi = rngL m lo' hi' := by
  refine cs_flat (by omega) flatL_len fun k j hk hj => ?_
  rw [rngL, flatL_get (c := fun k j => .int .i64 (if j = 0 then lo k else hi k)) hk hj, (he k hk).1, (he k hk).2]
theorem rngL_cells {g : AHeap} {b m cap gr : Nat} {w : Bool} {lo hi : Nat → Int} (hg : g.get b = some (.row (rngL m lo hi) w gr)) : Ranges g (.slice (some ⟨b, 0, none⟩) m cap) m lo hi :=
  cells_row ⟨w, gr, hg⟩ fun k j hk hj => flatL_get (c := fun k j => .int .i64 (if j = 0 then lo k else hi k)) hk hj
theorem sl_pair {x y : Int} : buildSl 2 1 [.int .i64 0, .int .i64 0] [0] h [.agg ⟨[.int .i64 x, .int .i64 y]⟩] = newSlice h [.int .i64 x, .int .i64 y] 1 1 0 := id rfl
def loB (S : MS) (v : Nat) (L : List (Nat → Int)) (i q : Nat) : Int := minN (blueS S (L.getD 0 fun _ => 0) v (S.vb v + (q : Int))) (fun i => blueS S (L.getD (i + 1) fun _ => 0) v (S.vb v + (q : Int))) i
def hiB (S : MS) (v : Nat) (L : List (Nat → Int)) (i q : Nat) : Int := maxN (blueS S (L.getD 0 fun _ => 0) v (S.vb v + (q : Int))) (fun i => blueS S (L.getD (i + 1) fun _ => 0) v (S.vb v + (q : Int))) i
def s89 : SCode := (.seq (.ops [⟨(some 3), none, .box (T 0)⟩, ⟨(some 4), none, .box (T 1)⟩, ⟨(some 6), none, .mov (.const (.slice none 0 0))⟩]) (.seq (.ops [⟨(some 7), none, .mov (.const (.slice none 0 0))⟩]) (.seq (.seq (.draw [⟨.rd1, ⟨(some 14), none, .loadN 1 (T 3)⟩⟩, ⟨.rd1, ⟨(some 15), none, .loadN 8 (T 4)⟩⟩, ⟨.free, ⟨(some 16), none, .fieldAddr 7 (T 4)⟩⟩, ⟨.rd1, ⟨(some 17), none, .load1 (T 16)⟩⟩, ⟨.free, ⟨(some 18), none, .idxSl 11 (T 17) (.const (.int .i64 (0)))⟩⟩, ⟨.rd1, ⟨(some 19), none, .loadN 11 (T 18)⟩⟩, ⟨.free, ⟨(some 20), none, .mov (T 2)⟩⟩, ⟨.any, ⟨(some 21), none, .call (.func 77) [(T 14), (T 15), (T 19), (T 20)]⟩⟩, ⟨.free, ⟨(some 22), none, .len (T 21)⟩⟩, ⟨.free, ⟨(some 23), none, .mov (.const (.int .i64 (0)))⟩⟩]) (.block 0 (.loop (.seq (.ops [⟨(some 24), none, .int2 .lss (T 23) (T 22)⟩]) (.seq (.cond (T 24) .skip (.exit 0)) (.seq (.block 1 (.seq (.ops [⟨(some 25), none, .idxSl 1 (T 21) (T 23)⟩, ⟨(some 26), none, .load1 (T 25)⟩, ⟨(some 9), none, .mov (T 26)⟩]) (.ops [⟨(some 27), none, .mov (T 7)⟩, ⟨(some 28), none, .mov (T 9)⟩, ⟨(some 29), none, .mov (T 9)⟩, ⟨(some 30), none, .build #[(0, 1), (1, 1)] [(.int .i64 (0)), (.int .i64 (0))] [0, 1] [(T 28), (T 29)]⟩, ⟨(some 31), none, .bslice 2 1 [(.int .i64 (0)), (.int .i64 (0))] [0] [(T 30)]⟩, ⟨(some 32), none, .append 2 16 (T 27) (T 31)⟩, ⟨(some 7), none, .mov (T 32)⟩]))) (.ops [⟨(some 33), none, .int2 .add (T 23) (.const (.int .i64 (1)))⟩, ⟨(some 23), none, .mov (T 33)⟩]))))))) (.seq (.seq (.ops [⟨(some 34), none, .fieldAddr 7 (T 4)⟩, ⟨(some 35), none, .load1 (T 34)⟩, ⟨(some 36), none, .slice 11 (T 35) (some (.const (.int .i64 (1)))) none none⟩, ⟨(some 37), none, .len (T 36)⟩, ⟨(some 38), none, .mov (.const (.int .i64 (0)))⟩]) (.block 2 (.loop (.seq (.ops [⟨(some 39), none, .int2 .lss (T 38) (T 37)⟩]) (.seq (.cond (T 39) .skip (.exit 2)) (.seq (.block 3 (.seq (.ops [⟨(some 40), none, .idxSl 11 (T 36) (T 38)⟩, ⟨(some 41), none, .loadN 11 (T 40)⟩, ⟨(some 11), none, .alloc [(.int .i64 (0)), (.int .i64 (0)), (.int .i64 (0)), (.int .i64 (0)), (.int .i64 (0)), (.int .i64 (0)), (.int .i64 (0)), (.int .i64 (0)), (.int .i64 (0)), (.int .i64 (0)), (.int .i64 (0))]⟩, ⟨none, none, .store 11 (T 11) (T 41)⟩]) (.seq (.ops [⟨(some 42), none, .loadN 1 (T 3)⟩, ⟨(some 43), none, .loadN 8 (T 4)⟩, ⟨(some 44), none, .loadN 11 (T 11)⟩, ⟨(some 45), none, .mov (T 2)⟩, ⟨(some 46), none, .call (.func 77) [(T 42), (T 43), (T 44), (T 45)]⟩, ⟨(some 47), none, .len (T 46)⟩, ⟨(some 48), none, .mov (.const (.int .i64 (0)))⟩]) (.block 4 (.loop (.seq (.ops [⟨(some 49), none, .int2 .lss (T 48) (T 47)⟩]) (.seq (.cond (T 49) .skip (.exit 4)) (.seq (.block 5 (.seq (.ops [⟨(some 50), none, .mov (T 48)⟩, ⟨(some 51), none, .idxSl 1 (T 46) (T 48)⟩, ⟨(some 52), none, .load1 (T 51)⟩, ⟨(some 12), none, .mov (T 50)⟩, ⟨(some 13), none, .mov (T 52)⟩]) (.draw [⟨.free, ⟨(some 53), none, .mov (T 7)⟩⟩, ⟨.free, ⟨(some 54), none, .mov (T 12)⟩⟩, ⟨.free, ⟨(some 55), none, .mov (T 7)⟩⟩, ⟨.free, ⟨(some 56), none, .mov (T 12)⟩⟩, ⟨.free, ⟨(some 57), none, .idxSl 2 (T 55) (T 56)⟩⟩, ⟨.free, ⟨(some 58), none, .fieldAddr 0 (T 57)⟩⟩, ⟨.rd, ⟨(some 59), none, .load1 (T 58)⟩⟩, ⟨.free, ⟨(some 60), none, .mov (T 13)⟩⟩, ⟨.up, ⟨(some 61), none, .bslice 1 1 [(.int .i64 (0))] [0] [(T 60)]⟩⟩, ⟨.up, ⟨(some 62), none, .call (.func 105) [(T 59), (T 61)]⟩⟩, ⟨.free, ⟨(some 63), none, .mov (T 7)⟩⟩, ⟨.free, ⟨(some 64), none, .mov (T 12)⟩⟩, ⟨.free, ⟨(some 65), none, .idxSl 2 (T 63) (T 64)⟩⟩, ⟨.free, ⟨(some 66), none, .fieldAddr 1 (T 65)⟩⟩, ⟨.rd, ⟨(some 67), none, .load1 (T 66)⟩⟩, ⟨.free, ⟨(some 68), none, .mov (T 13)⟩⟩, ⟨.free, ⟨(some 69), none, .plain (.call { callee := .builtin .max, args := #[(T 67), (T 68)], argTypes := #[3, 3] }) 3⟩⟩, ⟨.free, ⟨(some 70), none, .build #[(0, 1), (1, 1)] [(.int .i64 (0)), (.int .i64 (0))] [0, 1] [(T 62), (T 69)]⟩⟩, ⟨.free, ⟨(some 71), none, .idxSl 2 (T 53) (T 54)⟩⟩, ⟨.any, ⟨none, none, .store 2 (T 71) (T 70)⟩⟩]))) (.ops [⟨(some 72), none, .int2 .add (T 48) (.const (.int .i64 (1)))⟩, ⟨(some 48), none, .mov (T 72)⟩]))))))))) (.ops [⟨(some 73), none, .int2 .add (T 38) (.const (.int .i64 (1)))⟩, ⟨(some 38), none, .mov (T 73)⟩]))))))) (.seq (.ops [⟨(some 74), none, .mov (T 7)⟩, ⟨(some 6), none, .mov (T 74)⟩]) .ret)))))
theorem fok89 : FnOk Try.prog 89 75 s89 [.tmp 6] := ⟨Try.f89, _, Try.func89, rfl, Try.ntmps89, by kernel_rfl, by kernel_rfl⟩
set_option maxHeartbeats 4000000 in
theorem bounds_c (hn : 2300 ≤ n) (hr : h.next + 200000 < far) (hfl : h.floor ≤ h.next) {wv vv sv tv : Value} {S : MS} (hy : SteepR h wv vv sv S) (ho : oneCell tv = true) (hG : Good S) {L : List (Nat → Int)} (hL : L ≠ []) (hlen : L.length ≤ 2000) (hin : ∀ t, t ∈ L → InU S t) (htr : TruthsR h S tv L) (hlong : Long tv) {v : Nat} (hv : v < S.nv) :
    ∃ r h', call n (.func (.func 89) #[] #[]) [.agg ⟨[.func (.func 76) #[] #[]]⟩, .agg ⟨wkL S wv vv sv tv⟩, .int .i64 (v : Int)] h = some (r, h') ∧ Ranges h' r (hoursN S v) (loB S v L (L.length - 1)) (hiB S v L (L.length - 1)) ∧ oneCell r = true ∧
      Sub All h h' ∧ h.next ≤ h'.next ∧ h'.next ≤ h.next + 100000 ∧ h'.floor = h.floor := by
  obtain ⟨n, rfl⟩ : ∃ p, n = p + 1 := ⟨n - 1, by omega⟩
  have hpos : 0 < L.length := List.length_pos_iff.2 hL
  obtain ⟨mh1, mh2, mh3⟩ := hoursN_ok hG hv
  refine call_any0 fok89 rfl rfl (by simp) ?_
  simp only [s89, W_seq, W_ops]
  refine ops_box (cs := [.func (.func 76) #[] #[]]) (by omega) rfl rfl fun g1 hx1 => ?_
  have n1 := hx1.next
  have f1 := hx1.floor
  refine ops_box (cs := wkL S wv vv sv tv) (by omega) rfl (wk_one hy ho) fun g2 hx2 => ?_
  have n2 := hx2.next
  have f2 := hx2.floor
  have sub2 : Sub All h g2 := hx1.sub.trans hx2.sub
  have old2 : ∀ i, i < h.next → g2.get i = h.get i := fun i hi => by rw [hx2.old i (by omega), hx1.old i hi]
  have r1 := hx1.row.mono hx2.sub
  have r2 := hx2.row
  have hy2 := hy.mono sub2
  have ht2 : TruthsR g2 S tv L := Cells.mono htr sub2
  have hH := fun (u : Nat → Int) (hu : InU S u) (g : AHeap) (hg : g.next + 200 < far) (hfg : g.floor ≤ g.next) (hyg : SteepR g wv vv sv S) => hourly_c (n := n) (h := g) (by omega) hg hfg hyg (tv := tv) ho hG (u := u) hv (G := 76) (val := fun hh => blueS S u v hh) fun gg hsub hgg hh hho => blueOut_c (by omega) (by omega) (hyg.mono hsub) ho hG hu hho
  have hat : ∀ i, i < L.length → InU S (L.getD i fun _ => 0) := fun i hi => hin _ (getD_mem hi)
  obtain ⟨g3, b3, e3, i3, lb3, ub3, o3, u3, m3, f3⟩ := hH _ (hat 0 hpos) g2 (by omega) (by omega) hy2
  have sub3 : Sub All g2 g3 := AHeap.subOf o3
  simp only [rn0, rn1, rn2, reduceIte, Nat.reduceEqDiff, Nat.reduceAdd, Nat.reduceMul, Nat.reduceSub, Nat.reduceLeDiff, Nat.reduceLT]
  refine W_draw All ?_
  have i0 : indexSl 11 tv (.int .i64 0) = some (ptrO tv 11 0 0) := Cells.idx ht2 hpos
  simp only [rn0, rn1, rn2, reduceIte, Nat.reduceEqDiff, Nat.reduceAdd, Nat.reduceMul, Nat.reduceSub, Nat.reduceLeDiff, Nat.reduceLT, r1.whole (n := 1) rfl, r2.whole (n := 8) rfl, r2.ld, wkg, Nat.zero_add, i0, truths_ld ht2 hpos, e3, len_slice]
  refine ⟨by omega, ?_⟩
  have f0 := fun (q : Nat) => loB S v L 0 q
  refine W_loop (hoursN S v) (fun k f g ms => (∃ w, (∀ i, i < g3.next → g.get i = g3.get i) ∧ g.floor = h.floor ∧ g3.next ≤ g.next ∧ g.next ≤ g3.next + 2 * k ∧ GrowC g3.next g w 2 k (fun k j => .int .i64 (if j = 0 then loB S v L 0 k else hiB S v L 0 k)) ∧ f 7 = w) ∧ ms = [] ∧ f 2 = .int .i64 (v : Int) ∧ f 3 = .pointer (some ⟨h.next, 0, none⟩) ∧ f 4 = .pointer (some ⟨g1.next, 0, none⟩) ∧ f 21 = .slice (some ⟨b3, 0, none⟩) (hoursN S v) (hoursN S v) ∧ f 22 = .int .i64 (hoursN S v : Int) ∧ f 23 = .int .i64 (k : Int)) (by simp; omega) ?_ ?_ ?_
  · simp only [rn0, rn1, rn2, reduceIte, Nat.reduceEqDiff, Nat.reduceAdd, Nat.reduceMul, Nat.reduceSub, Nat.reduceLeDiff, Nat.reduceLT]
    exact ⟨⟨_, fun i _ => trivial, by omega, by omega, .nil, rfl⟩, rfl⟩
  · rintro k f g ms hk ⟨⟨w, hs, hfg, hup, hnx, gw, p7⟩, rfl, p2, p3, p4, p21, p22, p23⟩
    have hk' : (k : Int) < (hoursN S v : Int) := by omega
    have hw : wrapF .i64 ((k : Int) + 1) = ((k + 1 : Nat) : Int) := by rw [wrap_in (by omega) (by omega)]; rfl
    have i3g := Cells.mono i3 (AHeap.subOf hs)
    simp only [rn0, rn1, rn2, reduceIte, Nat.reduceEqDiff, Nat.reduceAdd, Nat.reduceMul, Nat.reduceSub, Nat.reduceLeDiff, Nat.reduceLT, p2, p3, p4, p7, p21, p22, p23, hk', Cells.idx i3g hk, Cells.ld i3g hk Nat.zero_lt_one, build_range, sl_pair]
    refine step_slice (by omega) rfl fun g4 hx4 => ?_
    have n4 := hx4.next
    have f4 := hx4.floor
    obtain ⟨g5, e5, gw5, n5, f5, o5, u5⟩ := grow_push3 (bytes := 16) gw (by omega) (by omega) (by omega) hx4 rfl rfl (fun j hj => by
      rcases j with _ | _ | j
      · rfl
      · rfl
      · omega) (by simp [maxBytes]; omega) (by simp [maxBytes]; omega)
    simp only [rn0, rn1, rn2, reduceIte, Nat.reduceEqDiff, Nat.reduceAdd, Nat.reduceMul, Nat.reduceSub, Nat.reduceLeDiff, Nat.reduceLT, p2, p3, p4, p7, p21, p22, p23, e5, hw]
    have hfin := And.intro (fun i (hi : i < g3.next) => (by rw [o5 i (by omega) (neB_of gw (by left; exact hi)), hs i hi] : g5.get i = g3.get i)) (And.intro (by omega : g5.floor = h.floor) (And.intro (by omega : g3.next ≤ g5.next) (And.intro (by omega : g5.next ≤ g3.next + 2 * (k + 1)) (And.intro gw5 (rfl : (Value.slice (some ⟨g.next + 1, 0, none⟩) (k + 1) unk) = .slice (some ⟨g.next + 1, 0, none⟩) (k + 1) unk)))))
    first | exact ⟨⟨_, hfin⟩, rfl⟩ | exact ⟨_, hfin⟩
  rintro f g ms ⟨⟨w, hs, hfg, hup, hnx, gw, p7⟩, rfl, p2, p3, p4, p21, p22, p23⟩
  obtain ⟨bw, hbw, hrow, ewb⟩ : ∃ b, g3.next ≤ b ∧ g.get b = some (.row (rngL (hoursN S v) (loB S v L 0) (hiB S v L 0)) true 2) ∧ w = .slice (some ⟨b, 0, none⟩) (hoursN S v) unk := by
    obtain ⟨cs, q1, _, q3⟩ := gw
    rcases q1 with ⟨_, q, _⟩ | ⟨b, e, q4, q5, q6⟩
    · omega
    · exact ⟨b, q6, by rw [q4, cs_flat (by omega) q5 q3]; rfl, e⟩
  subst ewb
  have hblt := AHeap.lt_of_get hrow
  have sub3g : Sub All g3 g := AHeap.subOf hs
  have sub2g : Sub All g2 g := sub3.trans sub3g
  have r1g := r1.mono sub2g
  have r2g := r2.mono sub2g
  have htg : TruthsR g S tv L := Cells.mono ht2 sub2g
  obtain ⟨tl, g6, et, _, s6, u6, b6, f6, o6, htl⟩ := tail_c htg hpos hlong (by omega)
  have ht6 := htl g6 (Cells.mono htg s6)
  simp only [rn0, rn1, rn2, reduceIte, Nat.reduceEqDiff, Nat.reduceAdd, Nat.reduceMul, Nat.reduceSub, Nat.reduceLeDiff, Nat.reduceLT, p2, p3, p4, p7, p21, p22, p23, Int.lt_irrefl, r2g.ld, wkg, Nat.zero_add, Option.isSome_none, Option.map_some, Option.map_none, et, Cells.len ht6]
  have hrow6 : g6.get bw = some (.row (rngL (hoursN S v) (loB S v L 0) (hiB S v L 0)) true 2) := s6 _ _ _ _ trivial hrow
  refine W_loop (L.length - 1) (fun i f g' ms => (Keep bw g6 g' ∧ g'.get bw = some (.row (rngL (hoursN S v) (loB S v L i) (hiB S v L i)) true 2) ∧ g'.next ≤ g6.next + 40 * i) ∧ ms = [] ∧ f 2 = .int .i64 (v : Int) ∧ f 3 = .pointer (some ⟨h.next, 0, none⟩) ∧ f 4 = .pointer (some ⟨g1.next, 0, none⟩) ∧ f 7 = .slice (some ⟨bw, 0, none⟩) (hoursN S v) unk ∧ f 36 = tl ∧ f 37 = .int .i64 ((L.length - 1 : Nat) : Int) ∧ f 38 = .int .i64 (i : Int)) (by simp; omega) ?_ ?_ ?_
  · simp only [rn0, rn1, rn2, reduceIte, Nat.reduceEqDiff, Nat.reduceAdd, Nat.reduceMul, Nat.reduceSub, Nat.reduceLeDiff, Nat.reduceLT, p2, p3, p4, p7]
    exact ⟨⟨Keep.refl, hrow6, by omega⟩, rfl⟩
  · rintro i f g' ms hi ⟨⟨kin, gi, gin⟩, rfl, p2, p3, p4, p7, p36, p37, p38⟩
    have hi' : (i : Int) < ((L.length - 1 : Nat) : Int) := by omega
    have hwi : wrapF .i64 ((i : Int) + 1) = ((i + 1 : Nat) : Int) := by rw [wrap_in (by omega) (by omega)]; rfl
    have kup := kin.up
    have kfl := kin.floor
    have sg' : Sub All g2 g' := fun j cs w gr t hg => by
      have hlt := AHeap.lt_of_get hg
      exact kin.sub _ _ _ _ (by omega) (s6 _ _ _ _ trivial (sub2g _ _ _ _ trivial hg))
    have ht' := htl g' (Cells.mono ht2 sg')
    have hld : loadAgg 11 g' (ptrO tl 11 i 0) = some (.agg ⟨tarr S (L.getD (i + 1) fun _ => 0)⟩) := by
      rw [Cells.ldN ht' hi (by omega) (by omega)]; simp [tarr, List.range_succ]
    have r1' := r1.mono sg'
    have r2' := r2.mono sg'
    have hy' := hy2.mono sg'
    simp only [rn0, rn1, rn2, reduceIte, Nat.reduceEqDiff, Nat.reduceAdd, Nat.reduceMul, Nat.reduceSub, Nat.reduceLeDiff, Nat.reduceLT, p2, p3, p4, p7, p36, p37, p38, hi', Cells.idx ht' hi, hld]
    refine step_new (vs := tarr S (L.getD (i + 1) fun _ => 0)) (by omega) (by omega) rfl (by simp only [rn0, rn1, rn2, reduceIte, Nat.reduceEqDiff, Nat.reduceAdd, Nat.reduceMul, Nat.reduceSub, Nat.reduceLeDiff, Nat.reduceLT]; rfl) tarr_one tarr_len rfl fun g7 hx7 => ?_
    have n7 := hx7.next
    have f7 := hx7.floor
    have r17 := r1'.mono hx7.sub
    have r27 := r2'.mono hx7.sub
    obtain ⟨g8, b8, e8, i8, lb8, ub8, o8, u8, m8, f8⟩ := hH _ (hat (i + 1) (by omega)) g7 (by omega) (by omega) (hy'.mono hx7.sub)
    have sub8 : Sub All g7 g8 := AHeap.subOf o8
    simp only [rn0, rn1, rn2, reduceIte, Nat.reduceEqDiff, Nat.reduceAdd, Nat.reduceMul, Nat.reduceSub, Nat.reduceLeDiff, Nat.reduceLT, p2, p3, p4, p7, p36, p37, p38, r17.whole (n := 1) rfl, r27.whole (n := 8) rfl, hx7.row.whole tarr_len, e8, len_slice]
    have gi8 : g8.get bw = some (.row (rngL (hoursN S v) (loB S v L i) (hiB S v L i)) true 2) := by
      have := AHeap.lt_of_get gi
      rw [o8 _ (by omega), hx7.old _ this]; exact gi
    refine W_loop (hoursN S v) (fun j f g'' ms => (Keep bw g8 g'' ∧ g''.get bw = some (.row (rngL (hoursN S v) (fun q => if q < j then loB S v L (i + 1) q else loB S v L i q) (fun q => if q < j then hiB S v L (i + 1) q else hiB S v L i q)) true 2) ∧ g''.next ≤ g8.next + 2 * j) ∧ ms = [] ∧ f 2 = .int .i64 (v : Int) ∧ f 3 = .pointer (some ⟨h.next, 0, none⟩) ∧ f 4 = .pointer (some ⟨g1.next, 0, none⟩) ∧ f 7 = .slice (some ⟨bw, 0, none⟩) (hoursN S v) unk ∧ f 36 = tl ∧ f 37 = .int .i64 ((L.length - 1 : Nat) : Int) ∧ f 38 = .int .i64 (i : Int) ∧ f 46 = .slice (some ⟨b8, 0, none⟩) (hoursN S v) (hoursN S v) ∧ f 47 = .int .i64 (hoursN S v : Int) ∧ f 48 = .int .i64 (j : Int)) (by simp; omega) ?_ ?_ ?_
    · simp only [rn0, rn1, rn2, reduceIte, Nat.reduceEqDiff, Nat.reduceAdd, Nat.reduceMul, Nat.reduceSub, Nat.reduceLeDiff, Nat.reduceLT, p2, p3, p4, p7, p36, p37, p38]
      have e0 : rngL (hoursN S v) (fun q => if q < 0 then loB S v L (i + 1) q else loB S v L i q) (fun q => if q < 0 then hiB S v L (i + 1) q else hiB S v L i q) = rngL (hoursN S v) (loB S v L i) (hiB S v L i) := rngL_congr fun k _ => ⟨if_neg (by omega), if_neg (by omega)⟩
      rw [e0]
      exact ⟨⟨Keep.refl, gi8, by omega⟩, rfl⟩
    · rintro j f g'' ms hj ⟨⟨kj, gj, gjn⟩, rfl, p2, p3, p4, p7, p36, p37, p38, p46, p47, p48⟩
      have hj' : (j : Int) < (hoursN S v : Int) := by omega
      have hwj : wrapF .i64 ((j : Int) + 1) = ((j + 1 : Nat) : Int) := by rw [wrap_in (by omega) (by omega)]; rfl
      have jup := kj.up
      have jfl := kj.floor
      have hb8 : b8 ≠ bw := by have := AHeap.lt_of_get gi; omega
      have i8' := i8.keep kj fun a k c e => by cases e; exact hb8
      have hrg := rngL_cells (cap := unk) gj
      have hlo : loadCell g'' (.pointer (some ⟨bw, j * 2, none⟩)) = some (.int .i64 (loB S v L i j)) := by
        have := Cells.ld hrg hj (by omega : 0 < 2)
        simpa [ptrO] using this
      have hhi : loadCell g'' (.pointer (some ⟨bw, j * 2 + 1, none⟩)) = some (.int .i64 (hiB S v L i j)) := by
        have := Cells.ld hrg hj (by omega : 1 < 2)
        simpa [ptrO] using this
      simp only [rn0, rn1, rn2, reduceIte, Nat.reduceEqDiff, Nat.reduceAdd, Nat.reduceMul, Nat.reduceSub, Nat.reduceLeDiff, Nat.reduceLT, p2, p3, p4, p7, p36, p37, p38, p46, p47, p48, hj', Cells.idx i8' hj, Cells.ld i8' hj Nat.zero_lt_one]
      refine W_draw All ?_
      simp only [rn0, rn1, rn2, reduceIte, Nat.reduceEqDiff, Nat.reduceAdd, Nat.reduceMul, Nat.reduceSub, Nat.reduceLeDiff, Nat.reduceLT, p2, p3, p4, p7, p36, p37, p38, p46, p47, p48, idxSl_s (s := 2) hj, Nat.add_zero, hlo, hhi, eqV_int, sl_int]
      refine up_slice (by omega) rfl (fun g9 hx => hx.sub) fun g9 hx9 => ?_
      have n9 := hx9.next
      have f9 := hx9.floor
      have em := min_one (n := n) (by omega) (x := loB S v L i j) hx9.get
      have hmin : min (loB S v L i j) (blueS S (L.getD (i + 1) fun _ => 0) v (S.vb v + (j : Int))) = loB S v L (i + 1) j := rfl
      have hmax : max (hiB S v L i j) (blueS S (L.getD (i + 1) fun _ => 0) v (S.vb v + (j : Int))) = hiB S v L (i + 1) j := rfl
      rw [hmin] at em
      simp only [rn0, rn1, rn2, reduceIte, Nat.reduceEqDiff, Nat.reduceAdd, Nat.reduceMul, Nat.reduceSub, Nat.reduceLeDiff, Nat.reduceLT, p2, p3, p4, p7, p36, p37, p38, p46, p47, p48, em, idxSl_s (s := 2) hj, Nat.add_zero, hlo, hhi, eqV_int, p_max, r_max, valN_tmp, hmax, build_range]
      refine ⟨hx9.sub, ?_⟩
      refine up_store (b := bw) (off := j * 2) (vs := [.int .i64 (loB S v L (i + 1) j), .int .i64 (hiB S v L (i + 1) j)]) rfl (hx9.sub _ _ _ _ trivial gj) (by have := AHeap.lt_of_get gj; omega) (by omega) rfl rfl rfl (by rw [rngL, flatL_len]; omega) (fun _ _ => trivial) fun g10 hs10 => ?_
      have n10 := hs10.next
      have f10 := hs10.floor
      have h10 := hs10.get
      rw [rngL, flatR_splice hj] at h10
      have e10 : (flatL 2 (hoursN S v) fun k' q => Value.int .i64 (if q = 0 then (fun i_1 => if i_1 = j then loB S v L (i + 1) j else (fun q => if q < j then loB S v L (i + 1) q else loB S v L i q) i_1) k' else (fun i_1 => if i_1 = j then hiB S v L (i + 1) j else (fun q => if q < j then hiB S v L (i + 1) q else hiB S v L i q) i_1) k')) = rngL (hoursN S v) (fun q => if q < j + 1 then loB S v L (i + 1) q else loB S v L i q) (fun q => if q < j + 1 then hiB S v L (i + 1) q else hiB S v L i q) := rngL_congr fun k hk => by
        by_cases c : k = j
        · subst c
          simp
        · by_cases c' : k < j
          · have : k < j + 1 := by omega
            simp [c, c', this]
          · have : ¬ k < j + 1 := by omega
            simp [c, c', this]
      rw [e10] at h10
      simp only [rn0, rn1, rn2, reduceIte, Nat.reduceEqDiff, Nat.reduceAdd, Nat.reduceMul, Nat.reduceSub, Nat.reduceLeDiff, Nat.reduceLT, p2, p3, p4, p7, p36, p37, p38, p46, p47, p48, hwj]
      exact ⟨(kj.trans hx9.keep).trans hs10.keep, h10, by omega⟩
    · rintro f g'' ms ⟨⟨kj, gj, gjn⟩, rfl, p2, p3, p4, p7, p36, p37, p38, p46, p47, p48⟩
      have jup := kj.up
      have jfl := kj.floor
      simp only [rn0, rn1, rn2, reduceIte, Nat.reduceEqDiff, Nat.reduceAdd, Nat.reduceMul, Nat.reduceSub, Nat.reduceLeDiff, Nat.reduceLT, p2, p3, p4, p7, p36, p37, p38, p46, p47, p48, Int.lt_irrefl, hwi]
      have e1 : rngL (hoursN S v) (fun q => if q < hoursN S v then loB S v L (i + 1) q else loB S v L i q) (fun q => if q < hoursN S v then hiB S v L (i + 1) q else hiB S v L i q) = rngL (hoursN S v) (loB S v L (i + 1)) (hiB S v L (i + 1)) := rngL_congr fun k hk => ⟨if_pos hk, if_pos hk⟩
      rw [e1] at gj
      have k78 : Keep bw g' g8 := ⟨fun q cs w gr hq hg => by have := AHeap.lt_of_get hg; rw [o8 _ (by omega), hx7.old _ this]; exact hg, by omega, by omega⟩
      exact ⟨(kin.trans k78).trans kj, gj, by omega⟩
  · rintro f g' ms ⟨⟨kin, gi, gin⟩, rfl, p2, p3, p4, p7, p36, p37, p38⟩
    have kup := kin.up
    have kfl := kin.floor
    simp only [rn0, rn1, rn2, reduceIte, Nat.reduceEqDiff, Nat.reduceAdd, Nat.reduceMul, Nat.reduceSub, Nat.reduceLeDiff, Nat.reduceLT, p2, p3, p4, p7, p36, p37, p38, Int.lt_irrefl]
    exact ⟨rngL_cells gi, rfl, fun q cs w gr t hg => by
      have hlt := AHeap.lt_of_get hg
      exact kin.sub _ _ _ _ (by omega) (s6 _ _ _ _ trivial (sub2g _ _ _ _ trivial (sub2 _ _ _ _ trivial hg))), by omega, by omega, by omega⟩

structure TruIn (h : AHeap) (v r1 r2 : Value) (S : MS) (u : Nat → Int) : Prop where
  tru : TruR h r1 r2 S u
  b1 : ∀ x m c, r1 = .slice (some x) m c → x.block < h.next ∧ NeB v x.block
  b2 : ∀ x m c, r2 = .slice (some x) m c → x.block < h.next ∧ NeB v x.block
def trsC (S : MS) (l : List (Nat → Int)) (R1 R2 : Nat → Value) (k j : Nat) : Value := if j = 0 then R1 k else if j = 1 then .int .i64 ((l.getD k fun _ => 0) S.nw) else R2 k
structure TrsG (B : Nat) (h : AHeap) (v : Value) (S : MS) (l : List (Nat → Int)) (R1 R2 : Nat → Value) : Prop where
  g : GrowC B h v 3 l.length (trsC S l R1 R2)
  t : ∀ k, k < l.length → TruIn h v (R1 k) (R2 k) S (l.getD k fun _ => 0)
theorem TrsG.nil {B : Nat} {S : MS} : TrsG B h nilS S [] (fun _ => nilS) (fun _ => nilS) := ⟨.nil, fun k hk => absurd hk (Nat.not_lt_zero _)⟩
theorem TruIn.old {g : AHeap} {v r1 r2 : Value} {S : MS} {u : Nat → Int} (ht : TruIn h v r1 r2 S u) (ho : ∀ i, i < h.next → NeB v i → g.get i = h.get i) (hn : h.next ≤ g.next) : TruIn g v r1 r2 S u :=
  ⟨⟨cells_at ht.tru.w fun a k c e hlt => ho _ hlt (ht.b1 a k c e).2, cells_at ht.tru.f fun a k c e hlt => ho _ hlt (ht.b2 a k c e).2⟩, fun x m c e => ⟨by have := (ht.b1 x m c e).1; omega, (ht.b1 x m c e).2⟩, fun x m c e => ⟨by have := (ht.b2 x m c e).1; omega, (ht.b2 x m c e).2⟩⟩
theorem TrsG.old {B : Nat} {g : AHeap} {v : Value} {S : MS} {l : List (Nat → Int)} {R1 R2 : Nat → Value} (ht : TrsG B h v S l R1 R2) (ho : ∀ i, i < h.next → g.get i = h.get i) (hn : h.next ≤ g.next) : TrsG B g v S l R1 R2 :=
  ⟨GrowC.at' ht.g fun a k c e => ho _ (ht.g.block e).2, fun k hk => (ht.t k hk).old (fun i hi _ => ho i hi) hn⟩
theorem TrsG.push {B : Nat} {g1 : AHeap} {v r1 r2 : Value} {S : MS} {l : List (Nat → Int)} {R1 R2 : Nat → Value} {u : Nat → Int} (ht : TrsG B h v S l R1 R2) (hB : h.floor ≤ B) (hf : h.next + 2 < far) (hBn : B ≤ h.next) (hx : New h g1 (trL r1 r2 (u S.nw)) 0) (hu : TruIn h v r1 r2 S u) (o1 : oneCell r1 = true) (o2 : oneCell r2 = true) (hl : l.length ≤ 5000) :
    ∃ v' g2, appendA 3 56 g1 v (.slice (some ⟨h.next, 0, none⟩) 1 1) = some (v', g2) ∧ TrsG B g2 v' S (l ++ [u]) (fun k => if k = l.length then r1 else R1 k) (fun k => if k = l.length then r2 else R2 k) ∧ oneCell v' = true ∧ g2.next = h.next + 2 ∧ g2.floor = h.floor ∧ (∀ i, i < h.next → NeB v i → g2.get i = h.get i) := by
  have hlen : (l ++ [u]).length = l.length + 1 := by simp
  have hg : GrowC B h v 3 l.length (trsC S (l ++ [u]) (fun k => if k = l.length then r1 else R1 k) (fun k => if k = l.length then r2 else R2 k)) := growC_congr ht.g fun k j hk hj => by
    have : ¬ k = l.length := by omega
    simp only [trsC, this, if_false]
    rw [List.getD_eq_getElem?_getD, List.getD_eq_getElem?_getD, List.getElem?_append_left hk]
  obtain ⟨g2, e, gv, n2, f2, o2', u2⟩ := grow_push3 (bytes := 56) hg hB hf hBn hx rfl (by simp [trL, allB, o1, o2, one_int]) (fun j hj => by
    have hlast : ((l ++ [u]).getD l.length fun _ => 0) = u := by rw [List.getD_eq_getElem?_getD, List.getElem?_append_right (Nat.le_refl _)]; simp
    simp only [trsC, if_true, hlast]
    rcases j with _ | _ | _ | j
    · rfl
    · rfl
    · rfl
    · omega) (by simp [maxBytes]; omega) (by simp [maxBytes]; omega)
  refine ⟨_, g2, e, ⟨by rw [hlen]; exact gv, fun k hk => ?_⟩, rfl, n2, f2, o2'⟩
  have fresh : ∀ i, i < h.next → NeB (.slice (some ⟨h.next + 1, 0, none⟩) (l.length + 1) unk) i := fun i hi b m c e => by cases e; show i ≠ h.next + 1; omega
  have re : ∀ {a b : Value} {w : Nat → Int}, TruIn h v a b S w → TruIn g2 (.slice (some ⟨h.next + 1, 0, none⟩) (l.length + 1) unk) a b S w := fun {a b w} hi => by
    have h1 := hi.old (g := g2) o2' (by omega)
    exact ⟨h1.tru, fun x m c e => ⟨(h1.b1 x m c e).1, fresh _ (hi.b1 x m c e).1⟩, fun x m c e => ⟨(h1.b2 x m c e).1, fresh _ (hi.b2 x m c e).1⟩⟩
  by_cases c : k = l.length
  · subst c
    have hlast : ((l ++ [u]).getD l.length fun _ => 0) = u := by rw [List.getD_eq_getElem?_getD, List.getElem?_append_right (Nat.le_refl _)]; simp
    simp only [if_true, hlast]
    exact re hu
  · have hk' : k < l.length := by omega
    simp only [c, if_false]
    rw [List.getD_eq_getElem?_getD, List.getElem?_append_left hk', ← List.getD_eq_getElem?_getD]
    exact re (ht.t k hk')
open Classical in
noncomputable def refTo (S : MS) (k : Nat) : List (Nat → Int) := ((List.range k).map (nthU S)).filter fun u => decide (∀ k, k < S.ns → RightS S u k)
noncomputable def refTruths (S : MS) : List (Nat → Int) := refTo S (manyS S).toNat

theorem unpos_pos {S : MS} {i : Nat} : unpos S (posU S i) = i := by
  unfold unpos posU
  by_cases c1 : i < S.nw
  · rw [if_pos c1, if_neg (by omega), if_pos (by omega)]; omega
  · rw [if_neg c1]
    by_cases c2 : i = S.nw
    · rw [if_pos c2, if_pos rfl, c2]
    · rw [if_neg c2, if_neg (by omega), if_neg (by omega)]
theorem sizeR {S : MS} : sizeN (rLo S) (rHi S) (numU S) = sizeN (uLo S) (uHi S) (numU S) := by
  rw [sizeU]
  have e : numU S = (1 + S.nw) + S.nv := by unfold numU; omega
  rw [e, sizeN_split, sizeN_split]
  have e1 : sizeN (rLo S) (rHi S) 1 = S.sphi - S.splo + 1 := by simp [sizeN, rLo, rHi]
  have e2 : sizeN (fun k => rLo S (1 + k)) (fun k => rHi S (1 + k)) S.nw = sizeN S.wlo S.whi S.nw := sizeN_congr _ fun k hk => by
    simp only [rLo, rHi]
    rw [if_neg (by omega), if_pos (by omega), if_neg (by omega), if_pos (by omega), show 1 + k - 1 = k by omega]
    exact ⟨rfl, rfl⟩
  have e3 : sizeN (fun k => rLo S (1 + S.nw + k)) (fun k => rHi S (1 + S.nw + k)) S.nv = sizeN S.vlo S.vhi S.nv := by
    by_cases c : S.nv = 0
    · rw [c]; rfl
    refine sizeN_congr _ fun k hk => ?_
    simp only [rLo, rHi]
    rw [if_neg (by omega), if_neg (by omega), if_neg (by omega), if_neg (by omega), show 1 + S.nw + k - S.nw - 1 = k by omega]
    exact ⟨rfl, rfl⟩
  rw [e1, e2, e3, ← Int.mul_assoc, Int.mul_comm (sizeN S.wlo S.whi S.nw)]
theorem refTruths_mem {S : MS} (hG : Good S) {x : Nat → Int} : x ∈ refTruths S ↔ x ∈ truthsS S := by
  have hr : ∀ j, j < numU S → rLo S j ≤ rHi S j := fun j hj => (hG.r hj).2.1
  have h1 := many_size hG.args
  have h2 := hG.few
  have hprod := sizeN_prod (lo := rLo S) (hi := rHi S) (numU S) 0
  simp only [Nat.zero_add, sizeN, Int.one_mul] at hprod
  have hpN := prodN_from (lo := rLo S) (hi := rHi S) (numU S) 0 fun j _ hj => hr j (by omega)
  have hsR := sizeR (S := S)
  obtain ⟨mp1, _⟩ := many_pos hG
  have hM : (manyS S).toNat = prodN (sz (rLo S) (rHi S)) (numU S) 0 := by omega
  rw [truths_mem]
  unfold refTruths refTo
  rw [List.mem_filter, List.mem_map]
  simp only [List.mem_range, decide_eq_true_eq]
  constructor
  · rintro ⟨⟨m, _, rfl⟩, h2⟩
    exact ⟨⟨nthU_in hG, fun j hj => by rw [nthU, if_neg (by omega)]⟩, h2⟩
  · rintro ⟨⟨h1, h2⟩, h3⟩
    have hin : ∀ j, j < numU S → rLo S j ≤ x (unpos S j) ∧ x (unpos S j) ≤ rHi S j := fun j hj => by
      have := h1 (unpos S j) (unpos_lt hj)
      have e := r_pos (S := S) (i := unpos S j)
      rw [pos_unpos] at e
      rw [e.1, e.2]
      exact this
    have hd : ∀ j, j < numU S → (x (unpos S j) - rLo S j).toNat < sz (rLo S) (rHi S) j := fun j hj => by
      have := hin j hj
      show (x (unpos S j) - rLo S j).toNat < (rHi S j - rLo S j + 1).toNat
      omega
    refine ⟨⟨encF (sz (rLo S) (rHi S)) (fun j => (x (unpos S j) - rLo S j).toNat) (numU S) 0, ?_, ?_⟩, h3⟩
    · rw [hM]
      exact encF_lt (numU S) 0 fun j _ hj => hd j (by omega)
    · funext i
      by_cases hi : i < numU S
      · have hp := pos_lt hi
        have hq := hin _ hp
        rw [nthU, if_pos hi]
        unfold digU
        rw [show rSz S = sz (rLo S) (rHi S) from rfl, encF_mod hd hp]
        rw [unpos_pos] at hq ⊢
        omega
      · rw [nthU, if_neg hi, h2 i (by omega)]

def OutR (h : AHeap) (S : MS) (at_ : Int) (v : Value) (h' : AHeap) : Prop := Sub All h h' ∧ h.next ≤ h'.next ∧ h'.next ≤ h.next + 700000 ∧ h'.floor = h.floor ∧
  ((faultS S ≠ 0 ∧ v = .tuple ⟨[nilS, .int .i64 (faultS S)]⟩) ∨ (faultS S = 0 ∧ ¬ InV S at_ ∧ v = .tuple ⟨[nilS, .int .i64 2]⟩) ∨ (faultS S = 0 ∧ InV S at_ ∧ truthsS S = [] ∧ v = .tuple ⟨[nilS, .int .i64 11]⟩) ∨
    (faultS S = 0 ∧ InV S at_ ∧ truthsS S ≠ [] ∧ ∃ r, v = .tuple ⟨[r, .int .i64 0]⟩ ∧ Ranges h' r (hoursN S at_.toNat) (loB S at_.toNat (truthsS S) ((truthsS S).length - 1)) (hiB S at_.toNat (truthsS S) ((truthsS S).length - 1))))
def s35 : SCode := (.seq (.ops [⟨(some 2), none, .box (T 0)⟩, ⟨(some 4), none, .mov (.const (.slice none 0 0))⟩, ⟨(some 5), none, .mov (.const (.int .i64 (0)))⟩]) (.seq (.ops [⟨(some 9), none, .loadN 7 (T 2)⟩, ⟨(some 10), none, .mov (T 1)⟩, ⟨(some 11), none, .call (.func 88) [(T 9), (T 10), (.const (.slice none 0 0))]⟩, ⟨(some 8), none, .mov (T 11)⟩, ⟨(some 12), none, .extract 0 (T 8)⟩, ⟨(some 13), none, .extract 1 (T 8)⟩, ⟨(some 6), none, .alloc [(.int .i64 (0)), (.int .i64 (0)), (.slice none 0 0), (.int .i64 (0)), (.int .i64 (0)), (.slice none 0 0), (.slice none 0 0), (.slice none 0 0)]⟩, ⟨none, none, .store 8 (T 6) (T 12)⟩, ⟨(some 7), none, .mov (T 13)⟩]) (.seq (.seq (.ops [⟨(some 14), none, .mov (T 7)⟩, ⟨(some 15), none, .int2 .neq (T 14) (.const (.int .i64 (0)))⟩]) (.cond (T 15) (.seq (.ops [⟨(some 16), none, .mov (T 7)⟩, ⟨(some 4), none, .mov (.const (.slice none 0 0))⟩, ⟨(some 5), none, .mov (T 16)⟩]) .ret) .skip)) (.seq (.ops [⟨(some 17), none, .build #[(0, 1)] [.nilFunc] [0] [(.func 76)]⟩, ⟨(some 18), none, .loadN 8 (T 6)⟩, ⟨(some 19), none, .mov (T 1)⟩, ⟨(some 20), none, .call (.func 89) [(T 17), (T 18), (T 19)]⟩, ⟨(some 4), none, .mov (T 20)⟩, ⟨(some 5), none, .mov (.const (.int .i64 (0)))⟩]) .ret))))
theorem fok35 : FnOk Try.prog 35 21 s35 [.tmp 4, .tmp 5] := ⟨Try.f35, _, Try.func35, rfl, Try.ntmps35, by kernel_rfl, by kernel_rfl⟩
set_option maxHeartbeats 1000000 in
theorem out_c (hn : 2400 ≤ n) (hr : h.next + 1000000 < far) (hfl : h.floor ≤ h.next) {wv vv sv : Value} {S : MS} (hy : SteepR h wv vv sv S) (hT : ThinS S) (at_ : Int) :
    ∃ v h', call n (.func (.func 35) #[] #[]) [.agg ⟨stL S wv vv sv⟩, .int .i64 at_] h = some (v, h') ∧ OutR h S at_ v h' := by
  obtain ⟨n, rfl⟩ : ∃ p, n = p + 1 := ⟨n - 1, by omega⟩
  refine call_any0 fok35 rfl rfl (by simp) ?_
  simp only [s35, W_seq, W_ops]
  refine ops_box (cs := stL S wv vv sv) (by omega) rfl hy.one fun g1 hx1 => ?_
  have n1 := hx1.next
  have f1 := hx1.floor
  have w1 := hx1.row.whole (n := 7) rfl
  obtain ⟨pv, g2, eo, o2, u2, m2, f2, hp⟩ := openVat_c (n := n) (h := g1) (by omega) (by omega) (by omega) (hy.mono hx1.sub) hT at_
  have sub2 : Sub All h g2 := hx1.sub.trans (AHeap.subOf o2)
  rcases hp with ⟨hf, rfl⟩ | ⟨hf, hv, rfl⟩ | ⟨hf, hv, hz, rfl⟩ | ⟨hf, hv, hz, tv, rfl, hone, htr, hlong⟩
  · simp only [rn0, rn1, rn2, reduceIte, Nat.reduceEqDiff, Nat.reduceAdd, Nat.reduceMul, Nat.reduceSub, Nat.reduceLeDiff, Nat.reduceLT, w1, eo, ex0, ex1]
    refine step_new (vs := wk0) (by omega) (by omega) rfl (by simp only [rn0, rn1, rn2, reduceIte, Nat.reduceEqDiff, Nat.reduceAdd, Nat.reduceMul, Nat.reduceSub, Nat.reduceLeDiff, Nat.reduceLT]; rfl) rfl rfl rfl fun g3 hx3 => ?_
    have n3 := hx3.next
    have f3 := hx3.floor
    simp only [rn0, rn1, rn2, reduceIte, Nat.reduceEqDiff, Nat.reduceAdd, Nat.reduceMul, Nat.reduceSub, Nat.reduceLeDiff, Nat.reduceLT, hf, ret_tt]
    exact ⟨sub2.trans hx3.sub, by omega, by omega, by omega, .inl ⟨hf, rfl⟩⟩
  · simp only [rn0, rn1, rn2, reduceIte, Nat.reduceEqDiff, Nat.reduceAdd, Nat.reduceMul, Nat.reduceSub, Nat.reduceLeDiff, Nat.reduceLT, w1, eo, ex0, ex1]
    refine step_new (vs := wk0) (by omega) (by omega) rfl (by simp only [rn0, rn1, rn2, reduceIte, Nat.reduceEqDiff, Nat.reduceAdd, Nat.reduceMul, Nat.reduceSub, Nat.reduceLeDiff, Nat.reduceLT]; rfl) rfl rfl rfl fun g3 hx3 => ?_
    have n3 := hx3.next
    have f3 := hx3.floor
    have z20 : ¬ (2 : Int) = 0 := by decide
    simp only [rn0, rn1, rn2, reduceIte, Nat.reduceEqDiff, Nat.reduceAdd, Nat.reduceMul, Nat.reduceSub, Nat.reduceLeDiff, Nat.reduceLT, z20, ret_tt]
    exact ⟨sub2.trans hx3.sub, by omega, by omega, by omega, .inr (.inl ⟨hf, hv, rfl⟩)⟩
  · simp only [rn0, rn1, rn2, reduceIte, Nat.reduceEqDiff, Nat.reduceAdd, Nat.reduceMul, Nat.reduceSub, Nat.reduceLeDiff, Nat.reduceLT, w1, eo, ex0, ex1]
    refine step_new (vs := wk0) (by omega) (by omega) rfl (by simp only [rn0, rn1, rn2, reduceIte, Nat.reduceEqDiff, Nat.reduceAdd, Nat.reduceMul, Nat.reduceSub, Nat.reduceLeDiff, Nat.reduceLT]; rfl) rfl rfl rfl fun g3 hx3 => ?_
    have n3 := hx3.next
    have f3 := hx3.floor
    have z110 : ¬ (11 : Int) = 0 := by decide
    simp only [rn0, rn1, rn2, reduceIte, Nat.reduceEqDiff, Nat.reduceAdd, Nat.reduceMul, Nat.reduceSub, Nat.reduceLeDiff, Nat.reduceLT, z110, ret_tt]
    exact ⟨sub2.trans hx3.sub, by omega, by omega, by omega, .inr (.inr (.inl ⟨hf, hv, hz, rfl⟩))⟩
  · have hG := good_of hf
    have how := wk_one hy (tv := tv) hone
    simp only [rn0, rn1, rn2, reduceIte, Nat.reduceEqDiff, Nat.reduceAdd, Nat.reduceMul, Nat.reduceSub, Nat.reduceLeDiff, Nat.reduceLT, w1, eo, ex0, ex1]
    refine step_new (vs := wkL S wv vv sv tv) (by omega) (by omega) rfl (by simp only [rn0, rn1, rn2, reduceIte, Nat.reduceEqDiff, Nat.reduceAdd, Nat.reduceMul, Nat.reduceSub, Nat.reduceLeDiff, Nat.reduceLT]; rfl) how rfl rfl fun g3 hx3 => ?_
    have n3 := hx3.next
    have f3 := hx3.floor
    have sub3 := sub2.trans hx3.sub
    obtain ⟨va, hva⟩ : ∃ va : Nat, at_ = (va : Int) := ⟨at_.toNat, by unfold InV at hv; omega⟩
    subst hva
    have hvn : va < S.nv := by unfold InV at hv; omega
    obtain ⟨r, g4, eb, hr4, hone4, sub4, u4, m4, f4⟩ := bounds_c (n := n) (h := g3) (by omega) (by omega) (by omega) (hy.mono sub3) (tv := tv) hone hG hz (truths_len hG) (fun t ht => (truths_mem.1 ht).1.1) (Cells.mono htr hx3.sub) hlong hvn
    simp only [rn0, rn1, rn2, reduceIte, Nat.reduceEqDiff, Nat.reduceAdd, Nat.reduceMul, Nat.reduceSub, Nat.reduceLeDiff, Nat.reduceLT, build_meas, hx3.row.whole (n := 8) rfl, eb, ret_tt]
    exact ⟨sub3.trans sub4, by omega, by omega, by omega, .inr (.inr (.inr ⟨hf, hv, hz, r, rfl, hr4⟩))⟩

noncomputable def verdS (S : MS) (v : Nat) (hh kk : Int) (L : List (Nat → Int)) : Int := open Classical in if ∀ t, t ∈ L → kindS S t v hh ≠ kk then 2 else if ∀ t, t ∈ L → kindS S t v hh = kk then 1 else 3
theorem sumK_at {S : MS} {v : Nat} {L : List (Nat → Int)} {hh kk : Int} (hG : Good S) (ho : HourOk S v hh) : ∀ k, (sumK S v L ((v : Int), hh, kk) k = 0 ↔ ∀ i, i < k → kindS S (L.getD i fun _ => 0) v hh ≠ kk) ∧ (sumK S v L ((v : Int), hh, kk) k = k ↔ ∀ i, i < k → kindS S (L.getD i fun _ => 0) v hh = kk)
  | 0 => by simp [sumK]
  | k + 1 => by
    obtain ⟨h1, h2⟩ := sumK_at hG ho (L := L) (kk := kk) k
    obtain ⟨b1, b2⟩ := sumK_bound (S := S) (v := v) (L := L) (p := ((v : Int), hh, kk)) k
    obtain ⟨m1, _⟩ := hoursN_ok hG ho.isV
    have hlo := ho.isLo
    have hhi := ho.isHi
    have e : oneK S v (L.getD k fun _ => 0) (hoursN S v) ((v : Int), hh, kk) = if kk = kindS S (L.getD k fun _ => 0) v hh then 1 else 0 := by
      unfold oneK
      by_cases c : kk = kindS S (L.getD k fun _ => 0) v hh
      · rw [if_pos ⟨rfl, hlo, by show hh < _; omega, c⟩, if_pos c]
      · rw [if_neg fun q => c q.2.2.2, if_neg c]
    simp only [sumK]
    rw [e]
    by_cases c : kk = kindS S (L.getD k fun _ => 0) v hh
    · rw [if_pos c]
      constructor
      · constructor
        · intro q; omega
        · intro q; exact absurd c.symm (q k (by omega))
      · constructor
        · intro q i hi
          have q' : sumK S v L ((v : Int), hh, kk) k = k := by omega
          by_cases e : i = k
          · rw [e]; exact c.symm
          · exact h2.1 q' i (by omega)
        · intro q
          have := h2.2 fun i hi => q i (by omega)
          omega
    · rw [if_neg c]
      constructor
      · constructor
        · intro q i hi
          have q' : sumK S v L ((v : Int), hh, kk) k = 0 := by omega
          by_cases e : i = k
          · rw [e]; exact fun q => c q.symm
          · exact h1.1 q' i (by omega)
        · intro q
          have := h1.2 fun i hi => q i (by omega)
          omega
      · constructor
        · intro q; omega
        · intro q; exact absurd (q k (by omega)).symm c
theorem all_at {L : List (Nat → Int)} {p : (Nat → Int) → Prop} : (∀ i, i < L.length → p (L.getD i fun _ => 0)) ↔ ∀ t, t ∈ L → p t := by
  constructor
  · intro hp t ht
    obtain ⟨i, hi, e⟩ := mem_getD ht
    rw [← e]
    exact hp i hi
  · intro hp i hi
    exact hp _ (getD_mem hi)
theorem cntK_all {S : MS} {v : Nat} {L : List (Nat → Int)} {p : Int × Int × Int} : cntK S v L L.length 0 p = sumK S v L p L.length := by
  simp only [cntK, oneK]
  rw [if_neg (by omega)]
  omega
open Classical in
theorem verd_cnt {S : MS} {v : Nat} {L : List (Nat → Int)} {hh kk : Int} (hG : Good S) (ho : HourOk S v hh) : (if cntK S v L L.length 0 ((v : Int), hh, kk) = 0 then (2 : Int) else if cntK S v L L.length 0 ((v : Int), hh, kk) = L.length then 1 else 3) = verdS S v hh kk L := by
  obtain ⟨h1, h2⟩ := sumK_at hG ho (L := L) (kk := kk) L.length
  rw [cntK_all]
  unfold verdS
  rw [all_at (p := fun t => kindS S t v hh ≠ kk)] at h1
  rw [all_at (p := fun t => kindS S t v hh = kk)] at h2
  simp only [h1, h2]
def s90 : SCode := (.seq (.ops [⟨(some 4), none, .box (T 0)⟩, ⟨(some 8), none, .mov (.const (.int .i64 (0)))⟩]) (.seq (.seq (.ops [⟨(some 9), none, .mov (T 1)⟩, ⟨(some 10), none, .mov (T 2)⟩, ⟨(some 11), none, .mov (T 3)⟩, ⟨(some 12), none, .build #[(0, 1), (1, 1), (2, 1)] [(.int .i64 (0)), (.int .i64 (0)), (.int .i64 (0))] [0, 1, 2] [(T 10), (T 11), (.const (.int .i64 (1)))]⟩, ⟨(some 13), none, .lookup 89 (.int .i64 (0)) false (T 9) (T 12)⟩]) (.block 0 (.seq (.ops [⟨(some 15), none, .int2 .eql (T 13) (.const (.int .i64 (0)))⟩, ⟨(some 14), none, .mov (T 15)⟩]) (.cond (T 14) (.seq (.ops [⟨(some 8), none, .mov (.const (.int .i64 (2)))⟩]) .ret) (.seq (.ops [⟨(some 17), none, .fieldAddr 7 (T 4)⟩, ⟨(some 18), none, .load1 (T 17)⟩, ⟨(some 19), none, .len (T 18)⟩, ⟨(some 20), none, .int2 .eql (T 13) (T 19)⟩, ⟨(some 16), none, .mov (T 20)⟩]) (.cond (T 16) (.seq (.ops [⟨(some 8), none, .mov (.const (.int .i64 (1)))⟩]) .ret) .skip)))))) (.seq (.ops [⟨(some 8), none, .mov (.const (.int .i64 (3)))⟩]) .ret)))
theorem fok90 : FnOk Try.prog 90 21 s90 [.tmp 8] := ⟨Try.f90, _, Try.func90, rfl, Try.ntmps90, by kernel_rfl, by kernel_rfl⟩
theorem verdict_c (hn : 5 ≤ n) (hr : h.next + 5 < far) {wv vv sv tv : Value} {S : MS} (hy : SteepR h wv vv sv S) (ho1 : oneCell tv = true) (hG : Good S) {L : List (Nat → Int)} (htr : TruthsR h S tv L) {r v : Nat} {hh : Int} (hm : MapF h r key3 (cntK S v L L.length 0)) (ho : HourOk S v hh) :
    call n (.func (.func 90) #[] #[]) [.agg ⟨wkL S wv vv sv tv⟩, .map (some r), .int .i64 (v : Int), .int .i64 hh] h = some (.int .i64 (verdS S v hh 1 L), h) := by
  obtain ⟨n, rfl⟩ : ∃ p, n = p + 1 := ⟨n - 1, by omega⟩
  refine call_plain0 fok90 rfl rfl (by simp) rfl ?_
  have hy := hy.shut
  have htr : TruthsR h.shutAll S tv L := Cells.shut htr
  have hm := hm.shut
  have hr : h.shutAll.next + 5 < far := hr
  generalize h.shutAll = h at hy htr hm hr
  simp only [s90, W_seq, W_ops]
  refine ops_box (cs := wkL S wv vv sv tv) (by omega) rfl (wk_one hy ho1) fun g1 hx1 => ?_
  have n1 := hx1.next
  have htr1 : TruthsR g1 S tv L := Cells.mono htr hx1.sub
  have hm1 : MapF g1 r key3 (cntK S v L L.length 0) := hm.keep (hx1.old _ hm.lt)
  have el := lookupF key89 hm1 ((v : Int), hh, 1)
  have el : lookupA Try.prog 89 (.int .i64 0) false g1 (.map (some r)) (.agg ⟨[.int .i64 (v : Int), .int .i64 hh, .int .i64 1]⟩) = some (.int .i64 (cntK S v L L.length 0 ((v : Int), hh, 1)), g1) := el
  have hv := verd_cnt (L := L) (kk := 1) hG ho
  by_cases c1 : cntK S v L L.length 0 ((v : Int), hh, 1) = 0
  · rw [if_pos c1] at hv
    simp only [rn0, rn1, rn2, reduceIte, Nat.reduceEqDiff, Nat.reduceAdd, Nat.reduceMul, Nat.reduceSub, Nat.reduceLeDiff, Nat.reduceLT, build_sm, x_lookup, el, c1, ← hv]
  · rw [if_neg c1] at hv
    by_cases c2 : cntK S v L L.length 0 ((v : Int), hh, 1) = L.length
    · rw [if_pos c2] at hv
      have c1' : ¬ (L.length : Int) = 0 := by rw [← c2]; exact c1
      simp only [rn0, rn1, rn2, reduceIte, Nat.reduceEqDiff, Nat.reduceAdd, Nat.reduceMul, Nat.reduceSub, Nat.reduceLeDiff, Nat.reduceLT, build_sm, x_lookup, el, c2, c1', hx1.row.ld, wkg, Nat.zero_add, Cells.len htr1, ← hv]
    · rw [if_neg c2] at hv
      simp only [rn0, rn1, rn2, reduceIte, Nat.reduceEqDiff, Nat.reduceAdd, Nat.reduceMul, Nat.reduceSub, Nat.reduceLeDiff, Nat.reduceLT, build_sm, x_lookup, el, c1, hx1.row.ld, wkg, Nat.zero_add, Cells.len htr1, c2, ← hv]

def s121 : SCode := (.seq (.ops [⟨(some 4), none, .mov (.const (.bool false))⟩]) (.seq (.ops [⟨(some 5), none, .loadN 8 (T 1)⟩, ⟨(some 6), none, .load1 (T 2)⟩, ⟨(some 7), none, .mov (T 0)⟩, ⟨(some 8), none, .call (.func 122) [(T 5), (T 6), (T 7)]⟩, ⟨(some 4), none, .mov (T 8)⟩]) .ret))
theorem fok121 : FnOk Try.prog 121 9 s121 [.tmp 4] := ⟨Try.f121, _, Try.func121, rfl, Try.ntmps121, by kernel_rfl, by kernel_rfl⟩
theorem hour1_c (hn : 3 ≤ n) (hr : h.next + 2 < far) {wv vv sv tv : Value} {S : MS} (hy : SteepR h wv vv sv S) (ht : oneCell tv = true) {va : Nat} (hv : va < S.nv) {p q : Nat} (hp : Row h p (wkL S wv vv sv tv)) (hq : Row h q [.int .i64 (va : Int)]) (hh : Int) :
    call n (.func (.func 121) ⟨[]⟩ ⟨[.pointer (some ⟨p, 0, none⟩), .pointer (some ⟨q, 0, none⟩)]⟩) [.int .i64 hh] h = some (.bool (decide (S.vb va ≤ hh ∧ hh ≤ S.last)), h) := by
  obtain ⟨n, rfl⟩ : ∃ p, n = p + 1 := ⟨n - 1, by omega⟩
  refine call_plain (xs := []) (ys := [.pointer (some ⟨p, 0, none⟩), .pointer (some ⟨q, 0, none⟩)]) fok121 rfl rfl (by simp) rfl ?_
  have hy := hy.shut
  have hp := hp.mono (g := h.shutAll) fun _ _ _ _ _ h => h
  have hq := hq.mono (g := h.shutAll) fun _ _ _ _ _ h => h
  have hr : h.shutAll.next + 2 < far := hr
  generalize h.shutAll = h at hy hr hp hq
  have hi := hasHour_c (n := n) (h := h) (by omega) (by omega) hy ht hv hh
  simp only [rn0, rn1, rn2, reduceIte, Nat.reduceEqDiff, Nat.reduceAdd, Nat.reduceMul, Nat.reduceSub, Nat.reduceLeDiff, Nat.reduceLT, s121, List.cons_append, List.nil_append, hp.whole (n := 8) rfl, hq.ld, Nat.zero_add, List.getElem?_cons_zero, hi]
theorem everyInt_one (hn : 5 ≤ n) (hr : h.next + 5 < far) {ok : Value} {r : Bool} {b : Nat} {x : Int} (hg : h.get b = some (.row [.int .i64 x] true 0)) (hok : ∀ g, Sub All h g → g.next ≤ h.next + 5 → call (n - 1) ok [.int .i64 x] g = some (.bool r, g)) :
    call n (.func (.func 120) #[] #[]) [.slice (some ⟨b, 0, none⟩) 1 1, ok] h = some (.bool r, h) := by
  obtain ⟨n, rfl⟩ : ∃ p, n = p + 1 := ⟨n - 1, by omega⟩
  rw [Nat.add_sub_cancel] at hok
  refine call_plain0 fok120 rfl rfl (by simp) rfl ?_
  have e0 := hok h.shutAll (fun _ _ _ _ _ h => h) (Nat.le_add_right _ _)
  have hrow : Row h.shutAll b [.int .i64 x] := (show Row h b [.int .i64 x] from ⟨_, _, hg⟩).mono fun _ _ _ _ _ h => h
  have hr : h.shutAll.next + 5 < far := hr
  generalize h.shutAll = h at hr e0 hrow
  have hc : Cells h (.slice (some ⟨b, 0, none⟩) 1 1) 1 1 (fun _ _ => .int .i64 x) := cells_row hrow fun k j hk hj => by
    obtain rfl : k = 0 := by omega
    obtain rfl : j = 0 := by omega
    rfl
  simp only [rn0, rn1, rn2, reduceIte, Nat.reduceEqDiff, Nat.reduceAdd, Nat.reduceMul, Nat.reduceSub, Nat.reduceLeDiff, Nat.reduceLT, s120, len_slice]
  refine W_loop 1 (fun k f g m => g = h ∧ m = [] ∧ f 1 = ok ∧ f 7 = .slice (some ⟨b, 0, none⟩) 1 1 ∧ f 8 = .int .i64 ((1 : Nat) : Int) ∧ f 9 = .int .i64 (k : Int) ∧ (k = 1 → r = true)) (by simp; omega) ?_ ?_ ?_
  · simp only [rn0, rn1, rn2, reduceIte, Nat.reduceEqDiff, Nat.reduceAdd, Nat.reduceMul, Nat.reduceSub, Nat.reduceLeDiff, Nat.reduceLT, Int.natCast_zero]
    first | done | exact fun e => absurd e (by omega) | exact ⟨rfl, fun e => absurd e (by omega)⟩ | simp
  · rintro k f g m hk ⟨rfl, rfl, p1, p7, p8, p9, _⟩
    obtain rfl : k = 0 := by omega
    have hlt : ((0 : Nat) : Int) < ((1 : Nat) : Int) := by decide
    have hw : wrapF .i64 (((0 : Nat) : Int) + 1) = ((0 + 1 : Nat) : Int) := by rw [wrap_in (by omega) (by omega)]; rfl
    cases r with
    | true =>
      simp only [rn0, rn1, rn2, reduceIte, Nat.reduceEqDiff, Nat.reduceAdd, Nat.reduceMul, Nat.reduceSub, Nat.reduceLeDiff, Nat.reduceLT, p1, p7, p8, p9, hlt, Cells.idx hc Nat.zero_lt_one, Cells.ld hc Nat.zero_lt_one Nat.zero_lt_one, e0, hw]
      exact fun _ => trivial
    | false => simp only [rn0, rn1, rn2, reduceIte, Nat.reduceEqDiff, Nat.reduceAdd, Nat.reduceMul, Nat.reduceSub, Nat.reduceLeDiff, Nat.reduceLT, p1, p7, p8, p9, hlt, Cells.idx hc Nat.zero_lt_one, Cells.ld hc Nat.zero_lt_one Nat.zero_lt_one, e0, hw]
  · rintro f g m ⟨rfl, rfl, p1, p7, p8, p9, hq⟩
    have := hq rfl
    subst this
    simp only [rn0, rn1, rn2, reduceIte, Nat.reduceEqDiff, Nat.reduceAdd, Nat.reduceMul, Nat.reduceSub, Nat.reduceLeDiff, Nat.reduceLT, p1, p7, p8, p9, Int.lt_irrefl]
def OpenHR (h : AHeap) (S : MS) (wv vv sv : Value) (at_ hh : Int) (v : Value) (h' : AHeap) : Prop := (∀ i, i < h.next → h'.get i = h.get i) ∧ h.next ≤ h'.next ∧ h'.next ≤ h.next + 500100 ∧ h'.floor = h.floor ∧
  ((faultS S ≠ 0 ∧ v = .tuple ⟨[.agg ⟨wk0⟩, .int .i64 (faultS S)]⟩) ∨ (faultS S = 0 ∧ ¬ (InV S at_ ∧ S.vb at_.toNat ≤ hh ∧ hh ≤ S.last) ∧ v = .tuple ⟨[.agg ⟨wk0⟩, .int .i64 2]⟩) ∨ (faultS S = 0 ∧ (InV S at_ ∧ S.vb at_.toNat ≤ hh ∧ hh ≤ S.last) ∧ truthsS S = [] ∧ v = .tuple ⟨[.agg ⟨wk0⟩, .int .i64 11]⟩) ∨
    (faultS S = 0 ∧ (InV S at_ ∧ S.vb at_.toNat ≤ hh ∧ hh ≤ S.last) ∧ truthsS S ≠ [] ∧ ∃ tv, v = .tuple ⟨[.agg ⟨wkL S wv vv sv tv⟩, .int .i64 0]⟩ ∧ oneCell tv = true ∧ TruthsR h' S tv (truthsS S) ∧ Long tv))
set_option maxHeartbeats 1000000 in
theorem openVatH_c (hn : 600 ≤ n) (hr : h.next + 700000 < far) (hfl : h.floor ≤ h.next) {wv vv sv : Value} {S : MS} (hy : SteepR h wv vv sv S) (hT : ThinS S) (at_ : Int) {bl : Nat} {hh : Int} (hbl : h.get bl = some (.row [.int .i64 hh] true 0)) :
    ∃ v h', call n (.func (.func 88) #[] #[]) [.agg ⟨stL S wv vv sv⟩, .int .i64 at_, .slice (some ⟨bl, 0, none⟩) 1 1] h = some (v, h') ∧ OpenHR h S wv vv sv at_ hh v h' := by
  obtain ⟨n, rfl⟩ : ∃ p, n = p + 1 := ⟨n - 1, by omega⟩
  refine call_any0 fok88 rfl rfl (by simp) ?_
  simp only [s88, W_seq, W_ops]
  refine ops_box (cs := stL S wv vv sv) (by omega) rfl hy.one fun g1 hx1 => ?_
  have n1 := hx1.next
  have f1 := hx1.floor
  refine ops_box (cs := [.int .i64 at_]) (by omega) rfl rfl fun g2 hx2 => ?_
  have n2 := hx2.next
  have f2 := hx2.floor
  simp only [rn0, rn1, rn2, reduceIte, Nat.reduceEqDiff, Nat.reduceAdd, Nat.reduceMul, Nat.reduceSub, Nat.reduceLeDiff, Nat.reduceLT]
  refine step_row (cs := wk0) (by omega) rfl rfl fun g3 hx3 => ?_
  have n3 := hx3.next
  have f3 := hx3.floor
  have sub3 : Sub All h g3 := hx1.sub.trans (hx2.sub.trans hx3.sub)
  have w1 := ((hx1.row.mono hx2.sub).mono hx3.sub).whole (n := 7) rfl
  obtain ⟨pv, g4, eo, o4, u4, m4, f4, ho⟩ := open_c (n := n) (h := g3) (by omega) (by omega) (by omega) (hy.mono sub3) hT
  have old4 : ∀ i, i < h.next → g4.get i = h.get i := fun i hi => by rw [o4 i (by omega), hx3.old i (by omega), hx2.old i (by omega), hx1.old i hi]
  have q6 : g4.get g2.next = some (.row wk0 true 0) := by rw [o4 _ (by omega)]; exact hx3.get
  rcases ho with ⟨hf, rfl⟩ | ⟨hf, tv, rfl, hone, htr, htb, hlong⟩
  · simp only [rn0, rn1, rn2, reduceIte, Nat.reduceEqDiff, Nat.reduceAdd, Nat.reduceMul, Nat.reduceSub, Nat.reduceLeDiff, Nat.reduceLT, w1, eo, ex0, ex1]
    refine step_new (vs := wk0) (by omega) (by omega) rfl (by simp only [rn0, rn1, rn2, reduceIte, Nat.reduceEqDiff, Nat.reduceAdd, Nat.reduceMul, Nat.reduceSub, Nat.reduceLeDiff, Nat.reduceLT]; rfl) rfl rfl rfl fun g5 hx5 => ?_
    have n5 := hx5.next
    have f5 := hx5.floor
    simp only [rn0, rn1, rn2, reduceIte, Nat.reduceEqDiff, Nat.reduceAdd, Nat.reduceMul, Nat.reduceSub, Nat.reduceLeDiff, Nat.reduceLT, hf, build_wk0]
    refine step_store (b := g2.next) (off := 0) (vs := wk0) rfl (by rw [hx5.old _ (by omega)]; exact q6) (by omega) (by omega) rfl rfl rfl (by simp) fun g6 hs6 => ?_
    rw [splice_all (by rfl)] at hs6
    have n6 := hs6.next
    have f6 := hs6.floor
    simp only [rn0, rn1, rn2, reduceIte, Nat.reduceEqDiff, Nat.reduceAdd, Nat.reduceMul, Nat.reduceSub, Nat.reduceLeDiff, Nat.reduceLT, res_two, hs6.row.whole (n := 8) rfl]
    exact ⟨fun i hi => by rw [hs6.old i (by omega), hx5.old i (by omega), old4 i hi], by omega, by omega, by omega, .inl ⟨hf, rfl⟩⟩
  · have hG := good_of hf
    have how := wk_one (hy.mono sub3) (tv := tv) hone
    simp only [rn0, rn1, rn2, reduceIte, Nat.reduceEqDiff, Nat.reduceAdd, Nat.reduceMul, Nat.reduceSub, Nat.reduceLeDiff, Nat.reduceLT, w1, eo, ex0, ex1]
    refine step_new (vs := wkL S wv vv sv tv) (by omega) (by omega) rfl (by simp only [rn0, rn1, rn2, reduceIte, Nat.reduceEqDiff, Nat.reduceAdd, Nat.reduceMul, Nat.reduceSub, Nat.reduceLeDiff, Nat.reduceLT]; rfl) how rfl rfl fun g5 hx5 => ?_
    have n5 := hx5.next
    have f5 := hx5.floor
    have old5 : ∀ i, i < h.next → g5.get i = h.get i := fun i hi => by rw [hx5.old i (by omega), old4 i hi]
    have hy5 := hy.mono (AHeap.subOf old5)
    have w5 := hx5.row.whole (n := 8) rfl
    have r2 : Row g5 g1.next [.int .i64 at_] := ⟨true, 0, by rw [hx5.old _ (by omega), o4 _ (by omega), hx3.old _ (by omega)]; exact hx2.get⟩
    have ehv := hasVat_c (n := n) (h := g5) (tv := tv) (by omega) (by omega) hy5 hone at_
    have q5 : g5.get g2.next = some (.row wk0 true 0) := by rw [hx5.old _ (by omega)]; exact q6
    have hblt := AHeap.lt_of_get hbl
    have hbl5 : g5.get bl = some (.row [.int .i64 hh] true 0) := by rw [old5 _ hblt]; exact hbl
    have htr5 : TruthsR g5 S tv (truthsS S) := Cells.mono htr hx5.sub
    by_cases hv : InV S at_
    · have ed : decide (0 ≤ at_ ∧ at_ ≤ (S.nv : Int) - 1) = true := decide_eq_true hv
      rw [ed] at ehv
      obtain ⟨va, hva⟩ : ∃ va : Nat, at_ = (va : Int) := ⟨at_.toNat, by unfold InV at hv; omega⟩
      subst hva
      have hvn : va < S.nv := by unfold InV at hv; omega
      have een := everyInt_one (n := n) (h := g5) (ok := .func (.func 121) ⟨[]⟩ ⟨[.pointer (some ⟨g4.next, 0, none⟩), .pointer (some ⟨g1.next, 0, none⟩)]⟩) (r := decide (S.vb va ≤ hh ∧ hh ≤ S.last)) (by omega) (by omega) hbl5 fun g hs hg => hour1_c (by omega) (by omega) (hy5.mono hs) hone hvn (hx5.row.mono hs) (r2.mono hs) hh
      by_cases hho : S.vb va ≤ hh ∧ hh ≤ S.last
      case neg =>
        rw [decide_eq_false hho] at een
        simp only [rn0, rn1, rn2, reduceIte, Nat.reduceEqDiff, Nat.reduceAdd, Nat.reduceMul, Nat.reduceSub, Nat.reduceLeDiff, Nat.reduceLT, hf, w5, r2.ld, Nat.zero_add, List.getElem?_cons_zero, ehv, een, build_wk0]
        refine step_store (b := g2.next) (off := 0) (vs := wk0) rfl q5 (by omega) (by omega) rfl rfl rfl (by simp) fun g6 hs6 => ?_
        rw [splice_all (by rfl)] at hs6
        have n6 := hs6.next
        have f6 := hs6.floor
        simp only [rn0, rn1, rn2, reduceIte, Nat.reduceEqDiff, Nat.reduceAdd, Nat.reduceMul, Nat.reduceSub, Nat.reduceLeDiff, Nat.reduceLT, res_two, hs6.row.whole (n := 8) rfl]
        exact ⟨fun i hi => by rw [hs6.old i (by omega), old5 i hi], by omega, by omega, by omega, .inr (.inl ⟨hf, fun q => hho q.2, rfl⟩)⟩
      rw [decide_eq_true hho] at een
      by_cases hz : truthsS S = []
      · have hl0 : ((truthsS S).length : Int) = 0 := by rw [hz]; rfl
        simp only [rn0, rn1, rn2, reduceIte, Nat.reduceEqDiff, Nat.reduceAdd, Nat.reduceMul, Nat.reduceSub, Nat.reduceLeDiff, Nat.reduceLT, hf, w5, r2.ld, Nat.zero_add, List.getElem?_cons_zero, ehv, een, hx5.row.ld, wkg, Cells.len htr5, hl0, build_wk0]
        refine step_store (b := g2.next) (off := 0) (vs := wk0) rfl q5 (by omega) (by omega) rfl rfl rfl (by simp) fun g6 hs6 => ?_
        rw [splice_all (by rfl)] at hs6
        have n6 := hs6.next
        have f6 := hs6.floor
        simp only [rn0, rn1, rn2, reduceIte, Nat.reduceEqDiff, Nat.reduceAdd, Nat.reduceMul, Nat.reduceSub, Nat.reduceLeDiff, Nat.reduceLT, res_two, hs6.row.whole (n := 8) rfl]
        exact ⟨fun i hi => by rw [hs6.old i (by omega), old5 i hi], by omega, by omega, by omega, .inr (.inr (.inl ⟨hf, ⟨hv, hho⟩, hz, rfl⟩))⟩
      · have hl0 : ¬ ((truthsS S).length : Int) = 0 := fun e => hz (List.length_eq_zero_iff.1 (by omega))
        simp only [rn0, rn1, rn2, reduceIte, Nat.reduceEqDiff, Nat.reduceAdd, Nat.reduceMul, Nat.reduceSub, Nat.reduceLeDiff, Nat.reduceLT, hf, w5, r2.ld, Nat.zero_add, List.getElem?_cons_zero, ehv, een, hx5.row.ld, wkg, Cells.len htr5, hl0]
        refine step_store (b := g2.next) (off := 0) (vs := wkL S wv vv sv tv) rfl q5 (by omega) (by omega) rfl how rfl (by simp) fun g6 hs6 => ?_
        rw [splice_all (by rfl)] at hs6
        have n6 := hs6.next
        have f6 := hs6.floor
        simp only [rn0, rn1, rn2, reduceIte, Nat.reduceEqDiff, Nat.reduceAdd, Nat.reduceMul, Nat.reduceSub, Nat.reduceLeDiff, Nat.reduceLT, res_two, hs6.row.whole (n := 8) rfl]
        refine ⟨fun i hi => by rw [hs6.old i (by omega), old5 i hi], by omega, by omega, by omega, .inr (.inr (.inr ⟨hf, ⟨hv, hho⟩, hz, tv, rfl, hone, ?_, hlong⟩))⟩
        exact cells_at' htr5 fun a k c e => by
          have := htb a k c e
          exact hs6.old _ (by omega)
    · have ed : decide (0 ≤ at_ ∧ at_ ≤ (S.nv : Int) - 1) = false := decide_eq_false hv
      rw [ed] at ehv
      simp only [rn0, rn1, rn2, reduceIte, Nat.reduceEqDiff, Nat.reduceAdd, Nat.reduceMul, Nat.reduceSub, Nat.reduceLeDiff, Nat.reduceLT, hf, w5, r2.ld, Nat.zero_add, List.getElem?_cons_zero, ehv, build_wk0]
      refine step_store (b := g2.next) (off := 0) (vs := wk0) rfl q5 (by omega) (by omega) rfl rfl rfl (by simp) fun g6 hs6 => ?_
      rw [splice_all (by rfl)] at hs6
      have n6 := hs6.next
      have f6 := hs6.floor
      simp only [rn0, rn1, rn2, reduceIte, Nat.reduceEqDiff, Nat.reduceAdd, Nat.reduceMul, Nat.reduceSub, Nat.reduceLeDiff, Nat.reduceLT, res_two, hs6.row.whole (n := 8) rfl]
      exact ⟨fun i hi => by rw [hs6.old i (by omega), old5 i hi], by omega, by omega, by omega, .inr (.inl ⟨hf, fun q => hv q.1, rfl⟩)⟩

theorem wk_self {wv vv sv tv : Value} {S : MS} {l : List (Nat → Int)} (hy : SteepR h wv vv sv S) (ht : TruthsR h S tv l) : eqV (.agg ⟨wkL S wv vv sv tv⟩) (.agg ⟨wkL S wv vv sv tv⟩) = true := by
  simp [wkL, eqV, eqCells, eqC_int, Cells.selfC hy.w, Cells.selfC hy.v, Cells.selfC hy.s, Cells.selfC ht]
def InH (S : MS) (at_ hh : Int) : Prop := InV S at_ ∧ S.vb at_.toNat ≤ hh ∧ hh ≤ S.last
open Classical in
noncomputable def errH (S : MS) (at_ hh : Int) : Int := if faultS S ≠ 0 then faultS S else if ¬ InH S at_ hh then 2 else if truthsS S = [] then 11 else 0
open Classical in
noncomputable def rightV (S : MS) (at_ hh : Int) : Int := if errH S at_ hh = 0 then verdS S at_.toNat hh 1 (truthsS S) else 0
def s40 : SCode := (.seq (.ops [⟨(some 3), none, .box (T 0)⟩, ⟨(some 6), none, .mov (.const (.int .i64 (0)))⟩, ⟨(some 7), none, .mov (.const (.int .i64 (0)))⟩]) (.seq (.ops [⟨(some 11), none, .loadN 7 (T 3)⟩, ⟨(some 12), none, .mov (T 1)⟩, ⟨(some 13), none, .mov (T 2)⟩, ⟨(some 14), none, .bslice 1 1 [(.int .i64 (0))] [0] [(T 13)]⟩, ⟨(some 15), none, .call (.func 88) [(T 11), (T 12), (T 14)]⟩, ⟨(some 10), none, .mov (T 15)⟩, ⟨(some 16), none, .extract 0 (T 10)⟩, ⟨(some 17), none, .extract 1 (T 10)⟩, ⟨(some 8), none, .alloc [(.int .i64 (0)), (.int .i64 (0)), (.slice none 0 0), (.int .i64 (0)), (.int .i64 (0)), (.slice none 0 0), (.slice none 0 0), (.slice none 0 0)]⟩, ⟨none, none, .store 8 (T 8) (T 16)⟩, ⟨(some 9), none, .mov (T 17)⟩]) (.seq (.seq (.ops [⟨(some 18), none, .mov (T 9)⟩, ⟨(some 19), none, .int2 .neq (T 18) (.const (.int .i64 (0)))⟩]) (.cond (T 19) (.seq (.ops [⟨(some 20), none, .mov (T 9)⟩, ⟨(some 6), none, .mov (.const (.int .i64 (0)))⟩, ⟨(some 7), none, .mov (T 20)⟩]) .ret) .skip)) (.seq (.draw [⟨.rd, ⟨(some 21), none, .loadN 8 (T 8)⟩⟩, ⟨.rd1, ⟨(some 22), none, .loadN 8 (T 8)⟩⟩, ⟨.free, ⟨(some 23), none, .mov (T 1)⟩⟩, ⟨.up, ⟨(some 24), none, .call (.func 91) [(T 22), (T 23)]⟩⟩, ⟨.free, ⟨(some 25), none, .mov (T 1)⟩⟩, ⟨.free, ⟨(some 26), none, .mov (T 2)⟩⟩, ⟨.any, ⟨(some 27), none, .call (.func 90) [(T 21), (T 24), (T 25), (T 26)]⟩⟩, ⟨.free, ⟨(some 6), none, .mov (T 27)⟩⟩, ⟨.free, ⟨(some 7), none, .mov (.const (.int .i64 (0)))⟩⟩]) .ret))))
theorem fok40 : FnOk Try.prog 40 28 s40 [.tmp 6, .tmp 7] := ⟨Try.f40, _, Try.func40, rfl, Try.ntmps40, by kernel_rfl, by kernel_rfl⟩
set_option maxHeartbeats 1000000 in
theorem rightP_c (hn : 2500 ≤ n) (hr : h.next + 1000000 < far) {wv vv sv : Value} {S : MS} (hy : SteepR h wv vv sv S) (hT : ThinS S) (at_ hh : Int) :
    call n (.func (.func 40) #[] #[]) [.agg ⟨stL S wv vv sv⟩, .int .i64 at_, .int .i64 hh] h = some (.tuple ⟨[.int .i64 (rightV S at_ hh), .int .i64 (errH S at_ hh)]⟩, h) := by
  obtain ⟨n, rfl⟩ : ∃ p, n = p + 1 := ⟨n - 1, by omega⟩
  refine call_plain0 fok40 rfl rfl (by simp) rfl ?_
  have hy := hy.shut
  have hr : h.shutAll.next + 1000000 < far := hr
  have hfl : h.shutAll.floor ≤ h.shutAll.next := Nat.le_refl _
  generalize h.shutAll = h at hy hr hfl
  simp only [s40, W_seq, W_ops]
  refine ops_box (cs := stL S wv vv sv) (by omega) rfl hy.one fun g1 hx1 => ?_
  have n1 := hx1.next
  have f1 := hx1.floor
  simp only [rn0, rn1, rn2, reduceIte, Nat.reduceEqDiff, Nat.reduceAdd, Nat.reduceMul, Nat.reduceSub, Nat.reduceLeDiff, Nat.reduceLT, hx1.row.whole (n := 7) rfl, sl_int]
  refine step_slice (by omega) rfl fun g2 hx2 => ?_
  have n2 := hx2.next
  have f2 := hx2.floor
  have sub2 : Sub All h g2 := hx1.sub.trans hx2.sub
  obtain ⟨pv, g3, eo, o3, u3, m3, f3, hp⟩ := openVatH_c (n := n) (h := g2) (by omega) (by omega) (by omega) (hy.mono sub2) hT at_ (hh := hh) hx2.get
  have sub3 : Sub All h g3 := sub2.trans (AHeap.subOf o3)
  rcases hp with ⟨hf, rfl⟩ | ⟨hf, hv, rfl⟩ | ⟨hf, hv, hz, rfl⟩ | ⟨hf, hv, hz, tv, rfl, hone, htr, hlong⟩
  · have e1 : errH S at_ hh = faultS S := if_pos hf
    have e2 : rightV S at_ hh = 0 := if_neg (by rw [e1]; exact hf)
    rw [e1, e2]
    simp only [rn0, rn1, rn2, reduceIte, Nat.reduceEqDiff, Nat.reduceAdd, Nat.reduceMul, Nat.reduceSub, Nat.reduceLeDiff, Nat.reduceLT, eo, ex0, ex1]
    refine step_new (vs := wk0) (by omega) (by omega) rfl (by simp only [rn0, rn1, rn2, reduceIte, Nat.reduceEqDiff, Nat.reduceAdd, Nat.reduceMul, Nat.reduceSub, Nat.reduceLeDiff, Nat.reduceLT]; rfl) rfl rfl rfl fun g4 hx4 => ?_
    simp only [rn0, rn1, rn2, reduceIte, Nat.reduceEqDiff, Nat.reduceAdd, Nat.reduceMul, Nat.reduceSub, Nat.reduceLeDiff, Nat.reduceLT, hf, ret_tt]
  · have hv : ¬ InH S at_ hh := hv
    have e1 : errH S at_ hh = 2 := by unfold errH; rw [if_neg (by simpa using hf), if_pos hv]
    have e2 : rightV S at_ hh = 0 := if_neg (by rw [e1]; decide)
    have z20 : ¬ (2 : Int) = 0 := by decide
    rw [e1, e2]
    simp only [rn0, rn1, rn2, reduceIte, Nat.reduceEqDiff, Nat.reduceAdd, Nat.reduceMul, Nat.reduceSub, Nat.reduceLeDiff, Nat.reduceLT, eo, ex0, ex1]
    refine step_new (vs := wk0) (by omega) (by omega) rfl (by simp only [rn0, rn1, rn2, reduceIte, Nat.reduceEqDiff, Nat.reduceAdd, Nat.reduceMul, Nat.reduceSub, Nat.reduceLeDiff, Nat.reduceLT]; rfl) rfl rfl rfl fun g4 hx4 => ?_
    simp only [rn0, rn1, rn2, reduceIte, Nat.reduceEqDiff, Nat.reduceAdd, Nat.reduceMul, Nat.reduceSub, Nat.reduceLeDiff, Nat.reduceLT, z20, ret_tt]
  · have e1 : errH S at_ hh = 11 := by unfold errH; rw [if_neg (by simpa using hf), if_neg (by intro q; exact q hv), if_pos hz]
    have e2 : rightV S at_ hh = 0 := if_neg (by rw [e1]; decide)
    have z110 : ¬ (11 : Int) = 0 := by decide
    rw [e1, e2]
    simp only [rn0, rn1, rn2, reduceIte, Nat.reduceEqDiff, Nat.reduceAdd, Nat.reduceMul, Nat.reduceSub, Nat.reduceLeDiff, Nat.reduceLT, eo, ex0, ex1]
    refine step_new (vs := wk0) (by omega) (by omega) rfl (by simp only [rn0, rn1, rn2, reduceIte, Nat.reduceEqDiff, Nat.reduceAdd, Nat.reduceMul, Nat.reduceSub, Nat.reduceLeDiff, Nat.reduceLT]; rfl) rfl rfl rfl fun g4 hx4 => ?_
    simp only [rn0, rn1, rn2, reduceIte, Nat.reduceEqDiff, Nat.reduceAdd, Nat.reduceMul, Nat.reduceSub, Nat.reduceLeDiff, Nat.reduceLT, z110, ret_tt]
  · have hG := good_of hf
    have e1 : errH S at_ hh = 0 := by unfold errH; rw [if_neg (by simpa using hf), if_neg (by intro q; exact q hv), if_neg hz]
    have e2 : rightV S at_ hh = verdS S at_.toNat hh 1 (truthsS S) := if_pos e1
    rw [e1, e2]
    have how := wk_one hy (tv := tv) hone
    simp only [rn0, rn1, rn2, reduceIte, Nat.reduceEqDiff, Nat.reduceAdd, Nat.reduceMul, Nat.reduceSub, Nat.reduceLeDiff, Nat.reduceLT, eo, ex0, ex1]
    refine step_new (vs := wkL S wv vv sv tv) (by omega) (by omega) rfl (by simp only [rn0, rn1, rn2, reduceIte, Nat.reduceEqDiff, Nat.reduceAdd, Nat.reduceMul, Nat.reduceSub, Nat.reduceLeDiff, Nat.reduceLT]; rfl) how rfl rfl fun g4 hx4 => ?_
    have n4 := hx4.next
    have f4 := hx4.floor
    have sub4 := sub3.trans hx4.sub
    obtain ⟨hv1, hv2⟩ := hv
    obtain ⟨va, hva⟩ : ∃ va : Nat, at_ = (va : Int) := ⟨at_.toNat, by unfold InV at hv1; omega⟩
    subst hva
    have hvn : va < S.nv := by unfold InV at hv1; omega
    have htr4 : TruthsR g4 S tv (truthsS S) := Cells.mono htr hx4.sub
    have hy4 := hy.mono sub4
    obtain ⟨r, g5, ek, hm5, hr5, sub5, u5, m5, f5⟩ := kindsOf_c (n := n) (h := g4) (by omega) (by omega) (by omega) hy4 hone hG (truths_len hG) (fun t ht => (truths_mem.1 ht).1.1) htr4 hvn
    have ev := verdict_c (n := n) (h := g5) (by omega) (by omega) (hy4.mono sub5) hone hG (Cells.mono htr4 sub5) hm5 (hh := hh) ⟨hvn, hv2.1, hv2.2⟩
    simp only [rn0, rn1, rn2, reduceIte, Nat.reduceEqDiff, Nat.reduceAdd, Nat.reduceMul, Nat.reduceSub, Nat.reduceLeDiff, Nat.reduceLT]
    refine W_draw All ?_
    simp only [rn0, rn1, rn2, reduceIte, Nat.reduceEqDiff, Nat.reduceAdd, Nat.reduceMul, Nat.reduceSub, Nat.reduceLeDiff, Nat.reduceLT, hx4.row.whole (n := 8) rfl, wk_self hy4 htr4, ek, ev, ret_tt]
    exact ⟨⟨by omega, sub5⟩, rfl⟩

noncomputable def gI (S : MS) (v : Nat) (L : List (Nat → Int)) (k : Nat) : List Int := pickL (fun i => verdS S v (S.vb v + (i : Int)) 1 L = 1) k
def gLo (b : Int) (l : List Int) : Int := if l = [] then 0 else b + atL l 0
def gHi (b : Int) (l : List Int) : Int := if l = [] then 0 else b + atL l (l.length - 1)
theorem gLo_nil {b : Int} : gLo b [] = 0 := rfl
theorem gHi_nil {b : Int} : gHi b [] = 0 := rfl
theorem gLo_app {b x : Int} {l : List Int} (hl : l ≠ []) : gLo b (l ++ [x]) = gLo b l := by
  unfold gLo
  rw [if_neg hl, if_neg (by simp), at_append (List.length_pos_iff.2 hl)]
theorem gHi_app {b x : Int} {l : List Int} : gHi b (l ++ [x]) = b + x := by
  unfold gHi
  rw [if_neg (by simp), List.length_append, List.length_singleton, Nat.add_sub_cancel, at_last]
def s93 : SCode := (.seq (.ops [⟨(some 2), none, .box (T 0)⟩, ⟨(some 4), none, .alloc [(.int .i64 (0)), (.int .i64 (0))]⟩, ⟨(some 5), none, .mov (.const (.bool false))⟩]) (.seq (.ops [⟨(some 9), none, .loadN 8 (T 2)⟩, ⟨(some 10), none, .mov (T 1)⟩, ⟨(some 11), none, .call (.func 91) [(T 9), (T 10)]⟩, ⟨(some 6), none, .mov (T 11)⟩]) (.seq (.seq (.ops [⟨(some 12), none, .loadN 8 (T 2)⟩, ⟨(some 13), none, .mov (T 1)⟩, ⟨(some 14), none, .call (.func 107) [(T 12), (T 13)]⟩, ⟨(some 15), none, .mov (.const (.int .i64 (0)))⟩]) (.block 0 (.loop (.seq (.ops [⟨(some 16), none, .int2 .lss (T 15) (T 14)⟩]) (.seq (.cond (T 16) .skip (.exit 0)) (.seq (.block 1 (.seq (.ops [⟨(some 17), none, .mov (T 15)⟩, ⟨(some 7), none, .mov (T 17)⟩]) (.seq (.ops [⟨(some 18), none, .fieldAddr 0 (T 2)⟩, ⟨(some 19), none, .fieldAddr 5 (T 18)⟩, ⟨(some 20), none, .load1 (T 19)⟩, ⟨(some 21), none, .mov (T 1)⟩, ⟨(some 22), none, .idxSl 4 (T 20) (T 21)⟩, ⟨(some 23), none, .fieldAddr 0 (T 22)⟩, ⟨(some 24), none, .load1 (T 23)⟩, ⟨(some 25), none, .mov (T 7)⟩, ⟨(some 26), none, .int2 .add (T 24) (T 25)⟩, ⟨(some 8), none, .mov (T 26)⟩]) (.seq (.seq (.ops [⟨(some 27), none, .loadN 8 (T 2)⟩, ⟨(some 28), none, .mov (T 6)⟩, ⟨(some 29), none, .mov (T 1)⟩, ⟨(some 30), none, .mov (T 8)⟩, ⟨(some 31), none, .call (.func 90) [(T 27), (T 28), (T 29), (T 30)]⟩, ⟨(some 32), none, .int2 .neq (T 31) (.const (.int .i64 (1)))⟩]) (.cond (T 32) (.exit 1) .skip)) (.seq (.seq (.ops [⟨(some 33), none, .mov (T 5)⟩, ⟨(some 34), none, .not (T 33)⟩]) (.cond (T 34) (.ops [⟨(some 35), none, .mov (T 8)⟩, ⟨(some 36), none, .fieldAddr 0 (T 4)⟩, ⟨none, none, .store 1 (T 36) (T 35)⟩]) .skip)) (.ops [⟨(some 37), none, .mov (T 8)⟩, ⟨(some 38), none, .fieldAddr 1 (T 4)⟩, ⟨none, none, .store 1 (T 38) (T 37)⟩, ⟨(some 5), none, .mov (.const (.bool true))⟩])))))) (.ops [⟨(some 39), none, .int2 .add (T 15) (.const (.int .i64 (1)))⟩, ⟨(some 15), none, .mov (T 39)⟩]))))))) (.seq (.ops [⟨(some 40), none, .loadN 2 (T 4)⟩, ⟨(some 41), none, .mov (T 5)⟩, ⟨none, none, .store 2 (T 4) (T 40)⟩, ⟨(some 5), none, .mov (T 41)⟩]) .ret))))
theorem fok93 : FnOk Try.prog 93 42 s93 [.cellN 4 2, .tmp 5] := ⟨Try.f93, _, Try.func93, rfl, Try.ntmps93, by kernel_rfl, by kernel_rfl⟩
set_option maxHeartbeats 2000000 in
theorem goodHours_c (hn : 2320 ≤ n) (hr : h.next + 300000 < far) {wv vv sv tv : Value} {S : MS} (hy : SteepR h wv vv sv S) (ho1 : oneCell tv = true) (hG : Good S) {L : List (Nat → Int)} (hlen : L.length ≤ 2000) (hin : ∀ t, t ∈ L → InU S t) (htr : TruthsR h S tv L) {v : Nat} (hv : v < S.nv) :
    call n (.func (.func 93) #[] #[]) [.agg ⟨wkL S wv vv sv tv⟩, .int .i64 (v : Int)] h = some (.tuple ⟨[.agg ⟨[.int .i64 (gLo (S.vb v) (gI S v L (hoursN S v))), .int .i64 (gHi (S.vb v) (gI S v L (hoursN S v)))]⟩, .bool (decide (gI S v L (hoursN S v) ≠ []))]⟩, h) := by
  obtain ⟨n, rfl⟩ : ∃ p, n = p + 1 := ⟨n - 1, by omega⟩
  refine call_plain0 fok93 rfl rfl (by simp) rfl ?_
  have hy := hy.shut
  have htr : TruthsR h.shutAll S tv L := Cells.shut htr
  have hr : h.shutAll.next + 300000 < far := hr
  have hfl : h.shutAll.floor ≤ h.shutAll.next := Nat.le_refl _
  generalize h.shutAll = h at hy htr hr hfl
  obtain ⟨mh1, mh2, mh3⟩ := hoursN_ok hG hv
  obtain ⟨⟨vb1, vb2⟩, _⟩ := hG.args.vat v hv
  obtain ⟨zl0, zl5, _⟩ := hG.sizes
  simp only [s93, W_seq, W_ops]
  refine ops_box (cs := wkL S wv vv sv tv) (by omega) rfl (wk_one hy ho1) fun g1 hx1 => ?_
  have n1 := hx1.next
  have f1 := hx1.floor
  refine ops_alloc (cs := [.int .i64 0, .int .i64 0]) (by omega) rfl fun g2 hx2 => ?_
  have n2 := hx2.next
  have f2 := hx2.floor
  have s2 : Sub All h g2 := hx1.sub.trans hx2.sub
  have r2 := hx1.row.mono hx2.sub
  obtain ⟨r, g3, ek, hm3, hr3, sub3, u3, m3, f3⟩ := kindsOf_c (n := n) (h := g2) (by omega) (by omega) (by omega) (hy.mono s2) ho1 hG hlen hin (Cells.mono htr s2) hv
  have s3 := s2.trans sub3
  have eh := hoursOf_c (n := n) (h := g3) (by omega) (by omega) (hy.mono s3) ho1 hG hv
  rw [← mh1] at eh
  have r3 := r2.mono sub3
  have q3 : g3.get g1.next = some (.row [.int .i64 0, .int .i64 0] true 0) := sub3 _ _ _ _ trivial hx2.get
  simp only [rn0, rn1, rn2, reduceIte, Nat.reduceEqDiff, Nat.reduceAdd, Nat.reduceMul, Nat.reduceSub, Nat.reduceLeDiff, Nat.reduceLT, r2.whole (n := 8) rfl, ek, r3.whole (n := 8) rfl, eh]
  refine W_loop (hoursN S v) (fun k f g ms => ((∀ i, i ≠ g1.next → g.get i = g3.get i) ∧ g.next = g3.next ∧ g.floor = g3.floor ∧ g.get g1.next = some (.row [.int .i64 (gLo (S.vb v) (gI S v L k)), .int .i64 (gHi (S.vb v) (gI S v L k))] true 0)) ∧ ms = [] ∧ f 1 = .int .i64 (v : Int) ∧ f 2 = .pointer (some ⟨h.next, 0, none⟩) ∧ f 4 = .pointer (some ⟨g1.next, 0, none⟩) ∧ f 5 = .bool (decide (gI S v L k ≠ [])) ∧ f 6 = .map (some r) ∧ f 14 = .int .i64 (hoursN S v : Int) ∧ f 15 = .int .i64 (k : Int)) (by simp; omega) ?_ ?_ ?_
  · have e0 : gI S v L 0 = [] := rfl
    have d0 : decide ((([] : List Int)) ≠ []) = false := rfl
    rw [e0]
    simp only [rn0, rn1, rn2, reduceIte, Nat.reduceEqDiff, Nat.reduceAdd, Nat.reduceMul, Nat.reduceSub, Nat.reduceLeDiff, Nat.reduceLT, gLo_nil, gHi_nil, d0]
    first | exact ⟨⟨fun i _ => trivial, q3⟩, rfl⟩ | exact ⟨⟨fun i _ => rfl, rfl, rfl, q3⟩, rfl⟩ | exact ⟨⟨fun i _ => trivial, trivial, trivial, q3⟩, rfl⟩
  · rintro k f g ms hk ⟨⟨go, gn, gf, gr⟩, rfl, p1, p2, p4, p5, p6, p14, p15⟩
    have hk' : (k : Int) < (hoursN S v : Int) := by omega
    have hw : wrapF .i64 ((k : Int) + 1) = ((k + 1 : Nat) : Int) := by rw [wrap_in (by omega) (by omega)]; rfl
    have hwb : wrapF .i64 (S.vb v + (k : Int)) = S.vb v + (k : Int) := wrap_in (by omega) (by omega)
    have sg : Sub All h g := fun i cs w gr' t hg => by rw [go i (by have := AHeap.lt_of_get hg; omega)]; exact s3 _ _ _ _ t hg
    have hyg := hy.mono sg
    have htg : TruthsR g S tv L := Cells.mono htr sg
    have rg : Row g h.next (wkL S wv vv sv tv) := by
      obtain ⟨w, gr', e⟩ := r3
      exact ⟨w, gr', by rw [go _ (by omega)]; exact e⟩
    have mg : MapF g r key3 (cntK S v L L.length 0) := hm3.keep (go _ (by omega))
    have ev := verdict_c (n := n) (h := g) (by omega) (by omega) hyg ho1 hG htg mg (hour_at hG hv hk)
    by_cases c : verdS S v (S.vb v + (k : Int)) 1 L = 1
    · have eg : gI S v L (k + 1) = gI S v L k ++ [(k : Int)] := pick_yes c
      have hne : decide (gI S v L (k + 1) ≠ []) = true := decide_eq_true (by rw [eg]; simp)
      by_cases c0 : gI S v L k = []
      · have d0 : decide (gI S v L k ≠ []) = false := decide_eq_false (by simpa using c0)
        rw [d0] at p5
        have e1 : gLo (S.vb v) (gI S v L (k + 1)) = S.vb v + (k : Int) := by rw [eg, c0]; rfl
        have e2 : gHi (S.vb v) (gI S v L (k + 1)) = S.vb v + (k : Int) := by rw [eg, gHi_app]
        simp only [rn0, rn1, rn2, reduceIte, Nat.reduceEqDiff, Nat.reduceAdd, Nat.reduceMul, Nat.reduceSub, Nat.reduceLeDiff, Nat.reduceLT, p1, p2, p4, p5, p6, p14, p15, hk', rg.whole (n := 8) rfl, rg.ld, wkg, Nat.zero_add, Nat.add_zero, Cells.idx hyg.v hv, Cells.fld hyg.v hv, begin_ld hyg hv, hwb, ev, c]
        refine step_store (b := g1.next) (off := 0) (vs := [.int .i64 (S.vb v + (k : Int))]) rfl gr (by omega) (by omega) rfl rfl rfl (by simp) fun g4 hs4 => ?_
        have n4 := hs4.next
        have f4 := hs4.floor
        simp only [rn0, rn1, rn2, reduceIte, Nat.reduceEqDiff, Nat.reduceAdd, Nat.reduceMul, Nat.reduceSub, Nat.reduceLeDiff, Nat.reduceLT, p1, p2, p4, p5, p6, p14, p15]
        refine step_store (b := g1.next) (off := 1) (vs := [.int .i64 (S.vb v + (k : Int))]) rfl hs4.get (by omega) (by omega) rfl rfl rfl (by simp [splice]) fun g5 hs5 => ?_
        have n5 := hs5.next
        have f5 := hs5.floor
        simp only [rn0, rn1, rn2, reduceIte, Nat.reduceEqDiff, Nat.reduceAdd, Nat.reduceMul, Nat.reduceSub, Nat.reduceLeDiff, Nat.reduceLT, p1, p2, p4, p5, p6, p14, p15, hw, hne]
        rw [e1, e2]
        exact ⟨fun i hi => by rw [hs5.old i hi, hs4.old i hi, go i hi], by omega, by omega, hs5.get⟩
      · have d0 : decide (gI S v L k ≠ []) = true := decide_eq_true c0
        rw [d0] at p5
        have e1 : gLo (S.vb v) (gI S v L (k + 1)) = gLo (S.vb v) (gI S v L k) := by rw [eg, gLo_app c0]
        have e2 : gHi (S.vb v) (gI S v L (k + 1)) = S.vb v + (k : Int) := by rw [eg, gHi_app]
        simp only [rn0, rn1, rn2, reduceIte, Nat.reduceEqDiff, Nat.reduceAdd, Nat.reduceMul, Nat.reduceSub, Nat.reduceLeDiff, Nat.reduceLT, p1, p2, p4, p5, p6, p14, p15, hk', rg.whole (n := 8) rfl, rg.ld, wkg, Nat.zero_add, Nat.add_zero, Cells.idx hyg.v hv, Cells.fld hyg.v hv, begin_ld hyg hv, hwb, ev, c]
        refine step_store (b := g1.next) (off := 1) (vs := [.int .i64 (S.vb v + (k : Int))]) rfl gr (by omega) (by omega) rfl rfl rfl (by simp) fun g5 hs5 => ?_
        have n5 := hs5.next
        have f5 := hs5.floor
        simp only [rn0, rn1, rn2, reduceIte, Nat.reduceEqDiff, Nat.reduceAdd, Nat.reduceMul, Nat.reduceSub, Nat.reduceLeDiff, Nat.reduceLT, p1, p2, p4, p5, p6, p14, p15, hw, hne]
        rw [e1, e2]
        exact ⟨fun i hi => by rw [hs5.old i hi, go i hi], by omega, by omega, hs5.get⟩
    · have eg : gI S v L (k + 1) = gI S v L k := pick_no c
      simp only [rn0, rn1, rn2, reduceIte, Nat.reduceEqDiff, Nat.reduceAdd, Nat.reduceMul, Nat.reduceSub, Nat.reduceLeDiff, Nat.reduceLT, p1, p2, p4, p5, p6, p14, p15, hk', rg.whole (n := 8) rfl, rg.ld, wkg, Nat.zero_add, Nat.add_zero, Cells.idx hyg.v hv, Cells.fld hyg.v hv, begin_ld hyg hv, hwb, ev, c, hw]
      rw [eg]
      first | exact ⟨⟨go, gn, gf, gr⟩, rfl⟩ | exact ⟨go, gn, gf, gr⟩
  · rintro f g ms ⟨⟨go, gn, gf, gr⟩, rfl, p1, p2, p4, p5, p6, p14, p15⟩
    have rt : Row g g1.next _ := ⟨_, _, gr⟩
    simp only [rn0, rn1, rn2, reduceIte, Nat.reduceEqDiff, Nat.reduceAdd, Nat.reduceMul, Nat.reduceSub, Nat.reduceLeDiff, Nat.reduceLT, p1, p2, p4, p5, p6, p14, p15, Int.lt_irrefl, rt.whole (n := 2) rfl]
    refine step_store (b := g1.next) (off := 0) (vs := [.int .i64 (gLo (S.vb v) (gI S v L (hoursN S v))), .int .i64 (gHi (S.vb v) (gI S v L (hoursN S v)))]) rfl gr (by omega) (by omega) rfl rfl rfl (by simp) fun g6 hs6 => ?_
    rw [splice_all (by rfl)] at hs6
    simp only [rn0, rn1, rn2, reduceIte, Nat.reduceEqDiff, Nat.reduceAdd, Nat.reduceMul, Nat.reduceSub, Nat.reduceLeDiff, Nat.reduceLT, p4, p5, res_two, hs6.row.whole (n := 2) rfl]




theorem build_rng0 : buildA (fun x => (#[(0, 1), (1, 1)] : Array (Nat × Nat))[x]?) ⟨[.int .i64 0, .int .i64 0]⟩ [] h [] = some (.agg ⟨[.int .i64 0, .int .i64 0]⟩, h) := id rfl
open Classical in
noncomputable def errV (S : MS) (at_ : Int) : Int := if faultS S ≠ 0 then faultS S else if ¬ InV S at_ then 2 else if truthsS S = [] then 11 else 0
noncomputable def gAll (S : MS) (v : Nat) : List Int := gI S v (truthsS S) (hoursN S v)
noncomputable def goodE (S : MS) (at_ : Int) : Int := if errV S at_ = 0 then (if gAll S at_.toNat = [] then 10 else 0) else errV S at_
noncomputable def goodLo (S : MS) (at_ : Int) : Int := if errV S at_ = 0 then gLo (S.vb at_.toNat) (gAll S at_.toNat) else 0
noncomputable def goodHi (S : MS) (at_ : Int) : Int := if errV S at_ = 0 then gHi (S.vb at_.toNat) (gAll S at_.toNat) else 0
theorem errV_1 {S : MS} {at_ : Int} (hf : faultS S ≠ 0) : errV S at_ = faultS S := if_pos hf
theorem errV_2 {S : MS} {at_ : Int} (hf : faultS S = 0) (hv : ¬ InV S at_) : errV S at_ = 2 := by unfold errV; rw [if_neg (by simpa using hf), if_pos hv]
theorem errV_3 {S : MS} {at_ : Int} (hf : faultS S = 0) (hv : InV S at_) (hz : truthsS S = []) : errV S at_ = 11 := by unfold errV; rw [if_neg (by simpa using hf), if_neg (by intro q; exact q hv), if_pos hz]
theorem errV_4 {S : MS} {at_ : Int} (hf : faultS S = 0) (hv : InV S at_) (hz : truthsS S ≠ []) : errV S at_ = 0 := by unfold errV; rw [if_neg (by simpa using hf), if_neg (by intro q; exact q hv), if_neg hz]
theorem good_err {S : MS} {at_ : Int} (he : errV S at_ ≠ 0) : goodE S at_ = errV S at_ ∧ goodLo S at_ = 0 ∧ goodHi S at_ = 0 := ⟨if_neg he, if_neg he, if_neg he⟩
theorem good_ok {S : MS} {at_ : Int} (he : errV S at_ = 0) : goodE S at_ = (if gAll S at_.toNat = [] then 10 else 0) ∧ goodLo S at_ = gLo (S.vb at_.toNat) (gAll S at_.toNat) ∧ goodHi S at_ = gHi (S.vb at_.toNat) (gAll S at_.toNat) := ⟨if_pos he, if_pos he, if_pos he⟩
def s44 : SCode := (.seq (.ops [⟨(some 2), none, .box (T 0)⟩, ⟨(some 4), none, .alloc [(.int .i64 (0)), (.int .i64 (0))]⟩, ⟨(some 5), none, .mov (.const (.int .i64 (0)))⟩]) (.seq (.ops [⟨(some 11), none, .loadN 7 (T 2)⟩, ⟨(some 12), none, .mov (T 1)⟩, ⟨(some 13), none, .call (.func 88) [(T 11), (T 12), (.const (.slice none 0 0))]⟩, ⟨(some 10), none, .mov (T 13)⟩, ⟨(some 14), none, .extract 0 (T 10)⟩, ⟨(some 15), none, .extract 1 (T 10)⟩, ⟨(some 6), none, .alloc [(.int .i64 (0)), (.int .i64 (0)), (.slice none 0 0), (.int .i64 (0)), (.int .i64 (0)), (.slice none 0 0), (.slice none 0 0), (.slice none 0 0)]⟩, ⟨none, none, .store 8 (T 6) (T 14)⟩, ⟨(some 7), none, .mov (T 15)⟩]) (.seq (.seq (.ops [⟨(some 16), none, .mov (T 7)⟩, ⟨(some 17), none, .int2 .neq (T 16) (.const (.int .i64 (0)))⟩]) (.cond (T 17) (.seq (.ops [⟨(some 18), none, .build #[(0, 1), (1, 1)] [(.int .i64 (0)), (.int .i64 (0))] [] []⟩, ⟨(some 19), none, .mov (T 7)⟩, ⟨none, none, .store 2 (T 4) (T 18)⟩, ⟨(some 5), none, .mov (T 19)⟩]) .ret) .skip)) (.seq (.ops [⟨(some 21), none, .loadN 8 (T 6)⟩, ⟨(some 22), none, .mov (T 1)⟩, ⟨(some 23), none, .call (.func 93) [(T 21), (T 22)]⟩, ⟨(some 20), none, .mov (T 23)⟩, ⟨(some 24), none, .extract 0 (T 20)⟩, ⟨(some 25), none, .extract 1 (T 20)⟩, ⟨(some 8), none, .alloc [(.int .i64 (0)), (.int .i64 (0))]⟩, ⟨none, none, .store 2 (T 8) (T 24)⟩, ⟨(some 9), none, .mov (T 25)⟩]) (.seq (.seq (.ops [⟨(some 26), none, .mov (T 9)⟩, ⟨(some 27), none, .not (T 26)⟩]) (.cond (T 27) (.seq (.ops [⟨(some 28), none, .build #[(0, 1), (1, 1)] [(.int .i64 (0)), (.int .i64 (0))] [] []⟩, ⟨none, none, .store 2 (T 4) (T 28)⟩, ⟨(some 5), none, .mov (.const (.int .i64 (10)))⟩]) .ret) .skip)) (.seq (.ops [⟨(some 29), none, .loadN 2 (T 8)⟩, ⟨none, none, .store 2 (T 4) (T 29)⟩, ⟨(some 5), none, .mov (.const (.int .i64 (0)))⟩]) .ret))))))
theorem fok44 : FnOk Try.prog 44 30 s44 [.cellN 4 2, .tmp 5] := ⟨Try.f44, _, Try.func44, rfl, Try.ntmps44, by kernel_rfl, by kernel_rfl⟩
set_option maxHeartbeats 2000000 in
theorem goodP_c (hn : 2500 ≤ n) (hr : h.next + 1200000 < far) {wv vv sv : Value} {S : MS} (hy : SteepR h wv vv sv S) (hT : ThinS S) (at_ : Int) :
    call n (.func (.func 44) #[] #[]) [.agg ⟨stL S wv vv sv⟩, .int .i64 at_] h = some (.tuple ⟨[.agg ⟨[.int .i64 (goodLo S at_), .int .i64 (goodHi S at_)]⟩, .int .i64 (goodE S at_)]⟩, h) := by
  obtain ⟨n, rfl⟩ : ∃ p, n = p + 1 := ⟨n - 1, by omega⟩
  refine call_plain0 fok44 rfl rfl (by simp) rfl ?_
  have hy := hy.shut
  have hr : h.shutAll.next + 1200000 < far := hr
  have hfl : h.shutAll.floor ≤ h.shutAll.next := Nat.le_refl _
  generalize h.shutAll = h at hy hr hfl
  simp only [s44, W_seq, W_ops]
  refine ops_box (cs := stL S wv vv sv) (by omega) rfl hy.one fun g1 hx1 => ?_
  have n1 := hx1.next
  have f1 := hx1.floor
  refine ops_alloc (cs := [.int .i64 0, .int .i64 0]) (by omega) rfl fun g2 hx2 => ?_
  have n2 := hx2.next
  have f2 := hx2.floor
  have sub2 : Sub All h g2 := hx1.sub.trans hx2.sub
  have w2 := (hx1.row.mono hx2.sub).whole (n := 7) rfl
  obtain ⟨pv, g3, eo, o3, u3, m3, f3, hp⟩ := openVat_c (n := n) (h := g2) (by omega) (by omega) (by omega) (hy.mono sub2) hT at_
  have sub3 : Sub All h g3 := sub2.trans (AHeap.subOf o3)
  have q3 : g3.get g1.next = some (.row [.int .i64 0, .int .i64 0] true 0) := by rw [o3 _ (by omega)]; exact hx2.get
  have z20 : ¬ (2 : Int) = 0 := by decide
  have z110 : ¬ (11 : Int) = 0 := by decide
  rcases hp with ⟨hf, rfl⟩ | ⟨hf, hv, rfl⟩ | ⟨hf, hv, hz, rfl⟩ | ⟨hf, hv, hz, tv, rfl, hone, htr, hlong⟩
  · have e0 : errV S at_ = faultS S := errV_1 hf
    obtain ⟨q1, q2, q3'⟩ := good_err (S := S) (at_ := at_) (by rw [e0]; exact hf)
    rw [q1, q2, q3', e0]
    simp only [rn0, rn1, rn2, reduceIte, Nat.reduceEqDiff, Nat.reduceAdd, Nat.reduceMul, Nat.reduceSub, Nat.reduceLeDiff, Nat.reduceLT, w2, eo, ex0, ex1]
    refine step_new (vs := wk0) (by omega) (by omega) rfl (by simp only [rn0, rn1, rn2, reduceIte, Nat.reduceEqDiff, Nat.reduceAdd, Nat.reduceMul, Nat.reduceSub, Nat.reduceLeDiff, Nat.reduceLT]; rfl) rfl rfl rfl fun g4 hx4 => ?_
    have n4 := hx4.next
    have f4 := hx4.floor
    simp only [rn0, rn1, rn2, reduceIte, Nat.reduceEqDiff, Nat.reduceAdd, Nat.reduceMul, Nat.reduceSub, Nat.reduceLeDiff, Nat.reduceLT, hf, build_rng0]
    refine step_store (b := g1.next) (off := 0) (vs := [.int .i64 0, .int .i64 0]) rfl (by rw [hx4.old _ (by omega)]; exact q3) (by omega) (by omega) rfl rfl rfl (by simp) fun g6 hs6 => ?_
    rw [splice_all (by rfl)] at hs6
    simp only [rn0, rn1, rn2, reduceIte, Nat.reduceEqDiff, Nat.reduceAdd, Nat.reduceMul, Nat.reduceSub, Nat.reduceLeDiff, Nat.reduceLT, res_two, hs6.row.whole (n := 2) rfl]
  · have e0 : errV S at_ = 2 := errV_2 hf hv
    obtain ⟨q1, q2, q3'⟩ := good_err (S := S) (at_ := at_) (by rw [e0]; exact z20)
    rw [q1, q2, q3', e0]
    simp only [rn0, rn1, rn2, reduceIte, Nat.reduceEqDiff, Nat.reduceAdd, Nat.reduceMul, Nat.reduceSub, Nat.reduceLeDiff, Nat.reduceLT, w2, eo, ex0, ex1]
    refine step_new (vs := wk0) (by omega) (by omega) rfl (by simp only [rn0, rn1, rn2, reduceIte, Nat.reduceEqDiff, Nat.reduceAdd, Nat.reduceMul, Nat.reduceSub, Nat.reduceLeDiff, Nat.reduceLT]; rfl) rfl rfl rfl fun g4 hx4 => ?_
    have n4 := hx4.next
    have f4 := hx4.floor
    simp only [rn0, rn1, rn2, reduceIte, Nat.reduceEqDiff, Nat.reduceAdd, Nat.reduceMul, Nat.reduceSub, Nat.reduceLeDiff, Nat.reduceLT, z20, build_rng0]
    refine step_store (b := g1.next) (off := 0) (vs := [.int .i64 0, .int .i64 0]) rfl (by rw [hx4.old _ (by omega)]; exact q3) (by omega) (by omega) rfl rfl rfl (by simp) fun g6 hs6 => ?_
    rw [splice_all (by rfl)] at hs6
    simp only [rn0, rn1, rn2, reduceIte, Nat.reduceEqDiff, Nat.reduceAdd, Nat.reduceMul, Nat.reduceSub, Nat.reduceLeDiff, Nat.reduceLT, res_two, hs6.row.whole (n := 2) rfl]
  · have e0 : errV S at_ = 11 := errV_3 hf hv hz
    obtain ⟨q1, q2, q3'⟩ := good_err (S := S) (at_ := at_) (by rw [e0]; exact z110)
    rw [q1, q2, q3', e0]
    simp only [rn0, rn1, rn2, reduceIte, Nat.reduceEqDiff, Nat.reduceAdd, Nat.reduceMul, Nat.reduceSub, Nat.reduceLeDiff, Nat.reduceLT, w2, eo, ex0, ex1]
    refine step_new (vs := wk0) (by omega) (by omega) rfl (by simp only [rn0, rn1, rn2, reduceIte, Nat.reduceEqDiff, Nat.reduceAdd, Nat.reduceMul, Nat.reduceSub, Nat.reduceLeDiff, Nat.reduceLT]; rfl) rfl rfl rfl fun g4 hx4 => ?_
    have n4 := hx4.next
    have f4 := hx4.floor
    simp only [rn0, rn1, rn2, reduceIte, Nat.reduceEqDiff, Nat.reduceAdd, Nat.reduceMul, Nat.reduceSub, Nat.reduceLeDiff, Nat.reduceLT, z110, build_rng0]
    refine step_store (b := g1.next) (off := 0) (vs := [.int .i64 0, .int .i64 0]) rfl (by rw [hx4.old _ (by omega)]; exact q3) (by omega) (by omega) rfl rfl rfl (by simp) fun g6 hs6 => ?_
    rw [splice_all (by rfl)] at hs6
    simp only [rn0, rn1, rn2, reduceIte, Nat.reduceEqDiff, Nat.reduceAdd, Nat.reduceMul, Nat.reduceSub, Nat.reduceLeDiff, Nat.reduceLT, res_two, hs6.row.whole (n := 2) rfl]
  · have hG := good_of hf
    have e0 : errV S at_ = 0 := errV_4 hf hv hz
    obtain ⟨q1, q2, q3'⟩ := good_ok e0
    rw [q1, q2, q3']
    have how := wk_one hy (tv := tv) hone
    obtain ⟨va, hva⟩ : ∃ va : Nat, at_ = (va : Int) := ⟨at_.toNat, by unfold InV at hv; omega⟩
    subst hva
    have hvn : va < S.nv := by unfold InV at hv; omega
    simp only [Int.toNat_natCast]
    simp only [rn0, rn1, rn2, reduceIte, Nat.reduceEqDiff, Nat.reduceAdd, Nat.reduceMul, Nat.reduceSub, Nat.reduceLeDiff, Nat.reduceLT, w2, eo, ex0, ex1]
    refine step_new (vs := wkL S wv vv sv tv) (by omega) (by omega) rfl (by simp only [rn0, rn1, rn2, reduceIte, Nat.reduceEqDiff, Nat.reduceAdd, Nat.reduceMul, Nat.reduceSub, Nat.reduceLeDiff, Nat.reduceLT]; rfl) how rfl rfl fun g4 hx4 => ?_
    have n4 := hx4.next
    have f4 := hx4.floor
    have sub4 := sub3.trans hx4.sub
    have htr4 : TruthsR g4 S tv (truthsS S) := Cells.mono htr hx4.sub
    have q4 : g4.get g1.next = some (.row [.int .i64 0, .int .i64 0] true 0) := by rw [hx4.old _ (by omega)]; exact q3
    have eg := goodHours_c (n := n) (h := g4) (by omega) (by omega) (hy.mono sub4) hone hG (truths_len hG) (fun t ht => (truths_mem.1 ht).1.1) htr4 hvn
    change call n _ _ g4 = some (.tuple ⟨[.agg ⟨[.int .i64 (gLo (S.vb va) (gAll S va)), .int .i64 (gHi (S.vb va) (gAll S va))]⟩, .bool (decide (gAll S va ≠ []))]⟩, g4) at eg
    by_cases c : gAll S va = []
    · have d0 : decide (gAll S va ≠ []) = false := decide_eq_false (by simpa using c)
      rw [if_pos c, c, gLo_nil, gHi_nil]
      rw [d0, c, gLo_nil, gHi_nil] at eg
      simp only [rn0, rn1, rn2, reduceIte, Nat.reduceEqDiff, Nat.reduceAdd, Nat.reduceMul, Nat.reduceSub, Nat.reduceLeDiff, Nat.reduceLT, hx4.row.whole (n := 8) rfl, eg, ex0, ex1]
      refine step_new (vs := [.int .i64 0, .int .i64 0]) (by omega) (by omega) rfl (by simp only [rn0, rn1, rn2, reduceIte, Nat.reduceEqDiff, Nat.reduceAdd, Nat.reduceMul, Nat.reduceSub, Nat.reduceLeDiff, Nat.reduceLT]; rfl) rfl rfl rfl fun g5 hx5 => ?_
      have n5 := hx5.next
      have f5 := hx5.floor
      simp only [rn0, rn1, rn2, reduceIte, Nat.reduceEqDiff, Nat.reduceAdd, Nat.reduceMul, Nat.reduceSub, Nat.reduceLeDiff, Nat.reduceLT, build_rng0]
      refine step_store (b := g1.next) (off := 0) (vs := [.int .i64 0, .int .i64 0]) rfl (by rw [hx5.old _ (by omega)]; exact q4) (by omega) (by omega) rfl rfl rfl (by simp) fun g6 hs6 => ?_
      rw [splice_all (by rfl)] at hs6
      simp only [rn0, rn1, rn2, reduceIte, Nat.reduceEqDiff, Nat.reduceAdd, Nat.reduceMul, Nat.reduceSub, Nat.reduceLeDiff, Nat.reduceLT, res_two, hs6.row.whole (n := 2) rfl]
    · have d0 : decide (gAll S va ≠ []) = true := decide_eq_true c
      rw [if_neg c]
      rw [d0] at eg
      simp only [rn0, rn1, rn2, reduceIte, Nat.reduceEqDiff, Nat.reduceAdd, Nat.reduceMul, Nat.reduceSub, Nat.reduceLeDiff, Nat.reduceLT, hx4.row.whole (n := 8) rfl, eg, ex0, ex1]
      refine step_new (vs := [.int .i64 (gLo (S.vb va) (gAll S va)), .int .i64 (gHi (S.vb va) (gAll S va))]) (by omega) (by omega) rfl (by simp only [rn0, rn1, rn2, reduceIte, Nat.reduceEqDiff, Nat.reduceAdd, Nat.reduceMul, Nat.reduceSub, Nat.reduceLeDiff, Nat.reduceLT]; rfl) rfl rfl rfl fun g5 hx5 => ?_
      have n5 := hx5.next
      have f5 := hx5.floor
      simp only [rn0, rn1, rn2, reduceIte, Nat.reduceEqDiff, Nat.reduceAdd, Nat.reduceMul, Nat.reduceSub, Nat.reduceLeDiff, Nat.reduceLT, hx5.row.whole (n := 2) rfl]
      refine step_store (b := g1.next) (off := 0) (vs := [.int .i64 (gLo (S.vb va) (gAll S va)), .int .i64 (gHi (S.vb va) (gAll S va))]) rfl (by rw [hx5.old _ (by omega)]; exact q4) (by omega) (by omega) rfl rfl rfl (by simp) fun g6 hs6 => ?_
      rw [splice_all (by rfl)] at hs6
      simp only [rn0, rn1, rn2, reduceIte, Nat.reduceEqDiff, Nat.reduceAdd, Nat.reduceMul, Nat.reduceSub, Nat.reduceLeDiff, Nat.reduceLT, res_two, hs6.row.whole (n := 2) rfl]
theorem verd_one {S : MS} {v : Nat} {hh kk : Int} {L : List (Nat → Int)} (hL : L ≠ []) : verdS S v hh kk L = 1 ↔ ∀ t, t ∈ L → kindS S t v hh = kk := by
  obtain ⟨t, ht⟩ := List.exists_mem_of_ne_nil _ hL
  unfold verdS
  by_cases c1 : ∀ t, t ∈ L → kindS S t v hh ≠ kk
  · rw [if_pos c1]
    exact ⟨fun e => absurd e (by decide), fun q => absurd (q t ht) (c1 t ht)⟩
  · rw [if_neg c1]
    by_cases c2 : ∀ t, t ∈ L → kindS S t v hh = kk
    · rw [if_pos c2]; exact ⟨fun _ => c2, fun _ => rfl⟩
    · rw [if_neg c2]; exact ⟨fun e => absurd e (by decide), fun q => absurd q c2⟩
theorem kind_up {S : MS} {u : Nat → Int} (hG : Good S) (hu : InU S u) {v : Nat} (hv : v < S.nv) {i : Nat} : ∀ d, i + d < hoursN S v → kindS S u v (S.vb v + (i : Int)) ≤ kindS S u v (S.vb v + ((i + d : Nat) : Int))
  | 0, _ => Int.le_refl _
  | d + 1, hd => by
    have h1 := kind_up hG hu hv (i := i) d (by omega)
    have o1 := hour_at hG hv (i := i + d) (by omega)
    have o2 := hour_at hG hv (i := i + d + 1) (by omega)
    have ee : S.vb v + ((i + d + 1 : Nat) : Int) = S.vb v + ((i + d : Nat) : Int) + 1 := by omega
    have h2 := kind_next hG hu o1 (by rw [← ee]; exact o2)
    rw [← ee] at h2
    exact Int.le_trans h1 h2
theorem good_mid {S : MS} (hG : Good S) {v : Nat} (hv : v < S.nv) {L : List (Nat → Int)} (hL : L ≠ []) (hin : ∀ t, t ∈ L → InU S t) {a b c : Nat} (h1 : a ≤ b) (h2 : b ≤ c) (h3 : c < hoursN S v) (ha : verdS S v (S.vb v + (a : Int)) 1 L = 1) (hc : verdS S v (S.vb v + (c : Int)) 1 L = 1) : verdS S v (S.vb v + (b : Int)) 1 L = 1 := by
  rw [verd_one hL] at ha hc ⊢
  intro t ht
  have k1 := kind_up hG (hin t ht) hv (i := a) (b - a) (by omega)
  have k2 := kind_up hG (hin t ht) hv (i := b) (c - b) (by omega)
  rw [show a + (b - a) = b by omega, ha t ht] at k1
  rw [show b + (c - b) = c by omega, hc t ht] at k2
  omega
theorem pick_run {p : Nat → Prop} : ∀ (k : Nat), (∀ a b c, a ≤ b → b ≤ c → c < k → p a → p c → p b) → pickL p k ≠ [] → ∃ a, (∀ i, i < (pickL p k).length → atL (pickL p k) i = ((a + i : Nat) : Int)) ∧ a + (pickL p k).length ≤ k ∧ ∀ x, x < k → (p x ↔ a ≤ x ∧ x < a + (pickL p k).length)
  | 0, _, h => absurd rfl h
  | k + 1, hg, h => by
    by_cases c : p k
    · rw [pick_yes c] at h ⊢
      by_cases c0 : pickL p k = []
      · refine ⟨k, ?_, by rw [c0]; simp, ?_⟩
        · rw [c0]
          intro i hi
          simp only [List.nil_append, List.length_singleton] at hi
          obtain rfl : i = 0 := by omega
          rfl
        · rw [c0]
          intro x hx
          simp only [List.nil_append, List.length_singleton]
          constructor
          · intro hp
            by_cases e : x = k
            · omega
            · obtain ⟨i, i1, i2⟩ := pick_has (p := p) (k := k) (show x < k by omega) hp
              rw [c0] at i1
              exact absurd i1 (Nat.not_lt_zero _)
          · intro q
            obtain rfl : x = k := by omega
            exact c
      · obtain ⟨a, h1, h2, h3⟩ := pick_run k (fun a b c h1 h2 h3 => hg a b c h1 h2 (by omega)) c0
        have hpos : 0 < (pickL p k).length := List.length_pos_iff.2 c0
        have hpa : p a := (h3 a (by omega)).2 ⟨Nat.le_refl _, by omega⟩
        have hend : a + (pickL p k).length = k := by
          apply Classical.byContradiction
          intro hne
          have := (h3 (a + (pickL p k).length) (by omega)).1 (hg a _ k (by omega) (by omega) (by omega) hpa c)
          omega
        refine ⟨a, fun i hi => ?_, by rw [List.length_append, List.length_singleton]; omega, fun x hx => ?_⟩
        · rw [List.length_append, List.length_singleton] at hi
          by_cases e : i < (pickL p k).length
          · rw [at_append e, h1 i e]
          · obtain rfl : i = (pickL p k).length := by omega
            rw [at_last, hend]
        · rw [List.length_append, List.length_singleton]
          by_cases e : x = k
          · subst e
            exact ⟨fun _ => ⟨by omega, by omega⟩, fun _ => c⟩
          · rw [h3 x (by omega)]
            omega
    · rw [pick_no c] at h ⊢
      obtain ⟨a, h1, h2, h3⟩ := pick_run k (fun a b c h1 h2 h3 => hg a b c h1 h2 (by omega)) h
      refine ⟨a, h1, by omega, fun x hx => ?_⟩
      by_cases e : x = k
      · subst e
        exact ⟨fun q => absurd q c, fun q => by omega⟩
      · exact h3 x (by omega)
theorem gAll_run {S : MS} (hG : Good S) {v : Nat} (hv : v < S.nv) (hz : truthsS S ≠ []) (hne : gAll S v ≠ []) : ∃ a : Nat, a + (gAll S v).length ≤ hoursN S v ∧ 0 < (gAll S v).length ∧ gLo (S.vb v) (gAll S v) = S.vb v + (a : Int) ∧ gHi (S.vb v) (gAll S v) = S.vb v + ((a + (gAll S v).length - 1 : Nat) : Int) ∧ ∀ x, x < hoursN S v → (verdS S v (S.vb v + (x : Int)) 1 (truthsS S) = 1 ↔ a ≤ x ∧ x < a + (gAll S v).length) := by
  obtain ⟨a, h1, h2, h3⟩ := pick_run (p := fun i => verdS S v (S.vb v + (i : Int)) 1 (truthsS S) = 1) (hoursN S v) (fun a b c k1 k2 k3 ha hc => good_mid hG hv hz (fun t ht => (truths_mem.1 ht).1.1) k1 k2 k3 ha hc) hne
  have e : pickL (fun i => verdS S v (S.vb v + (i : Int)) 1 (truthsS S) = 1) (hoursN S v) = gAll S v := rfl
  simp only [e] at h1 h2 h3
  have hpos : 0 < (gAll S v).length := List.length_pos_iff.2 hne
  refine ⟨a, h2, hpos, ?_, ?_, h3⟩
  · unfold gLo
    rw [if_neg hne, h1 0 hpos, Nat.add_zero]
  · unfold gHi
    rw [if_neg hne, h1 _ (by omega)]
    congr 2
    omega

end Go.Vm.St

namespace Go.Vm
variable {P : Program} {N : Nat} {f : Fr} {h : AHeap} {ty t u e : TypeId} {x y : Operand}
end Go.Vm
namespace Go.Vm.St
open Go.Proofs Go.Vm.Vat
set_option linter.unusedSimpArgs false
set_option linter.unusedVariables false
set_option maxRecDepth 10000
variable {n : Nat} {h : AHeap}
def s46 : SCode := (.seq (.ops [⟨(some 4), none, .alloc [(.int .i64 (0)), (.int .i64 (0))]⟩]) (.seq (.ops [⟨(some 5), none, .mov (T 0)⟩, ⟨(some 6), none, .mov (T 1)⟩, ⟨(some 7), none, .build #[(0, 1), (1, 1)] [(.int .i64 (0)), (.int .i64 (0))] [0, 1] [(T 5), (T 6)]⟩, ⟨none, none, .store 2 (T 4) (T 7)⟩]) .ret))
theorem fok46 : FnOk Try.prog 46 8 s46 [.cellN 4 2] := ⟨Try.f46, _, Try.func46, rfl, Try.ntmps46, by kernel_rfl, by kernel_rfl⟩
theorem between_c (hn : 1 ≤ n) (hr : h.next + 2 < far) (lo hi : Int) : call n (.func (.func 46) #[] #[]) [.int .i64 lo, .int .i64 hi] h = some (.agg ⟨[.int .i64 lo, .int .i64 hi]⟩, h) := by
  obtain ⟨n, rfl⟩ : ∃ p, n = p + 1 := ⟨n - 1, by omega⟩
  refine call_plain0 fok46 rfl rfl (by simp) rfl ?_
  have hr : h.shutAll.next + 2 < far := hr
  have hfl : h.shutAll.floor ≤ h.shutAll.next := Nat.le_refl _
  generalize h.shutAll = h at hr hfl
  simp only [s46, W_seq, W_ops]
  refine ops_alloc (by omega) rfl fun h2 hx2 => ?_
  have n2 := hx2.next
  have f2 := hx2.floor
  simp only [rn0, rn1, rn2, reduceIte, Nat.reduceEqDiff, Nat.reduceAdd, Nat.reduceMul, Nat.reduceSub, Nat.reduceLeDiff, Nat.reduceLT, build_range]
  refine step_store (vs := [.int .i64 lo, .int .i64 hi]) rfl hx2.get (by omega) (by omega) rfl rfl rfl (by simp) fun h3 hs => ?_
  rw [splice2] at hs
  simp only [rn0, rn1, rn2, reduceIte, Nat.reduceEqDiff, Nat.reduceAdd, Nat.reduceMul, Nat.reduceSub, Nat.reduceLeDiff, Nat.reduceLT, hs.row.whole (n := 2) rfl]

def optI : Option Nat → Int → Int
  | some v, _ => (v : Int)
  | none, d => d

def noSm (S : MS) : MS := { S with ns := 0 }
theorem noSm_good {S : MS} (hG : Good S) : Good (noSm S) := ⟨⟨hG.lim.1, hG.lim.2.1, Nat.zero_le _⟩, ⟨hG.args.head, hG.args.warm, hG.args.vat, fun i hi => absurd hi (Nat.not_lt_zero _)⟩, hG.few⟩
open Classical in
theorem noSm_ref {S : MS} {x : Nat → Int} : x ∈ refTruths (noSm S) ↔ x ∈ (List.range (manyS S).toNat).map (nthU S) := by
  unfold refTruths refTo
  rw [List.mem_filter]
  constructor
  · exact fun q => q.1
  · exact fun q => ⟨q, decide_eq_true fun j hj => absurd hj (Nat.not_lt_zero _)⟩
open Classical in
theorem noSm_tru {S : MS} {x : Nat → Int} : x ∈ truthsS (noSm S) ↔ x ∈ enumB (uLo S) (uHi S) (numU S) 0 fun _ => 0 := by
  unfold truthsS
  rw [List.mem_filter]
  constructor
  · exact fun q => q.1
  · exact fun q => ⟨q, decide_eq_true fun j hj => absurd hj (Nat.not_lt_zero _)⟩
theorem all_perm {S : MS} (hG : Good S) : ((List.range (manyS S).toNat).map (nthU S)).Perm (enumB (uLo S) (uHi S) (numU S) 0 fun _ => 0) := by
  refine (perm_of_sub _ _ (enumB_nodup _ _ _) (fun x hx => ?_) ?_).symm
  · exact noSm_ref.1 ((refTruths_mem (noSm_good hG)).2 (noSm_tru.2 hx))
  · have h1 := enumB_len (lo := uLo S) (hi := uHi S) (numU S) 0 (fun _ => 0) fun k _ hk => (hG.u k (by omega)).2.1
    have h2 := sizeN_prod (lo := uLo S) (hi := uHi S) (numU S) 0
    simp only [Nat.zero_add, sizeN, Int.one_mul] at h2
    have h3 := many_size hG.args
    have h4 := hG.few
    rw [List.length_map, List.length_range]
    omega
def cntS (S : MS) (v : Nat) (hh kk : Int) (L : List (Nat → Int)) : Nat := cntB (fun t => kindS S t v hh) L kk
def lvS (S : MS) (v : Nat) (hh : Int) (L : List (Nat → Int)) : Int := max (max (cntS S v hh 0 L : Int) (cntS S v hh 1 L)) (cntS S v hh 2 L)
structure Sm where
  v : Int
  h : Int
  l : Int


noncomputable def gL (S : MS) (w : Int) : Int := if goodE S w = 10 then 9 else goodLo S w
noncomputable def gH (S : MS) (w : Int) : Int := if goodE S w = 10 then 0 else goodHi S w
noncomputable def gB (S : MS) (w : Int) : Bool := decide (goodE S w = 10 ∨ goodE S w = 0 ∧ goodLo S w ≤ goodHi S w)
theorem rd_1' {S : Nat → Prop} {f : Go.Vm.Fr} {x : Operand} : readsIn S f (.load1 x) = ∀ ad, val f x = .pointer (some ad) → S ad.block := id rfl
def s61 : SCode := (.seq (.ops [⟨(some 2), none, .box (T 0)⟩, ⟨(some 4), none, .alloc [(.int .i64 (0)), (.int .i64 (0))]⟩, ⟨(some 5), none, .mov (.const (.bool false))⟩]) (.seq (.ops [⟨(some 9), none, .loadN 7 (T 2)⟩, ⟨(some 10), none, .call (.func 26) [(T 9)]⟩, ⟨(some 11), none, .mov (T 1)⟩, ⟨(some 12), none, .call (.func 44) [(T 10), (T 11)]⟩, ⟨(some 8), none, .mov (T 12)⟩, ⟨(some 13), none, .extract 0 (T 8)⟩, ⟨(some 14), none, .extract 1 (T 8)⟩, ⟨(some 6), none, .alloc [(.int .i64 (0)), (.int .i64 (0))]⟩, ⟨none, none, .store 2 (T 6) (T 13)⟩, ⟨(some 7), none, .mov (T 14)⟩]) (.seq (.seq (.ops [⟨(some 15), none, .mov (T 7)⟩, ⟨(some 16), none, .int2 .eql (T 15) (.const (.int .i64 (10)))⟩]) (.cond (T 16) (.seq (.ops [⟨(some 17), none, .call (.func 46) [(.const (.int .i64 (9))), (.const (.int .i64 (0)))]⟩, ⟨none, none, .store 2 (T 4) (T 17)⟩, ⟨(some 5), none, .mov (.const (.bool true))⟩]) .ret) .skip)) (.seq (.draw [⟨.rd1, ⟨(some 18), none, .loadN 2 (T 6)⟩⟩, ⟨.free, ⟨(some 19), none, .mov (T 7)⟩⟩, ⟨.free, ⟨(some 20), none, .int2 .eql (T 19) (.const (.int .i64 (0)))⟩⟩, ⟨.free, ⟨(some 21), none, .mov (T 20)⟩⟩, ⟨.free, ⟨(some 22), (some (21, true)), .fieldAddr 0 (T 6)⟩⟩, ⟨.rd, ⟨(some 23), (some (21, true)), .load1 (T 22)⟩⟩, ⟨.free, ⟨(some 24), (some (21, true)), .fieldAddr 1 (T 6)⟩⟩, ⟨.rd, ⟨(some 25), (some (21, true)), .load1 (T 24)⟩⟩, ⟨.free, ⟨(some 26), (some (21, true)), .int2 .leq (T 23) (T 25)⟩⟩, ⟨.free, ⟨(some 27), none, .pick (T 21) (T 26) (.const (.bool false))⟩⟩, ⟨.up, ⟨none, none, .store 2 (T 4) (T 18)⟩⟩, ⟨.free, ⟨(some 5), none, .mov (T 27)⟩⟩]) .ret))))
theorem fok61 : FnOk Try.prog 61 28 s61 [.cellN 4 2, .tmp 5] := ⟨Try.f61, _, Try.func61, rfl, Try.ntmps61, by kernel_rfl, by kernel_rfl⟩
set_option maxHeartbeats 2000000 in
theorem goodW_c (hn : 2600 ≤ n) (hr : h.next + 2000000 < far) {wv vv sv : Value} {S : MS} (hy : SteepR h wv vv sv S) (hT : ThinS S) (w : Int) :
    call n (.func (.func 61) #[] #[]) [.agg ⟨stL S wv vv sv⟩, .int .i64 w] h = some (.tuple ⟨[.agg ⟨[.int .i64 (gL S w), .int .i64 (gH S w)]⟩, .bool (gB S w)]⟩, h) := by
  obtain ⟨n, rfl⟩ : ∃ p, n = p + 1 := ⟨n - 1, by omega⟩
  refine call_plain0 fok61 rfl rfl (by simp) rfl ?_
  have hy := hy.shut
  have hr : h.shutAll.next + 2000000 < far := hr
  have hfl : h.shutAll.floor ≤ h.shutAll.next := Nat.le_refl _
  generalize h.shutAll = h at hy hr hfl
  simp only [s61, W_seq, W_ops]
  refine ops_box (cs := stL S wv vv sv) (by omega) rfl hy.one fun g1 hx1 => ?_
  have n1 := hx1.next
  have f1 := hx1.floor
  refine ops_alloc (cs := [.int .i64 0, .int .i64 0]) (by omega) rfl fun g2 hx2 => ?_
  have n2 := hx2.next
  have f2 := hx2.floor
  have sub2 : Sub All h g2 := hx1.sub.trans hx2.sub
  have hy2 := hy.mono sub2
  have w2 := (hx1.row.mono hx2.sub).whole (n := 7) rfl
  obtain ⟨w3, v3, s3, g3, e3, hy3, o3, u3, m3, f3⟩ := steepL_c (n := n) (h := g2) (by omega) (by omega) (by omega) hy2 hT
  have eg := goodP_c (n := n) (h := g3) (by omega) (by omega) hy3 hT w
  have q3 : g3.get g1.next = some (.row [.int .i64 0, .int .i64 0] true 0) := by rw [o3 _ (by omega)]; exact hx2.get
  simp only [rn0, rn1, rn2, reduceIte, Nat.reduceEqDiff, Nat.reduceAdd, Nat.reduceMul, Nat.reduceSub, Nat.reduceLeDiff, Nat.reduceLT, w2, e3, eg, ex0, ex1]
  refine step_new (vs := [.int .i64 (goodLo S w), .int .i64 (goodHi S w)]) (by omega) (by omega) rfl (by simp only [rn0, rn1, rn2, reduceIte, Nat.reduceEqDiff, Nat.reduceAdd, Nat.reduceMul, Nat.reduceSub, Nat.reduceLeDiff, Nat.reduceLT]; rfl) rfl rfl rfl fun g4 hx4 => ?_
  have n4 := hx4.next
  have f4 := hx4.floor
  have q4 : g4.get g1.next = some (.row [.int .i64 0, .int .i64 0] true 0) := by rw [hx4.old _ (by omega)]; exact q3
  by_cases c : goodE S w = 10
  · have e1 : gL S w = 9 := if_pos c
    have e2 : gH S w = 0 := if_pos c
    have e3 : gB S w = true := decide_eq_true (.inl c)
    rw [e1, e2, e3]
    have eb := between_c (n := n) (h := g4) (by omega) (by omega) 9 0
    simp only [rn0, rn1, rn2, reduceIte, Nat.reduceEqDiff, Nat.reduceAdd, Nat.reduceMul, Nat.reduceSub, Nat.reduceLeDiff, Nat.reduceLT, c, eb]
    refine step_store (b := g1.next) (off := 0) (vs := [.int .i64 9, .int .i64 0]) rfl q4 (by omega) (by omega) rfl rfl rfl (by simp) fun g5 hs5 => ?_
    rw [splice_all (by rfl)] at hs5
    simp only [rn0, rn1, rn2, reduceIte, Nat.reduceEqDiff, Nat.reduceAdd, Nat.reduceMul, Nat.reduceSub, Nat.reduceLeDiff, Nat.reduceLT, res_two, hs5.row.whole (n := 2) rfl]
  · have e1 : gL S w = goodLo S w := if_neg c
    have e2 : gH S w = goodHi S w := if_neg c
    have nb : (g3.next = g1.next) = False := eq_false (by omega)
    have t4 := hx4.row
    rw [e1, e2]
    by_cases c0 : goodE S w = 0
    · have e3 : gB S w = decide (goodLo S w ≤ goodHi S w) := by
        unfold gB
        exact decide_eq_decide.2 ⟨fun q => q.elim (fun q => absurd q c) fun q => q.2, fun q => .inr ⟨c0, q⟩⟩
      rw [e3]
      have z10 : ¬ (0 : Int) = 10 := by decide
      simp only [rn0, rn1, rn2, reduceIte, Nat.reduceEqDiff, Nat.reduceAdd, Nat.reduceMul, Nat.reduceSub, Nat.reduceLeDiff, Nat.reduceLT, c0, z10]
      refine W_draw (fun i => i ≠ g1.next) ?_
      simp only [rn0, rn1, rn2, reduceIte, Nat.reduceEqDiff, Nat.reduceAdd, Nat.reduceMul, Nat.reduceSub, Nat.reduceLeDiff, Nat.reduceLT, rd_1', rd_N, rd_ne, t4.whole (n := 2) rfl, t4.ld, Nat.zero_add, List.getElem?_cons_zero, List.getElem?_cons_succ, d_guard, dg_tt, dg_tf, dg_ft, dg_ff, ne_eq, nb, not_false_eq_true]
      refine up_store (b := g1.next) (off := 0) (vs := [.int .i64 (goodLo S w), .int .i64 (goodHi S w)]) rfl q4 (by omega) (by omega) rfl rfl rfl (by simp) (fun g hs => fun i cs w gr hi hg => by rw [hs.old i hi]; exact hg) fun g5 hs5 => ?_
      rw [splice_all (by rfl)] at hs5
      simp only [rn0, rn1, rn2, reduceIte, Nat.reduceEqDiff, Nat.reduceAdd, Nat.reduceMul, Nat.reduceSub, Nat.reduceLeDiff, Nat.reduceLT, res_two, hs5.row.whole (n := 2) rfl]
    · have e3 : gB S w = false := decide_eq_false fun q => q.elim (fun q => c q) fun q => c0 q.1
      rw [e3]
      simp only [rn0, rn1, rn2, reduceIte, Nat.reduceEqDiff, Nat.reduceAdd, Nat.reduceMul, Nat.reduceSub, Nat.reduceLeDiff, Nat.reduceLT, c]
      refine W_draw (fun i => i ≠ g1.next) ?_
      simp only [rn0, rn1, rn2, reduceIte, Nat.reduceEqDiff, Nat.reduceAdd, Nat.reduceMul, Nat.reduceSub, Nat.reduceLeDiff, Nat.reduceLT, rd_1', rd_N, rd_ne, t4.whole (n := 2) rfl, t4.ld, Nat.zero_add, List.getElem?_cons_zero, List.getElem?_cons_succ, d_guard, dg_tt, dg_tf, dg_ft, dg_ff, ne_eq, nb, not_false_eq_true, c0]
      refine up_store (b := g1.next) (off := 0) (vs := [.int .i64 (goodLo S w), .int .i64 (goodHi S w)]) rfl q4 (by omega) (by omega) rfl rfl rfl (by simp) (fun g hs => fun i cs w gr hi hg => by rw [hs.old i hi]; exact hg) fun g5 hs5 => ?_
      rw [splice_all (by rfl)] at hs5
      simp only [rn0, rn1, rn2, reduceIte, Nat.reduceEqDiff, Nat.reduceAdd, Nat.reduceMul, Nat.reduceSub, Nat.reduceLeDiff, Nat.reduceLT, res_two, hs5.row.whole (n := 2) rfl]
theorem g_un {X : Cx} {d : Option Nat} {want : Bool} {op : SOp} {L : List SI} {Q : WPost} {f : Go.Vm.Fr} {m : List Nat} : gW X undef want d op L Q f h m = opsW X L Q (putF f d undef) h m := by
  have : isB want undef = false := rfl
  simp [gW, this]
theorem gAll_nil {S : MS} {v : Nat} : gAll S v = [] ↔ ∀ x, x < hoursN S v → ¬ verdS S v (S.vb v + (x : Int)) 1 (truthsS S) = 1 := by
  constructor
  · intro e x hx hp
    obtain ⟨i, i1, _⟩ := pick_has (p := fun i => verdS S v (S.vb v + (i : Int)) 1 (truthsS S) = 1) hx hp
    have i1 : i < (gAll S v).length := i1
    rw [e] at i1
    exact absurd i1 (Nat.not_lt_zero _)
  · intro hn
    apply Classical.byContradiction
    intro he
    have hpos : 0 < (gAll S v).length := List.length_pos_iff.2 he
    obtain ⟨j, j1, _, j3⟩ := pick_at (p := fun i => verdS S v (S.vb v + (i : Int)) 1 (truthsS S) = 1) (k := hoursN S v) (i := 0) hpos
    exact hn j j1 j3

theorem vats_row {S : MS} {b gr cap : Nat} {w : Bool} (hg : h.get b = some (.row (flatL 4 S.nv (vatC S)) w gr)) : Cells h (.slice (some ⟨b, 0, none⟩) S.nv cap) 4 S.nv (vatC S) := cells_row ⟨w, gr, hg⟩ fun k j hk hj => flatL_get (c := vatC S) hk hj

theorem dg_un {X : Cx} {S : Nat → Prop} {h0 h : AHeap} {k : Kd} {d : Option Nat} {want : Bool} {op : SOp} {L : List DI} {Q : WPost} {f : Go.Vm.Fr} {m : List Nat} : dgW X S h0 undef want k d op L Q f h m = dW X S h0 L Q (putF f d undef) h m := by
  have : isB want undef = false := rfl
  simp [dgW, this]
theorem rowI_congr {m : Nat} {a b : Nat → Int} (he : ∀ i, i < m → a i = b i) : rowI m a = rowI m b := by
  unfold rowI
  refine List.map_congr_left fun i hi => ?_
  rw [he i (List.mem_range.1 hi)]
structure WarmM (g : AHeap) (S : MS) (p b1 b2 c1 : Nat) (v2 : Value) (u : Nat → Int) : Prop where
  row : g.get p = some (.row (trL (.slice (some ⟨b1, 0, none⟩) S.nw c1) v2 (u S.nw)) true 0)
  w : g.get b1 = some (.row (rowI S.nw u) true 1)
  f : S.nv = 0 ∨ ∃ c2, v2 = .slice (some ⟨b2, 0, none⟩) S.nv c2 ∧ g.get b2 = some (.row (rowI S.nv fun v => u (S.nw + 1 + v)) true 1)
theorem WarmM.congr {g : AHeap} {S : MS} {p b1 b2 c1 : Nat} {v2 : Value} {u u' : Nat → Int} (hm : WarmM g S p b1 b2 c1 v2 u) (he : ∀ i, i < numU S → u i = u' i) : WarmM g S p b1 b2 c1 v2 u' := by
  refine ⟨?_, ?_, ?_⟩
  · rw [← he S.nw (by unfold numU; omega)]; exact hm.row
  · rw [← rowI_congr fun i hi => he i (by unfold numU; omega)]; exact hm.w
  · rcases hm.f with h0 | ⟨c2, e, q⟩
    · exact .inl h0
    · exact .inr ⟨c2, e, by rw [← rowI_congr (a := fun v => u (S.nw + 1 + v)) fun i hi => he (S.nw + 1 + i) (by unfold numU; omega)]; exact q⟩
theorem WarmM.tru {g : AHeap} {S : MS} {p b1 b2 c1 : Nat} {x2 : Option Addr} {c2 : Nat} {u : Nat → Int} (hm : WarmM g S p b1 b2 c1 (.slice x2 S.nv c2) u) (h0 : ∀ x, x2 = some x → x.spot = none) : TruR g (.slice (some ⟨b1, 0, none⟩) S.nw c1) (.slice x2 S.nv c2) S u := by
  refine ⟨ints_row hm.w, ?_⟩
  rcases hm.f with h | ⟨c', e, q⟩
  · refine ⟨x2, c2, rfl, h0, .inl h⟩
  · cases e
    exact ints_row q

theorem kind_vals {S : MS} {u : Nat → Int} {v : Nat} {hh : Int} : kindS S u v hh = 0 ∨ kindS S u v hh = 1 ∨ kindS S u v hh = 2 := by
  unfold kindS
  by_cases c1 : u S.nw < warmS S u v hh
  · rw [if_pos c1]; omega
  · rw [if_neg c1]
    by_cases c2 : blueS S u v hh < S.vn v
    · rw [if_pos c2]; omega
    · rw [if_neg c2]; omega
structure SmOk (S : MS) (L : List (Nat → Int)) (st : Sm) : Prop where
  at_ : ∃ v0 : Nat, st.v = (v0 : Int) ∧ HourOk S v0 st.h ∧ st.l = lvS S v0 st.h L
end Go.Vm.St

namespace Go.Vm
open Go.Vm.Vat
set_option linter.unusedSimpArgs false
set_option linter.unusedVariables false
def combs (N : Nat) : Nat → Nat → List (List Int)
  | 0, _ => [[]]
  | d + 1, a => (List.range (N - a)).flatMap fun (k : Nat) => (combs N d (a + k + 1)).map fun l => ((a + k : Nat) : Int) :: l
theorem combs_len {N : Nat} : ∀ {d a : Nat} {l : List Int}, l ∈ combs N d a → l.length = d
  | 0, a, l, h => by
    have : l = [] := by simpa [combs] using h
    rw [this]; rfl
  | d + 1, a, l, h => by
    simp only [combs, List.mem_flatMap, List.mem_map] at h
    obtain ⟨k, _, l', h1, rfl⟩ := h
    rw [List.length_cons, combs_len h1]
theorem combs_inc {N : Nat} : ∀ {d a : Nat} {l : List Int}, l ∈ combs N d a → l.Pairwise (fun x y => x < y) ∧ ∀ x, x ∈ l → (a : Int) ≤ x ∧ x < N
  | 0, a, l, h => by
    have : l = [] := by simpa [combs] using h
    rw [this]
    exact ⟨List.Pairwise.nil, fun x hx => by cases hx⟩
  | d + 1, a, l, h => by
    simp only [combs, List.mem_flatMap, List.mem_map, List.mem_range] at h
    obtain ⟨k, hk, l', h1, rfl⟩ := h
    obtain ⟨h2, h3⟩ := combs_inc h1
    refine ⟨List.Pairwise.cons (fun y hy => ?_) h2, fun x hx => ?_⟩
    · have := h3 y hy
      omega
    · rcases List.mem_cons.1 hx with rfl | hx
      · omega
      · have := h3 x hx
        omega
theorem lex_cons {x : Int} {l l' : List Int} {d : Nat} (h : LexLt (atL l) (atL l') d) : LexLt (atL (x :: l)) (atL (x :: l')) (d + 1) := by
  obtain ⟨j, h1, h2, h3⟩ := h
  refine ⟨j + 1, by omega, fun i hi => ?_, h3⟩
  cases i with
  | zero => rfl
  | succ i => exact h2 i (by omega)
theorem lex_head {x y : Int} {l l' : List Int} {d : Nat} (h : x < y) : LexLt (atL (x :: l)) (atL (y :: l')) (d + 1) := ⟨0, by omega, fun i hi => by omega, h⟩
theorem combs_lex {N : Nat} : ∀ {d a : Nat}, (combs N d a).Pairwise fun l l' => LexLt (atL l) (atL l') d
  | 0, a => by simp [combs]
  | d + 1, a => by
    simp only [combs]
    rw [List.pairwise_flatMap]
    refine ⟨fun k _ => ?_, ?_⟩
    · rw [List.pairwise_map]
      exact combs_lex.imp fun h => lex_cons h
    · refine List.pairwise_lt_range.imp fun {k k'} hk x hx y hy => ?_
      obtain ⟨l, _, rfl⟩ := List.mem_map.1 hx
      obtain ⟨l', _, rfl⟩ := List.mem_map.1 hy
      exact lex_head (by omega)
open Classical in
noncomputable def selF (p : Nat → Prop) : Nat → Nat → List Int
  | _, 0 => []
  | a, k + 1 => if p a then (a : Int) :: selF p (a + 1) k else selF p (a + 1) k
theorem sel_snoc {p : Nat → Prop} : ∀ {k a : Nat}, (p (a + k) → selF p a (k + 1) = selF p a k ++ [((a + k : Nat) : Int)]) ∧ (¬ p (a + k) → selF p a (k + 1) = selF p a k)
  | 0, a => by
    constructor
    · intro h
      simp only [selF]
      rw [if_pos (show p a from h)]; rfl
    · intro h
      simp only [selF]
      rw [if_neg (show ¬ p a from h)]
  | k + 1, a => by
    obtain ⟨h1, h2⟩ := sel_snoc (p := p) (k := k) (a := a + 1)
    have e : a + 1 + k = a + (k + 1) := by omega
    rw [e] at h1 h2
    constructor
    · intro h
      rw [selF, h1 h]
      conv => rhs; rw [selF]
      by_cases c : p a
      · rw [if_pos c, if_pos c, List.cons_append]
      · rw [if_neg c, if_neg c]
    · intro h
      rw [selF, h2 h]
      conv => rhs; rw [selF]
theorem pick_sel {p : Nat → Prop} : ∀ k, pickL p k = selF p 0 k
  | 0 => rfl
  | k + 1 => by
    obtain ⟨h1, h2⟩ := sel_snoc (p := p) (k := k) (a := 0)
    rw [Nat.zero_add] at h1 h2
    by_cases c : p k
    · rw [pick_yes c, h1 c, pick_sel k]
    · rw [pick_no c, h2 c, pick_sel k]
theorem combs_up {N d a : Nat} {l : List Int} (h : l ∈ combs N d (a + 1)) : l ∈ combs N d a := by
  cases d with
  | zero => exact h
  | succ d =>
    simp only [combs, List.mem_flatMap, List.mem_map, List.mem_range] at h ⊢
    obtain ⟨k, hk, l', h1, rfl⟩ := h
    refine ⟨k + 1, by omega, l', ?_, ?_⟩
    · rw [show a + (k + 1) + 1 = a + 1 + k + 1 by omega]; exact h1
    · rw [show a + (k + 1) = a + 1 + k by omega]
theorem sel_combs {p : Nat → Prop} : ∀ {k a : Nat}, selF p a k ∈ combs (a + k) (selF p a k).length a
  | 0, a => by simp [selF, combs]
  | k + 1, a => by
    have ih := sel_combs (p := p) (k := k) (a := a + 1)
    have e : a + 1 + k = a + (k + 1) := by omega
    rw [e] at ih
    by_cases c : p a
    · have e1 : selF p a (k + 1) = (a : Int) :: selF p (a + 1) k := by rw [selF, if_pos c]
      rw [e1, List.length_cons]
      simp only [combs, List.mem_flatMap, List.mem_map, List.mem_range]
      exact ⟨0, by omega, _, ih, rfl⟩
    · have e1 : selF p a (k + 1) = selF p (a + 1) k := by rw [selF, if_neg c]
      rw [e1]
      exact combs_up ih
theorem pick_combs {p : Nat → Prop} {N : Nat} : pickL p N ∈ combs N (pickL p N).length 0 := by
  have := sel_combs (p := p) (k := N) (a := 0)
  rw [Nat.zero_add] at this
  rw [pick_sel]
  exact this
theorem pick_mem {p : Nat → Prop} {N : Nat} {x : Int} : x ∈ pickL p N ↔ ∃ j : Nat, j < N ∧ x = (j : Int) ∧ p j := by
  constructor
  · intro hx
    obtain ⟨i, hi, e⟩ := List.getElem_of_mem hx
    obtain ⟨j, j1, j2, j3⟩ := pick_at (p := p) (k := N) hi
    refine ⟨j, j1, ?_, j3⟩
    rw [← j2, ← e]
    unfold atL
    rw [List.getD_eq_getElem?_getD, List.getElem?_eq_getElem hi]; rfl
  · rintro ⟨j, j1, rfl, j3⟩
    obtain ⟨i, i1, i2⟩ := pick_has (p := p) j1 j3
    rw [← i2]
    unfold atL
    rw [List.getD_eq_getElem?_getD, List.getElem?_eq_getElem i1]
    exact List.getElem_mem i1
open Classical in
noncomputable def leaveN (N : Nat) (P : List Int → Prop) : Nat → Option (List Int)
  | 0 => none
  | m + 1 => match leaveN N P m with
    | some l => some l
    | none => (combs N m 0).find? fun l => decide (P l)
section
variable {N : Nat} {P : List Int → Prop}
open Classical in
theorem leaveN_none : ∀ {m : Nat}, leaveN N P m = none → ∀ j, j < m → ∀ l, l ∈ combs N j 0 → ¬ P l
  | 0, _, j, hj => by omega
  | m + 1, h, j, hj => by
    rw [leaveN] at h
    cases e : leaveN N P m with
    | some l => rw [e] at h; cases h
    | none =>
      rw [e] at h
      by_cases c : j = m
      · subst c
        intro l hl hp
        exact List.find?_eq_none.1 h l hl (decide_eq_true hp)
      · exact leaveN_none e j (by omega)
open Classical in
theorem leaveN_some : ∀ {m : Nat} {l : List Int}, leaveN N P m = some l → P l ∧ l ∈ combs N l.length 0 ∧ ∀ l', l' ∈ combs N l'.length 0 → P l' → ¬ SL l' l
  | 0, l, h => by cases h
  | m + 1, l, h => by
    rw [leaveN] at h
    cases e : leaveN N P m with
    | some l0 =>
      rw [e] at h
      have : l0 = l := Option.some.inj h
      subst this
      exact leaveN_some e
    | none =>
      rw [e] at h
      obtain ⟨h1, us, ws, h2, h3⟩ := List.find?_eq_some_iff_append.1 h
      have hl : l ∈ combs N m 0 := by rw [h2]; simp
      have hm := combs_len hl
      refine ⟨of_decide_eq_true h1, by rw [hm]; exact hl, fun l' hl' hp hs => ?_⟩
      rcases hs with hs | ⟨hs1, hs2⟩
      · exact leaveN_none e l'.length (by omega) l' hl' hp
      · rw [hs1, hm] at hl'
        have hpw := combs_lex (N := N) (d := m) (a := 0)
        rw [h2] at hl' hpw
        rw [List.pairwise_append, List.pairwise_cons] at hpw
        rw [hs1, hm] at hs2
        rcases List.mem_append.1 hl' with q | q
        · have := h3 l' q
          rw [decide_eq_true hp] at this
          cases this
        · rcases List.mem_cons.1 q with rfl | q
          · exact lex_irr hs2
          · exact lex_irr (lex_trans hs2 (hpw.2.1.1 l' q))
end
def CovP {τ : Type} (E : List τ) (wr : τ → Nat → Prop) (N : Nat) (l : List Int) : Prop := ∃ t, t ∈ E ∧ ∀ i, i < N → wr t i → (i : Int) ∈ l
theorem pick_pair {p : Nat → Prop} {N : Nat} : (pickL p N).Pairwise fun x y => x < y := (combs_inc pick_combs).1
theorem leave_min {τ : Type} {E : List τ} {wr : τ → Nat → Prop} {N m : Nat} {l : List Int} (h : leaveN N (CovP E wr N) m = some l) :
    (∃ t, t ∈ E ∧ l = pickL (wr t) N) ∧ ∀ t, t ∈ E → ¬ SL (pickL (wr t) N) l := by
  obtain ⟨⟨t, ht, hc⟩, h2, h3⟩ := leaveN_some h
  have hmin : ∀ t, t ∈ E → ¬ SL (pickL (wr t) N) l := fun t ht => h3 _ pick_combs ⟨t, ht, fun i hi hw => pick_mem.2 ⟨i, hi, rfl, hw⟩⟩
  refine ⟨⟨t, ht, ?_⟩, hmin⟩
  have hsub : ∀ x, x ∈ pickL (wr t) N → x ∈ l := fun x hx => by
    obtain ⟨j, j1, rfl, j3⟩ := pick_mem.1 hx
    exact hc j j1 j3
  have hnd : (pickL (wr t) N).Nodup := pick_pair.imp fun {a b} h => by omega
  have hle : l.length ≤ (pickL (wr t) N).length := by
    apply Classical.byContradiction
    intro hn
    exact hmin t ht (.inl (by omega))
  have hp := perm_of_sub _ _ hnd hsub hle
  exact (hp.eq_of_pairwise (fun a b _ _ h1 h2 => absurd h1 (by omega)) pick_pair (combs_inc h2).1).symm
theorem leave_ex {τ : Type} {E : List τ} {wr : τ → Nat → Prop} {N : Nat} (hE : E ≠ []) : ∃ l, leaveN N (CovP E wr N) (N + 1) = some l := by
  obtain ⟨t, ht⟩ := List.exists_mem_of_ne_nil _ hE
  cases e : leaveN N (CovP E wr N) (N + 1) with
  | some l => exact ⟨l, rfl⟩
  | none =>
    have hl := pick_len (p := wr t) N
    exact absurd ⟨t, ht, fun i hi hw => pick_mem.2 ⟨i, hi, rfl, hw⟩⟩ (leaveN_none e (pickL (wr t) N).length (by omega) _ pick_combs)
end Go.Vm

namespace Go.Vm
open Go.Vm.Vat
set_option linter.unusedSimpArgs false
set_option linter.unusedVariables false
variable {h g : AHeap}
def NoB (v : Value) (i : Nat) : Prop := ∀ b m c, v = .slice (some b) m c → i ≠ b.block
def SetR (B : Nat) (g : AHeap) (v : Value) (cur : List Int) : Prop :=
  (v = .slice none 0 0 ∧ cur = []) ∨ ∃ b cs, v = .slice (some ⟨b, 0, none⟩) cur.length unk ∧ g.get b = some (.row cs true 1) ∧ cur.length ≤ cs.length ∧ (∀ i, i < cur.length → cs[i]? = some (.int .i64 (atL cur i))) ∧ allB oneCell cs = true ∧ B ≤ b
theorem SetR.old {B : Nat} {v : Value} {cur : List Int} (hs : SetR B h v cur) (ho : ∀ a k c, v = .slice (some a) k c → a.block < h.next → g.get a.block = h.get a.block) : SetR B g v cur := by
  rcases hs with q | ⟨b, cs, rfl, h1, h2, h3, h4, h5⟩
  · exact .inl q
  · exact .inr ⟨b, cs, rfl, by rw [ho _ _ _ rfl (AHeap.lt_of_get h1)]; exact h1, h2, h3, h4, h5⟩
theorem SetR.ints {B : Nat} {v : Value} {cur : List Int} (hs : SetR B h v cur) : Ints h v cur.length (atL cur) := by
  rcases hs with ⟨rfl, rfl⟩ | ⟨b, cs, rfl, h1, h2, h3, h4, h5⟩
  · exact ⟨none, 0, rfl, fun x e => (by cases e), .inl rfl⟩
  · exact ⟨_, _, rfl, fun x e => (by cases e; rfl), .inr ⟨b, 0, cs, true, 1, rfl, h1, fun k j hk hj => by
      obtain rfl : j = 0 := by omega
      rw [Nat.zero_add, Nat.mul_one, Nat.add_zero]
      exact h3 k hk⟩⟩
theorem SetR.one {B : Nat} {v : Value} {cur : List Int} (hs : SetR B h v cur) : oneCell v = true := by
  rcases hs with ⟨rfl, rfl⟩ | ⟨b, cs, rfl, _⟩ <;> rfl
theorem SetR.block {B : Nat} {v : Value} {cur : List Int} (hs : SetR B h v cur) {a : Addr} {k c : Nat} (e : v = .slice (some a) k c) : B ≤ a.block ∧ a.block < h.next := by
  rcases hs with ⟨rfl, rfl⟩ | ⟨b, cs, rfl, h1, h2, h3, h4, h5⟩
  · cases e
  · cases e; exact ⟨h5, AHeap.lt_of_get h1⟩
theorem SetR.cut {B : Nat} {v : Value} {cur : List Int} {x : Int} (hs : SetR B h v (cur ++ [x])) : ∃ v', sliceA 1 true h v none (some (.int .i64 (cur.length : Int))) none = some (v', h) ∧ SetR B h v' cur ∧ oneCell v' = true := by
  rcases hs with ⟨rfl, e⟩ | ⟨b, cs, rfl, h1, h2, h3, h4, h5⟩
  · simp at e
  · have hl : (cur ++ [x]).length = cur.length + 1 := by simp
    refine ⟨.slice (some ⟨b, 0, none⟩) cur.length unk, ?_, .inr ⟨b, cs, rfl, h1, by omega, fun i hi => by rw [h3 i (by omega), at_append hi], h4, h5⟩, rfl⟩
    unfold sliceA
    have e1 : boundA 0 none = some 0 := rfl
    have e2 : boundA (cur ++ [x]).length (some (.int .i64 (cur.length : Int))) = some cur.length := rfl
    have e3 : Nat.ble 0 cur.length = true := ble_iff.2 (Nat.zero_le _)
    have e4 : Nat.ble cur.length (cur ++ [x]).length = true := ble_iff.2 (by omega)
    have e5 : Nat.blt unk unk = false := rfl
    have e6 : Nat.beq 0 0 = true := rfl
    simp only [e1, e2, e3, e4, e5, e6, Bool.and_self, cond_true, cond_false]
theorem SetR.push {B : Nat} {v : Value} {cur : List Int} {x : Int} {g1 : AHeap} (hs : SetR B h v cur) (hB : h.floor ≤ B) (hf : h.next + 2 < far) (hBn : B ≤ h.next) (hx : New h g1 [.int .i64 x] 0) (hl : cur.length ≤ 1000) :
    ∃ v' g2, appendA 1 8 g1 v (.slice (some ⟨h.next, 0, none⟩) 1 1) = some (v', g2) ∧ SetR B g2 v' (cur ++ [x]) ∧ oneCell v' = true ∧ h.next ≤ g2.next ∧ g2.next ≤ h.next + 2 ∧ g2.floor = h.floor ∧ (∀ i, i < h.next → NoB v i → g2.get i = h.get i) ∧
      ∀ i, i < h.next → NoB v i → NoB v' i := by
  have n1 := hx.next
  have f1 := hx.floor
  have hlen : (cur ++ [x]).length = cur.length + 1 := by simp
  have hnewc : cellsOfSlice g1 1 (.slice (some ⟨h.next, 0, none⟩) 1 1) = some [.int .i64 x] := one_cells hx.get rfl
  have full : ∀ cs, Grow B h v 1 cur.length cs → allB oneCell cs = true → (∀ i, i < cur.length → cs[i]? = some (.int .i64 (atL cur i))) →
      ∃ v' g2, appendA 1 8 g1 v (.slice (some ⟨h.next, 0, none⟩) 1 1) = some (v', g2) ∧ SetR B g2 v' (cur ++ [x]) ∧ oneCell v' = true ∧ h.next ≤ g2.next ∧ g2.next ≤ h.next + 2 ∧ g2.floor = h.floor ∧ (∀ i, i < h.next → NoB v i → g2.get i = h.get i) ∧ ∀ i, i < h.next → NoB v i → NoB v' i := fun cs hg hc hv => by
    have hg1 : Grow B g1 v 1 cur.length cs := hg.keep fun b e hb => hx.old b hb
    obtain ⟨g2, e2, hg2, hk2⟩ := append_run (bytes := 8) hg1 (by omega) (by omega) ⟨_, _, rfl⟩ hnewc rfl rfl hc (by omega) (by omega) (by simp [maxBytes]; omega) (by simp [maxBytes]; omega)
    have n2 := hk2.next
    have f2 := hk2.floor
    have hcl := hg.len
    refine ⟨_, g2, e2, ?_, rfl, by omega, by omega, by omega, fun i hi hne => by rw [hk2.old i (by omega) fun b k c e => hne b k c e, hx.old i hi], fun i hi _ b k c e => by cases e; show i ≠ g1.next; omega⟩
    rcases hg2 with ⟨e, _⟩ | ⟨b, e, k1, k2, k3⟩
    · cases e
    · cases e
      refine .inr ⟨_, _, by rw [hlen], k1, by rw [k2, hlen]; omega, fun i hi => ?_, ?_, k3⟩
      · rw [hlen] at hi
        by_cases c : i < cur.length
        · rw [List.getElem?_append_left (by omega), hv i c, at_append c]
        · obtain rfl : i = cur.length := by omega
          rw [List.getElem?_append_right (by omega), hcl, Nat.mul_one, Nat.sub_self, at_last]
          rfl
      · rw [allB_iff] at *
        intro u hu
        rcases List.mem_append.1 hu with hu | hu
        · exact hc u hu
        · simp only [List.mem_singleton] at hu; subst hu; rfl
  rcases hs with ⟨rfl, rfl⟩ | ⟨b, cs, rfl, h1, h2, h3, h4, h5⟩
  · exact full [] .nil rfl fun i hi => absurd hi (Nat.not_lt_zero _)
  · by_cases hc : cs.length = cur.length
    · exact full cs (.inr ⟨b, rfl, h1, by rw [hc, Nat.mul_one], h5⟩) h4 h3
    · have hlt := AHeap.lt_of_get h1
      have h1' : g1.get b = some (.row cs true 1) := by rw [hx.old b hlt]; exact h1
      obtain ⟨g2, e2, hs2⟩ := storeRow_run (off := cur.length * 1) (vs := [.int .i64 x]) h1' (by omega) (by omega) rfl (by simp; omega)
      have hs2' := hs2
      rw [Nat.mul_one] at hs2'
      have n2 := hs2.next
      have f2 := hs2.floor
      have hold : cellsOfSlice g1 1 (.slice (some ⟨b, 0, none⟩) cur.length unk) = some (cs.take cur.length) := by
        show (bif Nat.beq cur.length 0 then some [] else match g1.get b with
          | some (.row cs _ _) => dropK cs 0 fun r => takeK r (cur.length * 1) fun l => some l
          | _ => none) = some (cs.take cur.length)
        by_cases hn0 : cur.length = 0
        · rw [hn0]; rfl
        · have hb : Nat.beq cur.length 0 = false := by
            cases hb : Nat.beq cur.length 0 with
            | false => rfl
            | true => exact absurd (beq_iff.1 hb) hn0
          rw [hb, cond_false, h1']
          simp only [dropK_eq, takeK_eq, Nat.zero_le, if_true, List.drop_zero, Nat.mul_one]
          rw [if_pos h2]
      have b1 : ∀ n, Nat.beq n n = true := fun n => beq_iff.2 rfl
      have b2 : Nat.beq (cur.length * 1) (len cs) = false := by
        cases hb : Nat.beq (cur.length * 1) (len cs) with
        | false => rfl
        | true => have := beq_iff.1 hb; rw [len_eq] at this; omega
      have b3 : Nat.ble ((cur.length + 1) * 1) (len cs) = true := ble_iff.2 (by rw [len_eq]; omega)
      have b4 : Nat.ble ((cur.length + 1) * 8) maxBytes = true := ble_iff.2 (by simp [maxBytes]; omega)
      have b5 : Nat.ble (cur.length + 1) maxBytes = true := ble_iff.2 (by simp [maxBytes]; omega)
      have b6 : Nat.beq (len [Value.int .i64 x]) (1 * 1) = true := rfl
      have b7 : Nat.blt unk unk = false := rfl
      refine ⟨.slice (some ⟨b, 0, none⟩) (cur.length + 1) unk, g2, ?_, .inr ⟨b, _, by rw [hlen], hs2'.get, ?_, fun i hi => ?_, ?_, h5⟩, rfl, by omega, by omega, by omega, fun i hi hne => by rw [hs2.old i (hne _ _ _ rfl), hx.old i hi], fun i hi hne b' k c e => by cases e; exact hne _ _ _ rfl⟩
      · unfold appendA
        simp only [hnewc, b4, b5, b6, Bool.and_self, cond_true, b7, Bool.and_false, cond_false]
        unfold appendGrow
        simp only [hold, b7, cond_false, h1', b1, b2, b3, Bool.and_self, Bool.and_true, Bool.and_false, Bool.true_and, Bool.false_and, cond_true, cond_false, e2]
      · rw [hlen]
        simp only [splice, List.length_append, List.length_take, List.length_cons, List.length_nil, List.length_drop]
        omega
      · rw [hlen] at hi
        simp only [splice]
        by_cases c : i < cur.length
        · rw [List.getElem?_append_left (by rw [List.length_take]; omega), List.getElem?_take, if_pos c, h3 i c, at_append c]
        · obtain rfl : i = cur.length := by omega
          have e0 : cur.length - (List.take cur.length cs).length = 0 := by rw [List.length_take]; omega
          rw [List.getElem?_append_right (by rw [List.length_take]; omega), e0, at_last]
          rfl
      · refine allB_iff.2 fun u hu => ?_
        simp only [splice] at hu
        rcases List.mem_append.1 hu with hu | hu
        · exact allB_iff.1 h4 u (List.mem_of_mem_take hu)
        · rcases List.mem_append.1 hu with hu | hu
          · simp only [List.mem_singleton] at hu; subst hu; rfl
          · exact allB_iff.1 h4 u (List.mem_of_mem_drop hu)
end Go.Vm
