/- Texts of the proofs of this seat, put together: VatOwn, VatNeeds2, VatNeeds3, VatNeeded, VatMemP. -/
import Derived.Test.YtnibceeoejeimaaPk6

namespace Go.Vm.Vat
open Go.Proofs
set_option linter.unusedSimpArgs false
set_option linter.unusedVariables false
set_option maxRecDepth 10000
variable {n : Nat} {h : AHeap}
/-! ### Lists that may be written, and lie no lower than B -/
def Own (B : Nat) (h : AHeap) (v : Value) (s m : Nat) : Prop := (∃ a c, v = .slice a 0 c ∧ m = 0) ∨ ∃ b cap cs gr, v = .slice (some ⟨b, 0, none⟩) m cap ∧ B ≤ b ∧ h.get b = some (.row cs true gr) ∧ m * s ≤ cs.length
theorem Own.le {B C s m : Nat} {v : Value} (ho : Own B h v s m) (hc : C ≤ B) : Own C h v s m := by
  rcases ho with e | ⟨b, cap, cs, gr, e, h1, h2⟩
  · exact .inl e
  · exact .inr ⟨b, cap, cs, gr, e, Nat.le_trans hc h1, h2⟩
theorem Own.old {B s m : Nat} {g : AHeap} {v : Value} (ho : Own B h v s m) (he : ∀ x k c, v = .slice (some x) k c → g.get x.block = h.get x.block) : Own B g v s m := by
  rcases ho with e | ⟨b, cap, cs, gr, rfl, h1, h2, h3⟩
  · exact .inl e
  · exact .inr ⟨b, cap, cs, gr, rfl, h1, by rw [he _ _ _ rfl]; exact h2, h3⟩
theorem Own.mono {B s m : Nat} {g : AHeap} {v : Value} (ho : Own B h v s m) (hs : Sub All h g) : Own B g v s m := by
  rcases ho with e | ⟨b, cap, cs, gr, rfl, h1, h2, h3⟩
  · exact .inl e
  · exact .inr ⟨b, cap, cs, gr, rfl, h1, hs _ _ _ _ trivial h2, h3⟩
theorem GrowC.own {B s m : Nat} {v : Value} {c : Nat → Nat → Value} (hg : GrowC B h v s m c) : Own B h v s m := by
  obtain ⟨cs, ⟨rfl, rfl, rfl⟩ | ⟨b, rfl, h2, h3, h4⟩, h5, h6⟩ := hg
  · exact .inl ⟨_, _, rfl, rfl⟩
  · exact .inr ⟨b, _, cs, _, rfl, h4, h2, by rw [h3]; exact Nat.le_refl _⟩
def IntsO (B : Nat) (h : AHeap) (v : Value) (m : Nat) (a : Nat → Int) : Prop := Ints h v m a ∧ Own B h v 1 m
theorem intsO_old {B m : Nat} {g : AHeap} {v : Value} {a : Nat → Int} (hi : IntsO B h v m a) (he : ∀ x k c, v = .slice (some x) k c → g.get x.block = h.get x.block) : IntsO B g v m a := ⟨ints_old hi.1 he, hi.2.old he⟩
theorem IntsO.le {B C m : Nat} {v : Value} {a : Nat → Int} (hi : IntsO B h v m a) (hc : C ≤ B) : IntsO C h v m a := ⟨hi.1, hi.2.le hc⟩
theorem bounds_o (hn : 10020 ≤ n) (hr : h.next + 200000 < far) (hfl : h.floor ≤ h.next) {F V S tv : Value} {L : List (Nat → Int)} {G m : Nat} {val : Nat → (Nat → Int) → Int} (ho4 : allB oneCell [F, V, S, tv] = true) (hL : L ≠ []) (hlen : L.length ≤ 2000) (htr : TruthsR h tv L) (hlong : Long tv) (hm : m ≤ 5)
    (hG : ∀ g, Sub All h g → g.next + 100 < far → ∀ k, k < m → ∀ t, t ∈ L → call (n - 1) (.func (.func G) #[] #[]) [.agg ⟨[F, V, S, tv]⟩, .agg ⟨arr t⟩, .int .i64 (k : Int)] g = some (.int .i64 (val k t), g)) :
    ∃ v h', call n (.func (.func 90) #[] #[]) [.agg ⟨[.func (.func G) #[] #[]]⟩, .agg ⟨[F, V, S, tv]⟩, .int .i64 (m : Int)] h = some (v, h') ∧ Ranges h' v m (fun k => loN (val k) L) (fun k => hiN (val k) L) ∧ Made h h' 100000 ∧ Own h.next h' v 2 m := by
  obtain ⟨n, rfl⟩ : ∃ p, n = p + 1 := ⟨n - 1, by omega⟩
  rw [Nat.add_sub_cancel] at hG
  have hpos : 0 < L.length := List.length_pos_iff.2 hL
  have hat : ∀ i, i < L.length → L.getD i (fun _ => 0) ∈ L := fun i hi => by rw [List.getD_eq_getElem?_getD, List.getElem?_eq_getElem hi]; exact List.getElem_mem hi
  refine call_any0 fok90 rfl rfl (by simp) ?_
  simp only [s90, W_seq, W_ops]
  refine ops_box (cs := [.func (.func G) #[] #[]]) (by omega) rfl rfl fun g1 hx1 => ?_
  refine ops_box (cs := [F, V, S, tv]) (by rw [hx1.next]; omega) rfl ho4 fun g2 hx2 => ?_
  have n1 := hx1.next
  have n2 := hx2.next
  have f1 := hx1.floor
  have f2 := hx2.floor
  simp only [rn0, rn1, rn2, rn3, rn4, rn5, rn6, rn7, rn8, if_true, if_false, Nat.le_refl, true_and, and_true, decide_true, decide_false, Bool.not_true, Bool.not_false, reduceIte, Nat.reduceEqDiff, Nat.reduceAdd, Nat.reduceMul, Nat.reduceSub, Nat.reduceLeDiff, Nat.reduceLT, make_ranges (m := m) (by omega), repl_mixR (m := m) (lo := fun k => loN (val k) L) (hi := fun k => hiN (val k) L)]
  refine step_slice (by omega) mixR_one fun g3 hx3 => ?_
  have n3 := hx3.next
  have f3 := hx3.floor
  have r1 := (hx1.row.mono hx2.sub).mono hx3.sub
  have r2 := hx2.row.mono hx3.sub
  have s3 : Sub All h g3 := hx1.sub.trans (hx2.sub.trans hx3.sub)
  have hro : g3.get g2.next = some (.row ((List.range (2 * m)).map (mixR 0 (fun k => loN (val k) L) (fun k => hiN (val k) L))) true 0) := hx3.get
  simp only [rn0, rn1, rn2, rn3, rn4, rn5, rn6, rn7, rn8, if_true, if_false, Nat.le_refl, true_and, and_true, decide_true, decide_false, Bool.not_true, Bool.not_false, reduceIte, Nat.reduceEqDiff, Nat.reduceAdd, Nat.reduceMul, Nat.reduceSub, Nat.reduceLeDiff, Nat.reduceLT]
  refine W_loop m (fun k f g ms => (Keep g2.next g3 g ∧ g.get g2.next = some (.row ((List.range (2 * m)).map (mixR k (fun k => loN (val k) L) (fun k => hiN (val k) L))) true 0) ∧ g.next ≤ g3.next + 5000 * k) ∧ ms = [] ∧ f 3 = .pointer (some ⟨h.next, 0, none⟩) ∧ f 4 = .pointer (some ⟨g1.next, 0, none⟩) ∧
    f 7 = .slice (some ⟨g2.next, 0, none⟩) m m ∧ f 16 = .int .i64 (m : Int) ∧ f 17 = .int .i64 (k : Int)) (by simp; omega) ?_ ?_ ?_
  · simp only [rn0, rn1, rn2, rn3, rn4, rn5, rn6, rn7, rn8, if_true, if_false, Nat.le_refl, true_and, and_true, decide_true, decide_false, Bool.not_true, Bool.not_false, reduceIte, Nat.reduceEqDiff, Nat.reduceAdd, Nat.reduceMul, Nat.reduceSub, Nat.reduceLeDiff, Nat.reduceLT]
    exact ⟨⟨Keep.refl, hro, by omega⟩, rfl⟩
  · rintro k f g ms hk ⟨⟨st, go, gn⟩, rfl, p3, p4, p7, p16, p17⟩
    have hk' : (k : Int) < (m : Int) := by omega
    have hw : wrapF .i64 ((k : Int) + 1) = ((k + 1 : Nat) : Int) := by rw [wrap_in (by omega) (by omega)]; rfl
    have hup := st.up
    have hfg := st.floor
    have sg : Sub All h g := fun i cs w gr t hg => st.sub _ _ _ _ (by have := AHeap.lt_of_get hg; omega) (s3 _ _ _ _ t hg)
    have r1g := r1.keep st (by omega)
    have r2g := r2.keep st (by omega)
    have htg : TruthsR g tv L := Cells.mono htr sg
    have i0 : indexSl 5 tv (.int .i64 0) = some (ptrO tv 5 0 0) := Cells.idx htg hpos
    have e0 := hG g sg (by omega) k hk _ (hat 0 hpos)
    simp only [rn0, rn1, rn2, rn3, rn4, rn5, rn6, rn7, rn8, if_true, if_false, Nat.le_refl, true_and, and_true, decide_true, decide_false, Bool.not_true, Bool.not_false, reduceIte, Nat.reduceEqDiff, Nat.reduceAdd, Nat.reduceMul, Nat.reduceSub, Nat.reduceLeDiff, Nat.reduceLT, p3, p4, p7, p16, p17, hk']
    refine W_draw All ?_
    simp only [rn0, rn1, rn2, rn3, rn4, rn5, rn6, rn7, rn8, if_true, if_false, Nat.le_refl, true_and, and_true, decide_true, decide_false, Bool.not_true, Bool.not_false, reduceIte, Nat.reduceEqDiff, Nat.reduceAdd, Nat.reduceMul, Nat.reduceSub, Nat.reduceLeDiff, Nat.reduceLT, p3, p4, p7, p16, p17, r1g.ld, r2g.whole (n := 4) rfl, r2g.ld, Nat.zero_add, List.getElem?_cons_zero, List.getElem?_cons_succ, i0, truths_ld htg hpos, e0, build_range]
    generalize hv0 : val k (L.getD 0 fun _ => 0) = v0
    refine step_new (vs := [.int .i64 v0, .int .i64 v0]) (by omega) (by omega) rfl (by simp only [rn0, rn1, rn2, rn3, rn4, rn5, rn6, rn7, rn8, if_true, if_false, Nat.le_refl, true_and, and_true, decide_true, decide_false, Bool.not_true, Bool.not_false, reduceIte, Nat.reduceEqDiff, Nat.reduceAdd, Nat.reduceMul, Nat.reduceSub, Nat.reduceLeDiff, Nat.reduceLT]; rfl) rfl rfl rfl fun g4 hx4 => ?_
    have n4 := hx4.next
    have f4 := hx4.floor
    have r2g4 := r2g.mono hx4.sub
    obtain ⟨tl, g5, et, _, s5, u5, b5, f5, o5, htl⟩ := tail_c (Cells.mono htg hx4.sub) hpos hlong (by omega)
    have ht5 := htl g5 (Cells.mono (Cells.mono htg hx4.sub) s5)
    simp only [rn0, rn1, rn2, rn3, rn4, rn5, rn6, rn7, rn8, if_true, if_false, Nat.le_refl, true_and, and_true, decide_true, decide_false, Bool.not_true, Bool.not_false, reduceIte, Nat.reduceEqDiff, Nat.reduceAdd, Nat.reduceMul, Nat.reduceSub, Nat.reduceLeDiff, Nat.reduceLT, p3, p4, p7, p16, p17, r2g4.ld, Nat.zero_add, List.getElem?_cons_zero, List.getElem?_cons_succ, Option.isSome_none, Option.map_some, Option.map_none, et, Cells.len ht5]
    have r10 : g5.get g.next = some (.row [.int .i64 v0, .int .i64 v0] true 0) := s5 _ _ _ _ trivial hx4.get
    refine W_loop (L.length - 1) (fun i f g' ms => (Keep g.next g5 g' ∧ g'.get g.next = some (.row [.int .i64 (minN v0 (fun i => val k (L.getD (i + 1) fun _ => 0)) i), .int .i64 (maxN v0 (fun i => val k (L.getD (i + 1) fun _ => 0)) i)] true 0) ∧ g'.next ≤ g5.next + 2 * i) ∧ ms = [] ∧
      f 3 = .pointer (some ⟨h.next, 0, none⟩) ∧ f 4 = .pointer (some ⟨g1.next, 0, none⟩) ∧ f 7 = .slice (some ⟨g2.next, 0, none⟩) m m ∧ f 16 = .int .i64 (m : Int) ∧ f 17 = .int .i64 (k : Int) ∧ f 8 = .int .i64 (k : Int) ∧ f 10 = .pointer (some ⟨g.next, 0, none⟩) ∧
      f 34 = tl ∧ f 35 = .int .i64 ((L.length - 1 : Nat) : Int) ∧ f 36 = .int .i64 (i : Int)) (by simp; omega) ?_ ?_ ?_
    · simp only [rn0, rn1, rn2, rn3, rn4, rn5, rn6, rn7, rn8, if_true, if_false, Nat.le_refl, true_and, and_true, decide_true, decide_false, Bool.not_true, Bool.not_false, reduceIte, Nat.reduceEqDiff, Nat.reduceAdd, Nat.reduceMul, Nat.reduceSub, Nat.reduceLeDiff, Nat.reduceLT, p3, p4, p7, p16, p17]
      exact ⟨⟨Keep.refl, r10, by omega⟩, rfl⟩
    · rintro i f g' ms hi ⟨⟨kin, gi, gin⟩, rfl, p3, p4, p7, p16, p17, p8, p10, p34, p35, p36⟩
      have hi' : (i : Int) < ((L.length - 1 : Nat) : Int) := by omega
      have hwi : wrapF .i64 ((i : Int) + 1) = ((i + 1 : Nat) : Int) := by rw [wrap_in (by omega) (by omega)]; rfl
      have kup := kin.up
      have kfl := kin.floor
      have sg5 : Sub All h g5 := sg.trans (hx4.sub.trans s5)
      have sg' : Sub All h g' := fun j cs w gr t hg => kin.sub _ _ _ _ (by have := AHeap.lt_of_get hg; omega) (sg5 _ _ _ _ t hg)
      have ht' := htl g' (Cells.mono htr sg')
      have hld : loadAgg 5 g' (ptrO tl 5 i 0) = some (.agg ⟨arr (L.getD (i + 1) fun _ => 0)⟩) := by
        rw [Cells.ldN ht' hi (by omega) (by omega)]; simp [arr, List.range_succ]
      have r1' := ((r1g.mono hx4.sub).mono s5).keep kin (by omega)
      have r2' := ((r2g.mono hx4.sub).mono s5).keep kin (by omega)
      simp only [rn0, rn1, rn2, rn3, rn4, rn5, rn6, rn7, rn8, if_true, if_false, Nat.le_refl, true_and, and_true, decide_true, decide_false, Bool.not_true, Bool.not_false, reduceIte, Nat.reduceEqDiff, Nat.reduceAdd, Nat.reduceMul, Nat.reduceSub, Nat.reduceLeDiff, Nat.reduceLT, p3, p4, p7, p8, p10, p16, p17, p34, p35, p36, hi', Cells.idx ht' hi, hld]
      refine step_new (vs := arr (L.getD (i + 1) fun _ => 0)) (by omega) (by omega) rfl (by simp only [rn0, rn1, rn2, rn3, rn4, rn5, rn6, rn7, rn8, if_true, if_false, Nat.le_refl, true_and, and_true, decide_true, decide_false, Bool.not_true, Bool.not_false, reduceIte, Nat.reduceEqDiff, Nat.reduceAdd, Nat.reduceMul, Nat.reduceSub, Nat.reduceLeDiff, Nat.reduceLT]; rfl) arr_one arr_len rfl fun g6 hx6 => ?_
      have n6 := hx6.next
      have f6 := hx6.floor
      have e6 := hG g6 (sg'.trans hx6.sub) (by omega) k hk _ (hat (i + 1) (by omega))
      have r16 := r1'.mono hx6.sub
      have r26 := r2'.mono hx6.sub
      have r106 : Row g6 g.next _ := ⟨_, _, hx6.sub _ _ _ _ trivial gi⟩
      simp only [rn0, rn1, rn2, rn3, rn4, rn5, rn6, rn7, rn8, if_true, if_false, Nat.le_refl, true_and, and_true, decide_true, decide_false, Bool.not_true, Bool.not_false, reduceIte, Nat.reduceEqDiff, Nat.reduceAdd, Nat.reduceMul, Nat.reduceSub, Nat.reduceLeDiff, Nat.reduceLT, p3, p4, p7, p8, p10, p16, p17, p34, p35, p36, r16.ld, r26.whole (n := 4) rfl, hx6.row.whole arr_len, Nat.zero_add, List.getElem?_cons_zero, List.getElem?_cons_succ, e6]
      refine W_draw All ?_
      simp only [rn0, rn1, rn2, rn3, rn4, rn5, rn6, rn7, rn8, if_true, if_false, Nat.le_refl, true_and, and_true, decide_true, decide_false, Bool.not_true, Bool.not_false, reduceIte, Nat.reduceEqDiff, Nat.reduceAdd, Nat.reduceMul, Nat.reduceSub, Nat.reduceLeDiff, Nat.reduceLT, p3, p4, p7, p8, p10, p16, p17, p34, p35, p36, r106.ld, Nat.zero_add, List.getElem?_cons_zero, List.getElem?_cons_succ, sl_int]
      generalize hv1 : val k (L.getD (i + 1) fun _ => 0) = v1
      refine up_slice (by omega) rfl (fun g7 hx => hx.sub) fun g7 hx7 => ?_
      have n7 := hx7.next
      have f7 := hx7.floor
      have hone : Ints g7 (.slice (some ⟨g6.next, 0, none⟩) 1 1) 1 (fun _ => v1) := ⟨_, _, rfl, fun x e => by cases e; rfl, .inr ⟨_, 0, _, _, _, rfl, hx7.get, fun i j hi hj => by
        have hi : i = 0 := by omega
        have hj : j = 0 := by omega
        subst hi hj; rfl⟩⟩
      have em := minimum_c (n := n) (h := g7) (m := 1) (by omega) (by omega) hone (minN v0 (fun i => val k (L.getD (i + 1) fun _ => 0)) i)
      have hmin : minN (minN v0 (fun i => val k (L.getD (i + 1) fun _ => 0)) i) (fun _ => v1) 1 = minN v0 (fun i => val k (L.getD (i + 1) fun _ => 0)) (i + 1) := by simp only [minN, hv1]
      have hmax : max (maxN v0 (fun i => val k (L.getD (i + 1) fun _ => 0)) i) v1 = maxN v0 (fun i => val k (L.getD (i + 1) fun _ => 0)) (i + 1) := by simp only [maxN, hv1]
      rw [hmin] at em
      simp only [rn0, rn1, rn2, rn3, rn4, rn5, rn6, rn7, rn8, if_true, if_false, Nat.le_refl, true_and, and_true, decide_true, decide_false, Bool.not_true, Bool.not_false, reduceIte, Nat.reduceEqDiff, Nat.reduceAdd, Nat.reduceMul, Nat.reduceSub, Nat.reduceLeDiff, Nat.reduceLT, p3, p4, p7, p8, p10, p16, p17, p34, p35, p36, em, r106.ld, Nat.zero_add, List.getElem?_cons_zero, List.getElem?_cons_succ, valN_tmp, Nat.reduceLT, hmax, build_range]
      refine ⟨hx7.sub, ?_⟩
      refine up_store (b := g.next) (off := 0) (vs := [.int .i64 (minN v0 (fun i => val k (L.getD (i + 1) fun _ => 0)) (i + 1)), .int .i64 (maxN v0 (fun i => val k (L.getD (i + 1) fun _ => 0)) (i + 1))]) rfl (hx7.sub _ _ _ _ trivial (hx6.sub _ _ _ _ trivial gi)) (by omega) (by omega) rfl rfl rfl (by simp) (fun _ _ => trivial) fun g8 hs8 => ?_
      rw [splice2] at hs8
      have n8 := hs8.next
      have f8 := hs8.floor
      simp only [rn0, rn1, rn2, rn3, rn4, rn5, rn6, rn7, rn8, if_true, if_false, Nat.le_refl, true_and, and_true, decide_true, decide_false, Bool.not_true, Bool.not_false, reduceIte, Nat.reduceEqDiff, Nat.reduceAdd, Nat.reduceMul, Nat.reduceSub, Nat.reduceLeDiff, Nat.reduceLT, p3, p4, p7, p8, p10, p16, p17, p34, p35, p36, hwi]
      exact ⟨(kin.trans ⟨fun j cs w gr hj hg => hx7.sub _ _ _ _ trivial (hx6.sub _ _ _ _ trivial hg), by omega, by omega⟩).trans hs8.keep, hs8.get, by omega⟩
    · rintro f g' ms ⟨⟨kin, gi, gin⟩, rfl, p3, p4, p7, p16, p17, p8, p10, p34, p35, p36⟩
      have kup := kin.up
      have kfl := kin.floor
      have w10 := (show Row g' g.next _ from ⟨_, _, gi⟩).whole (n := 2) rfl
      have hlo : minN v0 (fun i => val k (L.getD (i + 1) fun _ => 0)) (L.length - 1) = loN (val k) L := by unfold loN; rw [hv0]
      have hhi : maxN v0 (fun i => val k (L.getD (i + 1) fun _ => 0)) (L.length - 1) = hiN (val k) L := by unfold hiN; rw [hv0]
      rw [hlo, hhi] at w10
      have go' : g'.get g2.next = some (.row ((List.range (2 * m)).map (mixR k (fun k => loN (val k) L) (fun k => hiN (val k) L))) true 0) := kin.sub _ _ _ _ (by omega) (s5 _ _ _ _ trivial (hx4.sub _ _ _ _ trivial go))
      simp only [rn0, rn1, rn2, rn3, rn4, rn5, rn6, rn7, rn8, if_true, if_false, Nat.le_refl, true_and, and_true, decide_true, decide_false, Bool.not_true, Bool.not_false, reduceIte, Nat.reduceEqDiff, Nat.reduceAdd, Nat.reduceMul, Nat.reduceSub, Nat.reduceLeDiff, Nat.reduceLT, p3, p4, p7, p8, p10, p16, p17, p34, p35, p36, Int.lt_irrefl, w10, idxSl_s hk]
      refine step_store (b := g2.next) (off := k * 2) (vs := [.int .i64 (loN (val k) L), .int .i64 (hiN (val k) L)]) rfl go' (by omega) (by omega) rfl rfl rfl (by simp; omega) fun g8 hs8 => ?_
      have h8 := hs8.get
      rw [mixR_splice (lo := fun k => loN (val k) L) (hi := fun k => hiN (val k) L) hk] at h8
      have n8 := hs8.next
      have f8 := hs8.floor
      simp only [rn0, rn1, rn2, rn3, rn4, rn5, rn6, rn7, rn8, if_true, if_false, Nat.le_refl, true_and, and_true, decide_true, decide_false, Bool.not_true, Bool.not_false, reduceIte, Nat.reduceEqDiff, Nat.reduceAdd, Nat.reduceMul, Nat.reduceSub, Nat.reduceLeDiff, Nat.reduceLT, p3, p4, p7, p8, p10, p16, p17, p34, p35, p36, hw]
      refine ⟨⟨fun j cs w gr hj hg => ?_, by omega, by omega⟩, h8, by omega⟩
      have hlt := AHeap.lt_of_get hg
      rw [hs8.old j hj]
      exact kin.sub _ _ _ _ (by omega) (s5 _ _ _ _ trivial (hx4.sub _ _ _ _ trivial (st.sub _ _ _ _ hj hg)))
  · rintro f g ms ⟨⟨st, go, gn⟩, rfl, p3, p4, p7, p16, p17⟩
    have hup := st.up
    have hfg := st.floor
    simp only [rn0, rn1, rn2, rn3, rn4, rn5, rn6, rn7, rn8, if_true, if_false, Nat.le_refl, true_and, and_true, decide_true, decide_false, Bool.not_true, Bool.not_false, reduceIte, Nat.reduceEqDiff, Nat.reduceAdd, Nat.reduceMul, Nat.reduceSub, Nat.reduceLeDiff, Nat.reduceLT, p3, p4, p7, p16, p17, Int.lt_irrefl]
    refine ⟨⟨_, _, rfl, fun x e => by cases e; rfl, ?_⟩, ⟨fun i cs w gr t hg => st.sub _ _ _ _ (by have := AHeap.lt_of_get hg; omega) (s3 _ _ _ _ t hg), by omega, by omega, by omega⟩, .inr ⟨g2.next, m, _, _, rfl, by omega, go, by simp; omega⟩⟩
    refine .inr ⟨_, 0, _, _, _, rfl, go, fun k j hk hj => ?_⟩
    rw [Nat.zero_add, List.getElem?_map, List.getElem?_range (by omega)]
    simp only [Option.map_some, mixR]
    rw [if_pos (by omega)]
    rcases j with _ | _ | j
    · rw [if_pos (by omega), show (k * 2 + 0) / 2 = k by omega]; rfl
    · rw [if_neg (by omega), show (k * 2 + (0 + 1)) / 2 = k by omega]; rfl
    · omega
def RangesRo (h : AHeap) (Y : MY) (m : Nat) (val : Nat → (Nat → Int) → Int) (v : Value) (h' : AHeap) : Prop := Made h h' 400000 ∧
  ((faultN Y ≠ 0 ∧ v = .tuple ⟨[nilS, .int .i64 (faultN Y)]⟩) ∨ (faultN Y = 0 ∧ truths Y = [] ∧ v = .tuple ⟨[nilS, .int .i64 11]⟩) ∨
    (faultN Y = 0 ∧ truths Y ≠ [] ∧ ∃ l, v = .tuple ⟨[l, .int .i64 0]⟩ ∧ Ranges h' l m (fun k => loN (val k) (truths Y)) (fun k => hiN (val k) (truths Y)) ∧ Own h.next h' l 2 m))
theorem boundsV_o (hn : 10060 ≤ n) (hr : h.next + 900000 < far) (hfl : h.floor ≤ h.next) {F V S : Value} {Y : MY} (hy : YardR h F V S Y) (hY : Thin Y) :
    ∃ v h', call n (.func (.func 34) #[] #[]) [.agg ⟨[F, V, S]⟩] h = some (v, h') ∧ RangesRo h Y Y.nv (fun k t => blueN t (Y.q k) Y.nf) v h' := by
  obtain ⟨n, rfl⟩ : ∃ p, n = p + 1 := ⟨n - 1, by omega⟩
  refine call_any0 fok34 rfl rfl (by simp) ?_
  simp only [s34, W_seq, W_ops]
  refine ops_box (cs := [F, V, S]) (by omega) rfl hy.one fun g1 hx1 => ?_
  have n1 := hx1.next
  have f1 := hx1.floor
  have w1 := hx1.row.whole (n := 3) rfl
  obtain ⟨v, g2, eo, hm, ho⟩ := openTrue_c (n := n) (h := g1) (by omega) (by omega) (by omega) (hy.mono hx1.sub) hY
  have n2 := hm.next
  have u2 := hm.up
  have f2 := hm.floor
  rcases ho with ⟨hf, rfl⟩ | ⟨hf, he, rfl⟩ | ⟨hf, he, tv, rfl, htr, hlong⟩
  · simp only [rn0, rn1, rn2, rn3, rn4, rn5, rn6, rn7, rn8, if_true, if_false, Nat.le_refl, true_and, and_true, decide_true, decide_false, Bool.not_true, Bool.not_false, reduceIte, Nat.reduceEqDiff, Nat.reduceAdd, Nat.reduceMul, Nat.reduceSub, Nat.reduceLeDiff, Nat.reduceLT, w1, eo, ex0, ex1]
    refine step_new (vs := [nilS, nilS, nilS, nilS]) (by omega) (by omega) rfl (by simp only [rn0, rn1, rn2, rn3, rn4, rn5, rn6, rn7, rn8, if_true, if_false, Nat.le_refl, true_and, and_true, decide_true, decide_false, Bool.not_true, Bool.not_false, reduceIte, Nat.reduceEqDiff, Nat.reduceAdd, Nat.reduceMul, Nat.reduceSub, Nat.reduceLeDiff, Nat.reduceLT]; rfl) rfl rfl rfl fun g3 hx3 => ?_
    have n3 := hx3.next
    have f3 := hx3.floor
    simp only [rn0, rn1, rn2, rn3, rn4, rn5, rn6, rn7, rn8, if_true, if_false, Nat.le_refl, true_and, and_true, decide_true, decide_false, Bool.not_true, Bool.not_false, reduceIte, Nat.reduceEqDiff, Nat.reduceAdd, Nat.reduceMul, Nat.reduceSub, Nat.reduceLeDiff, Nat.reduceLT, hf, ret_tt]
    exact ⟨⟨hx1.sub.trans (hm.sub.trans hx3.sub), by omega, by omega, by omega⟩, .inl ⟨hf, rfl⟩⟩
  · simp only [rn0, rn1, rn2, rn3, rn4, rn5, rn6, rn7, rn8, if_true, if_false, Nat.le_refl, true_and, and_true, decide_true, decide_false, Bool.not_true, Bool.not_false, reduceIte, Nat.reduceEqDiff, Nat.reduceAdd, Nat.reduceMul, Nat.reduceSub, Nat.reduceLeDiff, Nat.reduceLT, w1, eo, ex0, ex1]
    refine step_new (vs := [nilS, nilS, nilS, nilS]) (by omega) (by omega) rfl (by simp only [rn0, rn1, rn2, rn3, rn4, rn5, rn6, rn7, rn8, if_true, if_false, Nat.le_refl, true_and, and_true, decide_true, decide_false, Bool.not_true, Bool.not_false, reduceIte, Nat.reduceEqDiff, Nat.reduceAdd, Nat.reduceMul, Nat.reduceSub, Nat.reduceLeDiff, Nat.reduceLT]; rfl) rfl rfl rfl fun g3 hx3 => ?_
    have n3 := hx3.next
    have f3 := hx3.floor
    simp only [rn0, rn1, rn2, rn3, rn4, rn5, rn6, rn7, rn8, if_true, if_false, Nat.le_refl, true_and, and_true, decide_true, decide_false, Bool.not_true, Bool.not_false, reduceIte, Nat.reduceEqDiff, Nat.reduceAdd, Nat.reduceMul, Nat.reduceSub, Nat.reduceLeDiff, Nat.reduceLT, ret_tt, Int.reduceEq]
    exact ⟨⟨hx1.sub.trans (hm.sub.trans hx3.sub), by omega, by omega, by omega⟩, .inr (.inl ⟨hf, he, rfl⟩)⟩
  · have hG := good_of hf
    obtain ⟨z1, z2, z3⟩ := hG.sz
    have ho4 : allB oneCell [F, V, S, tv] = true := by have h1 := hy.one; have h2 := Cells.one htr; simp [allB] at h1 ⊢; simp [h1, h2]
    simp only [rn0, rn1, rn2, rn3, rn4, rn5, rn6, rn7, rn8, if_true, if_false, Nat.le_refl, true_and, and_true, decide_true, decide_false, Bool.not_true, Bool.not_false, reduceIte, Nat.reduceEqDiff, Nat.reduceAdd, Nat.reduceMul, Nat.reduceSub, Nat.reduceLeDiff, Nat.reduceLT, w1, eo, ex0, ex1]
    refine step_new (vs := [F, V, S, tv]) (by omega) (by omega) rfl (by simp only [rn0, rn1, rn2, rn3, rn4, rn5, rn6, rn7, rn8, if_true, if_false, Nat.le_refl, true_and, and_true, decide_true, decide_false, Bool.not_true, Bool.not_false, reduceIte, Nat.reduceEqDiff, Nat.reduceAdd, Nat.reduceMul, Nat.reduceSub, Nat.reduceLeDiff, Nat.reduceLT]; rfl) ho4 rfl rfl fun g3 hx3 => ?_
    have n3 := hx3.next
    have f3 := hx3.floor
    have w3 := hx3.row.whole (n := 4) rfl
    have s3 : Sub All h g3 := hx1.sub.trans (hm.sub.trans hx3.sub)
    have hy3 := hy.mono s3
    obtain ⟨rr, hrw, hq⟩ := hy3.v
    obtain ⟨l, g4, e4, hl4, m4, o4⟩ := bounds_o (n := n) (h := g3) (F := F) (V := V) (S := S) (tv := tv) (L := truths Y) (G := 77) (m := Y.nv) (val := fun k t => blueN t (Y.q k) Y.nf) (by omega) (by omega) (by omega) ho4 he (truths_len hf) (Cells.mono htr hx3.sub) hlong (by omega) fun g hs hg k hk t ht => by
      obtain ⟨v1, v2⟩ := hG.v k hk
      exact inVat_c (n := n - 1) (h := g) (by omega) (by omega) (hy3.mono hs).v ho4 hk v1 z1 (truths_range hf ht) fun i hi => v2 i (by omega)
    have n4 := m4.next
    have u4 := m4.up
    have f4 := m4.floor
    simp only [rn0, rn1, rn2, rn3, rn4, rn5, rn6, rn7, rn8, if_true, if_false, Nat.le_refl, true_and, and_true, decide_true, decide_false, Bool.not_true, Bool.not_false, reduceIte, Nat.reduceEqDiff, Nat.reduceAdd, Nat.reduceMul, Nat.reduceSub, Nat.reduceLeDiff, Nat.reduceLT, build_fn, w3, hx3.row.ld, Nat.zero_add, List.getElem?_cons_zero, List.getElem?_cons_succ, Cells.len hrw, e4, ret_tt]
    exact ⟨⟨s3.trans m4.sub, by omega, by omega, by omega⟩, .inr (.inr ⟨hf, he, _, rfl, hl4, o4.le (by omega)⟩)⟩
theorem fieldsV_o (hn : 10060 ≤ n) (hr : h.next + 900000 < far) (hfl : h.floor ≤ h.next) {F V S : Value} {Y : MY} (hy : YardR h F V S Y) (hY : Thin Y) :
    ∃ v h', call n (.func (.func 35) #[] #[]) [.agg ⟨[F, V, S]⟩] h = some (v, h') ∧ RangesRo h Y Y.nf (fun k t => t k) v h' := by
  obtain ⟨n, rfl⟩ : ∃ p, n = p + 1 := ⟨n - 1, by omega⟩
  refine call_any0 fok35 rfl rfl (by simp) ?_
  simp only [s35, W_seq, W_ops]
  refine ops_box (cs := [F, V, S]) (by omega) rfl hy.one fun g1 hx1 => ?_
  have n1 := hx1.next
  have f1 := hx1.floor
  have w1 := hx1.row.whole (n := 3) rfl
  obtain ⟨v, g2, eo, hm, ho⟩ := openTrue_c (n := n) (h := g1) (by omega) (by omega) (by omega) (hy.mono hx1.sub) hY
  have n2 := hm.next
  have u2 := hm.up
  have f2 := hm.floor
  rcases ho with ⟨hf, rfl⟩ | ⟨hf, he, rfl⟩ | ⟨hf, he, tv, rfl, htr, hlong⟩
  · simp only [rn0, rn1, rn2, rn3, rn4, rn5, rn6, rn7, rn8, if_true, if_false, Nat.le_refl, true_and, and_true, decide_true, decide_false, Bool.not_true, Bool.not_false, reduceIte, Nat.reduceEqDiff, Nat.reduceAdd, Nat.reduceMul, Nat.reduceSub, Nat.reduceLeDiff, Nat.reduceLT, w1, eo, ex0, ex1]
    refine step_new (vs := [nilS, nilS, nilS, nilS]) (by omega) (by omega) rfl (by simp only [rn0, rn1, rn2, rn3, rn4, rn5, rn6, rn7, rn8, if_true, if_false, Nat.le_refl, true_and, and_true, decide_true, decide_false, Bool.not_true, Bool.not_false, reduceIte, Nat.reduceEqDiff, Nat.reduceAdd, Nat.reduceMul, Nat.reduceSub, Nat.reduceLeDiff, Nat.reduceLT]; rfl) rfl rfl rfl fun g3 hx3 => ?_
    have n3 := hx3.next
    have f3 := hx3.floor
    simp only [rn0, rn1, rn2, rn3, rn4, rn5, rn6, rn7, rn8, if_true, if_false, Nat.le_refl, true_and, and_true, decide_true, decide_false, Bool.not_true, Bool.not_false, reduceIte, Nat.reduceEqDiff, Nat.reduceAdd, Nat.reduceMul, Nat.reduceSub, Nat.reduceLeDiff, Nat.reduceLT, hf, ret_tt]
    exact ⟨⟨hx1.sub.trans (hm.sub.trans hx3.sub), by omega, by omega, by omega⟩, .inl ⟨hf, rfl⟩⟩
  · simp only [rn0, rn1, rn2, rn3, rn4, rn5, rn6, rn7, rn8, if_true, if_false, Nat.le_refl, true_and, and_true, decide_true, decide_false, Bool.not_true, Bool.not_false, reduceIte, Nat.reduceEqDiff, Nat.reduceAdd, Nat.reduceMul, Nat.reduceSub, Nat.reduceLeDiff, Nat.reduceLT, w1, eo, ex0, ex1]
    refine step_new (vs := [nilS, nilS, nilS, nilS]) (by omega) (by omega) rfl (by simp only [rn0, rn1, rn2, rn3, rn4, rn5, rn6, rn7, rn8, if_true, if_false, Nat.le_refl, true_and, and_true, decide_true, decide_false, Bool.not_true, Bool.not_false, reduceIte, Nat.reduceEqDiff, Nat.reduceAdd, Nat.reduceMul, Nat.reduceSub, Nat.reduceLeDiff, Nat.reduceLT]; rfl) rfl rfl rfl fun g3 hx3 => ?_
    have n3 := hx3.next
    have f3 := hx3.floor
    simp only [rn0, rn1, rn2, rn3, rn4, rn5, rn6, rn7, rn8, if_true, if_false, Nat.le_refl, true_and, and_true, decide_true, decide_false, Bool.not_true, Bool.not_false, reduceIte, Nat.reduceEqDiff, Nat.reduceAdd, Nat.reduceMul, Nat.reduceSub, Nat.reduceLeDiff, Nat.reduceLT, ret_tt, Int.reduceEq]
    exact ⟨⟨hx1.sub.trans (hm.sub.trans hx3.sub), by omega, by omega, by omega⟩, .inr (.inl ⟨hf, he, rfl⟩)⟩
  · have hG := good_of hf
    obtain ⟨z1, z2, z3⟩ := hG.sz
    have ho4 : allB oneCell [F, V, S, tv] = true := by have h1 := hy.one; have h2 := Cells.one htr; simp [allB] at h1 ⊢; simp [h1, h2]
    simp only [rn0, rn1, rn2, rn3, rn4, rn5, rn6, rn7, rn8, if_true, if_false, Nat.le_refl, true_and, and_true, decide_true, decide_false, Bool.not_true, Bool.not_false, reduceIte, Nat.reduceEqDiff, Nat.reduceAdd, Nat.reduceMul, Nat.reduceSub, Nat.reduceLeDiff, Nat.reduceLT, w1, eo, ex0, ex1]
    refine step_new (vs := [F, V, S, tv]) (by omega) (by omega) rfl (by simp only [rn0, rn1, rn2, rn3, rn4, rn5, rn6, rn7, rn8, if_true, if_false, Nat.le_refl, true_and, and_true, decide_true, decide_false, Bool.not_true, Bool.not_false, reduceIte, Nat.reduceEqDiff, Nat.reduceAdd, Nat.reduceMul, Nat.reduceSub, Nat.reduceLeDiff, Nat.reduceLT]; rfl) ho4 rfl rfl fun g3 hx3 => ?_
    have n3 := hx3.next
    have f3 := hx3.floor
    have w3 := hx3.row.whole (n := 4) rfl
    have s3 : Sub All h g3 := hx1.sub.trans (hm.sub.trans hx3.sub)
    have hy3 := hy.mono s3
    obtain ⟨l, g4, e4, hl4, m4, o4⟩ := bounds_o (n := n) (h := g3) (F := F) (V := V) (S := S) (tv := tv) (L := truths Y) (G := 91) (m := Y.nf) (val := fun k t => t k) (by omega) (by omega) (by omega) ho4 he (truths_len hf) (Cells.mono htr hx3.sub) hlong (by omega) fun g hs hg k hk t ht =>
      inBundle_c (n := n - 1) (h := g) (by omega) (by omega) ho4 (by omega)
    have n4 := m4.next
    have u4 := m4.up
    have f4 := m4.floor
    simp only [rn0, rn1, rn2, rn3, rn4, rn5, rn6, rn7, rn8, if_true, if_false, Nat.le_refl, true_and, and_true, decide_true, decide_false, Bool.not_true, Bool.not_false, reduceIte, Nat.reduceEqDiff, Nat.reduceAdd, Nat.reduceMul, Nat.reduceSub, Nat.reduceLeDiff, Nat.reduceLT, build_fn, w3, hx3.row.ld, Nat.zero_add, List.getElem?_cons_zero, List.getElem?_cons_succ, Cells.len hy3.f, e4, ret_tt]
    exact ⟨⟨s3.trans m4.sub, by omega, by omega, by omega⟩, .inr (.inr ⟨hf, he, _, rfl, hl4, o4.le (by omega)⟩)⟩
/-! ### The reference's bounds -/
def PlayRo (h : AHeap) (Y : MY) (nb : Nat) (b : Nat → Int) (v : Value) (h' : AHeap) : Prop := Made h h' 50 ∧
      ((faultN Y ≠ 0 ∧ v = .tuple ⟨[nilS, .int .i64 (faultN Y)]⟩) ∨ (faultN Y = 0 ∧ ¬ AreB Y nb b ∧ v = .tuple ⟨[nilS, .int .i64 2]⟩) ∨
        (faultN Y = 0 ∧ AreB Y nb b ∧ ∃ l, v = .tuple ⟨[l, .int .i64 0]⟩ ∧ (Ints h' l Y.nv fun k => blueN b (Y.q k) Y.nf) ∧ Own h.next h' l 1 Y.nv))
theorem play_o (hn : 10005 ≤ n) (hr : h.next + 200 < far) (hfl : h.floor ≤ h.next) {F V S vb : Value} {Y : MY} {nb : Nat} {b : Nat → Int} (hy : YardR h F V S Y) (hY : Thin Y) (hb : Ints h vb nb b) (hl : nb ≤ 30) :
    ∃ v h', call n (.func (.func 25) #[] #[]) [.agg ⟨[F, V, S]⟩, vb] h = some (v, h') ∧ PlayRo h Y nb b v h' := by
  obtain ⟨n, rfl⟩ : ∃ p, n = p + 1 := ⟨n - 1, by omega⟩
  refine call_any0 fok25 rfl rfl (by simp) ?_
  simp only [s25, W_seq, W_ops]
  refine ops_box (cs := [F, V, S]) (by omega) rfl hy.one fun g1 hx1 => ?_
  have n1 := hx1.next
  have f1 := hx1.floor
  have hy1 := hy.mono hx1.sub
  have w1 := hx1.row.whole (n := 3) rfl
  have ec := checkYard_c (n := n) (h := g1) (by omega) (by omega) hy1 hY
  by_cases hf : faultN Y = 0
  case neg =>
    simp only [rn0, rn1, rn2, rn3, rn4, rn5, rn6, rn7, rn8, if_true, if_false, Nat.le_refl, true_and, and_true, decide_true, decide_false, Bool.not_true, Bool.not_false, reduceIte, Nat.reduceEqDiff, Nat.reduceAdd, Nat.reduceMul, Nat.reduceSub, Nat.reduceLeDiff, Nat.reduceLT, w1, ec, hf, ret_tt]
    exact ⟨⟨hx1.sub, by omega, by omega, f1⟩, .inl ⟨hf, rfl⟩⟩
  have hG := good_of hf
  obtain ⟨z1, z2, z3⟩ := hG.sz
  have ho4 : allB oneCell [F, V, S, .slice none 0 0] = true := by have := hy.one; simp [allB] at this ⊢; simp [this]; rfl
  simp only [rn0, rn1, rn2, rn3, rn4, rn5, rn6, rn7, rn8, if_true, if_false, Nat.le_refl, true_and, and_true, decide_true, decide_false, Bool.not_true, Bool.not_false, reduceIte, Nat.reduceEqDiff, Nat.reduceAdd, Nat.reduceMul, Nat.reduceSub, Nat.reduceLeDiff, Nat.reduceLT, w1, ec, hf, build_work]
  refine step_new (vs := [F, V, S, .slice none 0 0]) (by omega) (by omega) rfl (by simp only [rn0, rn1, rn2, rn3, rn4, rn5, rn6, rn7, rn8, if_true, if_false, Nat.le_refl, true_and, and_true, decide_true, decide_false, Bool.not_true, Bool.not_false, reduceIte, Nat.reduceEqDiff, Nat.reduceAdd, Nat.reduceMul, Nat.reduceSub, Nat.reduceLeDiff, Nat.reduceLT]; rfl) ho4 rfl rfl fun g2 hx2 => ?_
  have n2 := hx2.next
  have f2 := hx2.floor
  have hy2 := hy1.mono hx2.sub
  have hb2 := Cells.mono (Cells.mono hb hx1.sub) hx2.sub
  have w2 := hx2.row.whole (n := 4) rfl
  have hs2 : Sub All h g2 := hx1.sub.trans hx2.sub
  obtain ⟨t0, t1⟩ := toBlues_c (n := n) (h := g2) (by omega) (by omega) hy2.f ho4 hb2 hl z1
  by_cases hB : AreB Y nb b
  case neg =>
    have e := t0 fun h => hB ⟨h.1, fun k hk => h.2 k (by rw [← h.1]; exact hk)⟩
    simp only [rn0, rn1, rn2, rn3, rn4, rn5, rn6, rn7, rn8, if_true, if_false, Nat.le_refl, true_and, and_true, decide_true, decide_false, Bool.not_true, Bool.not_false, reduceIte, Nat.reduceEqDiff, Nat.reduceAdd, Nat.reduceMul, Nat.reduceSub, Nat.reduceLeDiff, Nat.reduceLT, w2, e, ex0, ex1]
    refine step_new (vs := arr (upto 0 b)) (by omega) (by omega) rfl (by simp only [rn0, rn1, rn2, rn3, rn4, rn5, rn6, rn7, rn8, if_true, if_false, Nat.le_refl, true_and, and_true, decide_true, decide_false, Bool.not_true, Bool.not_false, reduceIte, Nat.reduceEqDiff, Nat.reduceAdd, Nat.reduceMul, Nat.reduceSub, Nat.reduceLeDiff, Nat.reduceLT]; rfl) arr_one arr_len rfl fun g3 hx3 => ?_
    have n3 := hx3.next
    have f3 := hx3.floor
    simp only [rn0, rn1, rn2, rn3, rn4, rn5, rn6, rn7, rn8, if_true, if_false, Nat.le_refl, true_and, and_true, decide_true, decide_false, Bool.not_true, Bool.not_false, reduceIte, Nat.reduceEqDiff, Nat.reduceAdd, Nat.reduceMul, Nat.reduceSub, Nat.reduceLeDiff, Nat.reduceLT, ret_tt]
    exact ⟨⟨hs2.trans hx3.sub, by omega, by omega, by omega⟩, .inr (.inl ⟨hf, hB, rfl⟩)⟩
  have e := t1 ⟨hB.1, fun k hk => hB.2 k (by rw [hB.1]; exact hk)⟩
  simp only [rn0, rn1, rn2, rn3, rn4, rn5, rn6, rn7, rn8, if_true, if_false, Nat.le_refl, true_and, and_true, decide_true, decide_false, Bool.not_true, Bool.not_false, reduceIte, Nat.reduceEqDiff, Nat.reduceAdd, Nat.reduceMul, Nat.reduceSub, Nat.reduceLeDiff, Nat.reduceLT, w2, e, ex0, ex1]
  refine step_new (vs := arr (upto Y.nf b)) (by omega) (by omega) rfl (by simp only [rn0, rn1, rn2, rn3, rn4, rn5, rn6, rn7, rn8, if_true, if_false, Nat.le_refl, true_and, and_true, decide_true, decide_false, Bool.not_true, Bool.not_false, reduceIte, Nat.reduceEqDiff, Nat.reduceAdd, Nat.reduceMul, Nat.reduceSub, Nat.reduceLeDiff, Nat.reduceLT]; rfl) arr_one arr_len rfl fun g3 hx3 => ?_
  have n3 := hx3.next
  have f3 := hx3.floor
  have hy3 := hy2.mono hx3.sub
  have r2 := hx2.row.mono hx3.sub
  obtain ⟨rr, hrw, hq⟩ := hy3.v
  simp only [rn0, rn1, rn2, rn3, rn4, rn5, rn6, rn7, rn8, if_true, if_false, Nat.le_refl, true_and, and_true, decide_true, decide_false, Bool.not_true, Bool.not_false, reduceIte, Nat.reduceEqDiff, Nat.reduceAdd, Nat.reduceMul, Nat.reduceSub, Nat.reduceLeDiff, Nat.reduceLT, r2.ld, Nat.zero_add, List.getElem?_cons_zero, List.getElem?_cons_succ, Cells.len hrw, make_ints (m := Y.nv) (by omega), repl_mix (n := Y.nv) (a := fun k => blueN b (Y.q k) Y.nf)]
  refine step_slice (by omega) mix_one fun g4 hx4 => ?_
  have n4 := hx4.next
  have f4 := hx4.floor
  have hy4 := hy3.mono hx4.sub
  have r24 := r2.mono hx4.sub
  have r34 := hx3.row.mono hx4.sub
  simp only [rn0, rn1, rn2, rn3, rn4, rn5, rn6, rn7, rn8, if_true, if_false, Nat.le_refl, true_and, and_true, decide_true, decide_false, Bool.not_true, Bool.not_false, reduceIte, Nat.reduceEqDiff, Nat.reduceAdd, Nat.reduceMul, Nat.reduceSub, Nat.reduceLeDiff, Nat.reduceLT, r24.ld, Nat.zero_add, List.getElem?_cons_zero, List.getElem?_cons_succ, Cells.len (Cells.mono hrw hx4.sub)]
  refine W_loop Y.nv (fun k f g m => (Keep g3.next g4 g ∧ g.get g3.next = some (.row (mix Y.nv k fun k => blueN b (Y.q k) Y.nf) true 0) ∧ g.next = g4.next) ∧ m = [] ∧ f 7 = .pointer (some ⟨g1.next, 0, none⟩) ∧ f 8 = .pointer (some ⟨g2.next, 0, none⟩) ∧ f 10 = .slice (some ⟨g3.next, 0, none⟩) Y.nv Y.nv ∧ f 35 = .int .i64 (Y.nv : Int) ∧ f 36 = .int .i64 (k : Int)) (by simp; omega) ?_ ?_ ?_
  · simp only [rn0, rn1, rn2, rn3, rn4, rn5, rn6, rn7, rn8, if_true, if_false, Nat.le_refl, true_and, and_true, decide_true, decide_false, Bool.not_true, Bool.not_false, reduceIte, Nat.reduceEqDiff, Nat.reduceAdd, Nat.reduceMul, Nat.reduceSub, Nat.reduceLeDiff, Nat.reduceLT]
    exact ⟨⟨Keep.refl, hx4.get⟩, rfl⟩
  · rintro k f g m hk ⟨⟨st, go, gn⟩, rfl, f7, f8, f10, f35, f36⟩
    have hk' : (k : Int) < (Y.nv : Int) := by omega
    have hw : wrapF .i64 ((k : Int) + 1) = ((k + 1 : Nat) : Int) := by rw [wrap_in (by omega) (by omega)]; rfl
    have hfg := st.floor
    have s34 : Sub All g3 g := fun i cs w gr _ hg => st.sub _ _ _ _ (by have := AHeap.lt_of_get hg; omega) (hx4.sub _ _ _ _ trivial hg)
    have hyg := hy3.mono s34
    have q7 := (r2.mono s34).whole (n := 4) rfl
    have q8 := (hx3.row.mono s34).whole arr_len
    obtain ⟨v1, v2⟩ := hG.v k hk
    have ei := inVat_c (n := n) (h := g) (b := upto Y.nf b) (F := F) (S := S) (T := .slice none 0 0) (at_ := k) (by omega) (by omega) hyg.v ho4 hk v1 z1 (fun i hi => by simp only [upto, hi, if_true]; exact hB.range hG.f i (by rw [hB.1]; exact hi)) (fun i hi => v2 i (by rw [v1]; exact hi))
    rw [blueN_upto] at ei
    simp only [rn0, rn1, rn2, rn3, rn4, rn5, rn6, rn7, rn8, if_true, if_false, Nat.le_refl, true_and, and_true, decide_true, decide_false, Bool.not_true, Bool.not_false, reduceIte, Nat.reduceEqDiff, Nat.reduceAdd, Nat.reduceMul, Nat.reduceSub, Nat.reduceLeDiff, Nat.reduceLT, f7, f8, f10, f35, f36, hk', q7, q8, ei, idxSl_p hk]
    refine step_store (vs := [.int .i64 (blueN b (Y.q k) Y.nf)]) rfl go (by omega) (by omega) rfl rfl rfl (by rw [mix_len]; omega) fun g5 hs => ?_
    have h5 := hs.get
    rw [mix_splice (a := fun k => blueN b (Y.q k) Y.nf) hk] at h5
    simp only [rn0, rn1, rn2, rn3, rn4, rn5, rn6, rn7, rn8, if_true, if_false, Nat.le_refl, true_and, and_true, decide_true, decide_false, Bool.not_true, Bool.not_false, reduceIte, Nat.reduceEqDiff, Nat.reduceAdd, Nat.reduceMul, Nat.reduceSub, Nat.reduceLeDiff, Nat.reduceLT, f7, f8, f10, f35, f36, hw]
    exact ⟨set_keep st hs, h5, by rw [hs.next, gn]⟩
  · rintro f g m ⟨⟨st, go, gn⟩, rfl, f7, f8, f10, f35, f36⟩
    simp only [rn0, rn1, rn2, rn3, rn4, rn5, rn6, rn7, rn8, if_true, if_false, Nat.le_refl, true_and, and_true, decide_true, decide_false, Bool.not_true, Bool.not_false, reduceIte, Nat.reduceEqDiff, Nat.reduceAdd, Nat.reduceMul, Nat.reduceSub, Nat.reduceLeDiff, Nat.reduceLT, f7, f8, f10, f35, f36, Int.lt_irrefl, ret_tt]
    refine ⟨⟨fun i cs w gr _ hg => st.sub _ _ _ _ (by have := AHeap.lt_of_get hg; omega) (hx4.sub _ _ _ _ trivial (hx3.sub _ _ _ _ trivial (hs2 _ _ _ _ trivial hg))), by omega, by omega, by have := st.floor; omega⟩, .inr (.inr ⟨hf, hB, _, rfl, ?_, .inr ⟨g3.next, Y.nv, _, _, rfl, by omega, go, by rw [mix_len]; omega⟩⟩)⟩
    refine ⟨_, _, rfl, fun x e => by cases e; rfl, .inr ⟨_, 0, _, _, _, rfl, go, fun k j hk hj => ?_⟩⟩
    rw [show 0 + k * 1 + j = k by omega, mix_get hk, if_pos hk]
theorem clone_o (hn : 1 ≤ n) (hr : h.next + 2 < far) {b cap m : Nat} {a : Nat → Int} (hi : Ints h (.slice (some ⟨b, 0, none⟩) m cap) m a) (hm : m ≤ 30) :
    ∃ v' h', call n (.func (.func 102) #[] #[]) [.slice (some ⟨b, 0, none⟩) m cap] h = some (v', h') ∧ Ints h' v' m a ∧ Own h.next h' v' 1 m ∧ Made h h' 2 ∧ oneCell v' = true ∧ ∀ a k c, v' = .slice (some a) k c → h.next ≤ a.block ∧ a.block < h'.next := by
  obtain ⟨n, rfl⟩ : ∃ p, n = p + 1 := ⟨n - 1, by omega⟩
  refine call_any0 fok102 rfl rfl (by simp) ?_
  simp only [rn0, rn1, rn2, rn3, rn4, rn5, rn6, rn7, rn8, if_true, if_false, Nat.le_refl, true_and, and_true, decide_true, decide_false, Bool.not_true, Bool.not_false, reduceIte, Nat.reduceEqDiff, Nat.reduceAdd, Nat.reduceMul, Nat.reduceSub, Nat.reduceLeDiff, Nat.reduceLT, s102, build_none, x_eqNil, eqNil_no]
  refine step_slice (by omega) rfl fun h1 hx => ?_
  have hi1 := Cells.mono hi hx.sub
  obtain ⟨x, k, e1, e2⟩ := Ints.cells hi1
  have hap := append_none (s := 1) (bytes := 8) (b := h.next) ⟨x, k, e1⟩ e2 (by simp) (by simp [maxBytes]; omega) (by simp [maxBytes]; omega)
  by_cases hz : m = 0
  · rw [if_pos hz] at hap
    simp only [rn0, rn1, rn2, rn3, rn4, rn5, rn6, rn7, rn8, if_true, if_false, Nat.le_refl, true_and, and_true, decide_true, decide_false, Bool.not_true, Bool.not_false, reduceIte, Nat.reduceEqDiff, Nat.reduceAdd, Nat.reduceMul, Nat.reduceSub, Nat.reduceLeDiff, Nat.reduceLT, hap]
    refine ⟨⟨_, _, by rw [hz], fun x e => by cases e; rfl, .inl hz⟩, .inl ⟨_, _, rfl, hz⟩, ⟨hx.sub, by rw [hx.next]; omega, by rw [hx.next]; omega, hx.floor⟩, rfl, fun a k c e => by cases e; exact ⟨Nat.le_refl _, by rw [hx.next]; exact Nat.lt_succ_self _⟩⟩
  · rw [if_neg hz] at hap
    simp only [rn0, rn1, rn2, rn3, rn4, rn5, rn6, rn7, rn8, if_true, if_false, Nat.le_refl, true_and, and_true, decide_true, decide_false, Bool.not_true, Bool.not_false, reduceIte, Nat.reduceEqDiff, Nat.reduceAdd, Nat.reduceMul, Nat.reduceSub, Nat.reduceLeDiff, Nat.reduceLT, hap]
    refine step_slice (by rw [hx.next]; omega) (by rw [allB_iff]; intro v hv; obtain ⟨i, _, rfl⟩ := List.mem_map.1 hv; rfl) fun h2 hx2 => ?_
    simp only [rn0, rn1, rn2, rn3, rn4, rn5, rn6, rn7, rn8, if_true, if_false, Nat.le_refl, true_and, and_true, decide_true, decide_false, Bool.not_true, Bool.not_false, reduceIte, Nat.reduceEqDiff, Nat.reduceAdd, Nat.reduceMul, Nat.reduceSub, Nat.reduceLeDiff, Nat.reduceLT]
    refine ⟨⟨_, _, rfl, fun x e => by cases e; rfl, .inr ⟨_, 0, _, _, _, rfl, hx2.get, fun k j hk hj => ?_⟩⟩, .inr ⟨h1.next, _, _, _, rfl, by rw [hx.next]; omega, hx2.get, by simp⟩, ⟨hx.sub.trans hx2.sub, by rw [hx2.next, hx.next]; omega, by rw [hx2.next, hx.next]; omega, by rw [hx2.floor, hx.floor]⟩, rfl, fun a k c e => by cases e; exact ⟨by show h.next ≤ h1.next; rw [hx.next]; omega, by rw [hx2.next]; exact Nat.lt_succ_self _⟩⟩
    rw [show 0 + k * 1 + j = k by omega, List.getElem?_map, List.getElem?_range hk]
    rfl
def SpreadRo (h : AHeap) (Y : MY) (field many : Int) (v : Value) (h' : AHeap) : Prop := Made h h' 400000 ∧
  ((spreadE Y field many ≠ 0 ∧ v = .tuple ⟨[nilS, .int .i64 0, .int .i64 (spreadE Y field many)]⟩) ∨
    (spreadE Y field many = 0 ∧ ∃ l, v = .tuple ⟨[l, .int .i64 (bestS Y field.toNat many.toNat).2, .int .i64 0]⟩ ∧ Ints h' l Y.nv (bestS Y field.toNat many.toNat).1 ∧ Own h.next h' l 1 Y.nv ∧ oneCell l = true ∧ ∀ a k c, l = .slice (some a) k c → h.next ≤ a.block ∧ a.block < h'.next))
open Classical in
theorem spread_o (hn : 10070 ≤ n) (hr : h.next + 600000 < far) (hfl : h.floor ≤ h.next) {F V S : Value} {Y : MY} (hy : YardR h F V S Y) (hY : Thin Y) (field many : Int) :
    ∃ v h', call n (.func (.func 48) #[] #[]) [.agg ⟨[F, V, S]⟩, .int .i64 field, .int .i64 many] h = some (v, h') ∧ SpreadRo h Y field many v h' := by
  obtain ⟨n, rfl⟩ : ∃ p, n = p + 1 := ⟨n - 1, by omega⟩
  refine call_any0 fok48 rfl rfl (by simp) ?_
  simp only [s48, W_seq, W_ops]
  refine ops_box (cs := [F, V, S]) (by omega) rfl hy.one fun g1 hx1 => ?_
  have n1 := hx1.next
  have f1 := hx1.floor
  have w1 := hx1.row.whole (n := 3) rfl
  obtain ⟨v, g2, eo, hm, ho⟩ := open_c (n := n) (h := g1) (by omega) (by omega) (by omega) (hy.mono hx1.sub) hY
  have n2 := hm.next
  have u2 := hm.up
  have f2 := hm.floor
  generalize hres : spreadE Y field many = E
  have made : ∀ g g', Sub All h g → Made g g' 130000 → h.next ≤ g.next → g.next ≤ h.next + 240000 → g.floor = h.floor → Made h g' 400000 := fun g g' hs hg h1 h2 h3 => by
    have a1 := hg.next
    have a2 := hg.up
    have a3 := hg.floor
    exact ⟨hs.trans hg.sub, by omega, by omega, by omega⟩
  have made0 : ∀ g, Made g g 130000 := fun g => ⟨Sub.refl, by omega, Nat.le_refl _, rfl⟩
  rcases ho with ⟨hf, rfl⟩ | ⟨hf, tv, rfl, htr, hlong⟩
  · have hE : E = faultN Y := by rw [← hres]; unfold spreadE; rw [if_pos hf]
    simp only [rn0, rn1, rn2, rn3, rn4, rn5, rn6, rn7, rn8, if_true, if_false, Nat.le_refl, true_and, and_true, decide_true, decide_false, Bool.not_true, Bool.not_false, reduceIte, Nat.reduceEqDiff, Nat.reduceAdd, Nat.reduceMul, Nat.reduceSub, Nat.reduceLeDiff, Nat.reduceLT, w1, eo, ex0, ex1]
    refine step_new (vs := [nilS, nilS, nilS, nilS]) (by omega) (by omega) rfl (by simp only [rn0, rn1, rn2, rn3, rn4, rn5, rn6, rn7, rn8, if_true, if_false, Nat.le_refl, true_and, and_true, decide_true, decide_false, Bool.not_true, Bool.not_false, reduceIte, Nat.reduceEqDiff, Nat.reduceAdd, Nat.reduceMul, Nat.reduceSub, Nat.reduceLeDiff, Nat.reduceLT]; rfl) rfl rfl rfl fun g3 hx3 => ?_
    have n3 := hx3.next
    have f3 := hx3.floor
    simp only [rn0, rn1, rn2, rn3, rn4, rn5, rn6, rn7, rn8, if_true, if_false, Nat.le_refl, true_and, and_true, decide_true, decide_false, Bool.not_true, Bool.not_false, reduceIte, Nat.reduceEqDiff, Nat.reduceAdd, Nat.reduceMul, Nat.reduceSub, Nat.reduceLeDiff, Nat.reduceLT, hf, ret_ttt]
    exact ⟨made g3 g3 (hx1.sub.trans (hm.sub.trans hx3.sub)) (made0 _) (by omega) (by omega) (by omega), .inl ⟨by rw [hres, hE]; exact hf, by rw [hres, hE]⟩⟩
  have hG := good_of hf
  obtain ⟨z1, z2, z3⟩ := hG.sz
  have ho4 : allB oneCell [F, V, S, tv] = true := by have h1 := hy.one; have h2 := Cells.one htr; simp [allB] at h1 ⊢; simp [h1, h2]
  have hE : E = if ¬ SpreadArgs Y field many then 2 else if truths Y = [] then 11 else if Y.nv = 0 then 7 else 0 := by rw [← hres]; unfold spreadE; rw [if_neg (by simpa using hf)]
  simp only [rn0, rn1, rn2, rn3, rn4, rn5, rn6, rn7, rn8, if_true, if_false, Nat.le_refl, true_and, and_true, decide_true, decide_false, Bool.not_true, Bool.not_false, reduceIte, Nat.reduceEqDiff, Nat.reduceAdd, Nat.reduceMul, Nat.reduceSub, Nat.reduceLeDiff, Nat.reduceLT, w1, eo, ex0, ex1, hf]
  refine step_new (vs := [F, V, S, tv]) (by omega) (by omega) rfl (by simp only [rn0, rn1, rn2, rn3, rn4, rn5, rn6, rn7, rn8, if_true, if_false, Nat.le_refl, true_and, and_true, decide_true, decide_false, Bool.not_true, Bool.not_false, reduceIte, Nat.reduceEqDiff, Nat.reduceAdd, Nat.reduceMul, Nat.reduceSub, Nat.reduceLeDiff, Nat.reduceLT]; rfl) ho4 rfl rfl fun g3 hx3 => ?_
  have n3 := hx3.next
  have f3 := hx3.floor
  have hs3 : Sub All h g3 := hx1.sub.trans (hm.sub.trans hx3.sub)
  have hy3 := hy.mono hs3
  have w3 := hx3.row.whole (n := 4) rfl
  have htr3 : TruthsR g3 tv (truths Y) := Cells.mono htr hx3.sub
  obtain ⟨rr, hrw, hq⟩ := hy3.v
  have eg := hasField_c (n := n) (h := g3) (by omega) (by omega) hy3.f ho4 field
  have ef := isFurther_c (n := n) (h := g3) (by omega) many
  have M3 := made g3 g3 hs3 (made0 _) (by omega) (by omega) (by omega)
  have bad : ∀ x : Int, E = x → x ≠ 0 → SpreadRo h Y field many (.tuple ⟨[nilS, .int .i64 0, .int .i64 x]⟩) g3 := fun x e hx => ⟨M3, .inl ⟨by rw [hres, e]; exact hx, by rw [hres, e]⟩⟩
  by_cases a1 : 0 ≤ field ∧ field ≤ (Y.nf : Int) - 1
  case neg =>
    have h2 := bad 2 (by rw [hE, if_pos fun h => a1 h.1]) (by omega)
    simp only [rn0, rn1, rn2, rn3, rn4, rn5, rn6, rn7, rn8, if_true, if_false, Nat.le_refl, true_and, and_true, decide_true, decide_false, Bool.not_true, Bool.not_false, reduceIte, Nat.reduceEqDiff, Nat.reduceAdd, Nat.reduceMul, Nat.reduceSub, Nat.reduceLeDiff, Nat.reduceLT, w3, eg, a1, ret_ttt]
    exact h2
  by_cases a2 : 0 ≤ many ∧ many ≤ 9
  case neg =>
    have h2 := bad 2 (by rw [hE, if_pos fun h => a2 h.2]) (by omega)
    simp only [rn0, rn1, rn2, rn3, rn4, rn5, rn6, rn7, rn8, if_true, if_false, Nat.le_refl, true_and, and_true, decide_true, decide_false, Bool.not_true, Bool.not_false, reduceIte, Nat.reduceEqDiff, Nat.reduceAdd, Nat.reduceMul, Nat.reduceSub, Nat.reduceLeDiff, Nat.reduceLT, w3, eg, a1, ef, a2, and_self, ret_ttt]
    exact h2
  have hargs : SpreadArgs Y field many := ⟨a1, a2⟩
  rw [if_neg (by simpa using hargs)] at hE
  by_cases he : truths Y = []
  · have h2 := bad 11 (by rw [hE, if_pos he]) (by omega)
    have hl : (truths Y).length = 0 := by rw [he]; rfl
    simp only [rn0, rn1, rn2, rn3, rn4, rn5, rn6, rn7, rn8, if_true, if_false, Nat.le_refl, true_and, and_true, decide_true, decide_false, Bool.not_true, Bool.not_false, reduceIte, Nat.reduceEqDiff, Nat.reduceAdd, Nat.reduceMul, Nat.reduceSub, Nat.reduceLeDiff, Nat.reduceLT, w3, eg, a1, ef, a2, and_self, hx3.row.ld, Nat.zero_add, List.getElem?_cons_zero, List.getElem?_cons_succ, Cells.len htr3, hl, Int.natCast_zero, ret_ttt]
    exact h2
  rw [if_neg he] at hE
  have hl : ¬ ((truths Y).length : Int) = 0 := fun e => he (List.eq_nil_of_length_eq_zero (by omega))
  by_cases hv0 : Y.nv = 0
  · have h2 := bad 7 (by rw [hE, if_pos hv0]) (by omega)
    simp only [rn0, rn1, rn2, rn3, rn4, rn5, rn6, rn7, rn8, if_true, if_false, Nat.le_refl, true_and, and_true, decide_true, decide_false, Bool.not_true, Bool.not_false, reduceIte, Nat.reduceEqDiff, Nat.reduceAdd, Nat.reduceMul, Nat.reduceSub, Nat.reduceLeDiff, Nat.reduceLT, w3, eg, a1, ef, a2, and_self, hx3.row.ld, Nat.zero_add, List.getElem?_cons_zero, List.getElem?_cons_succ, Cells.len htr3, hl, Cells.len hrw, hv0, Int.natCast_zero, ret_ttt]
    exact h2
  rw [if_neg hv0] at hE
  have hv0' : ¬ (Y.nv : Int) = 0 := by omega
  obtain ⟨fN, rfl⟩ : ∃ k : Nat, field = k := ⟨field.toNat, by omega⟩
  obtain ⟨mN, rfl⟩ : ∃ k : Nat, many = k := ⟨many.toNat, by omega⟩
  obtain ⟨bv, g4, eb, rfl, hm4⟩ := bestSpread_c (n := n) (h := g3) (f := fN) (many := mN) (by omega) (by omega) (by omega) hy3 hf he htr3 hlong (by omega) (by omega) (by omega)
  have hbs : spRun (fun v k => sureN Y v fN k (truths Y)) Y.nv mN = bestS Y fN mN := rfl
  rw [hbs] at eb
  generalize hbb : bestS Y fN mN = B at eb
  have n4 := hm4.next
  have u4 := hm4.up
  have f4 := hm4.floor
  simp only [rn0, rn1, rn2, rn3, rn4, rn5, rn6, rn7, rn8, if_true, if_false, Nat.le_refl, true_and, and_true, decide_true, decide_false, Bool.not_true, Bool.not_false, reduceIte, Nat.reduceEqDiff, Nat.reduceAdd, Nat.reduceMul, Nat.reduceSub, Nat.reduceLeDiff, Nat.reduceLT, w3, eg, a1, ef, a2, and_self, hx3.row.ld, Nat.zero_add, List.getElem?_cons_zero, List.getElem?_cons_succ, Cells.len htr3, hl, Cells.len hrw, hv0', eb, ex0, ex1]
  refine step_new (vs := arr4 B.1) (by omega) (by omega) rfl (by simp only [rn0, rn1, rn2, rn3, rn4, rn5, rn6, rn7, rn8, if_true, if_false, Nat.le_refl, true_and, and_true, decide_true, decide_false, Bool.not_true, Bool.not_false, reduceIte, Nat.reduceEqDiff, Nat.reduceAdd, Nat.reduceMul, Nat.reduceSub, Nat.reduceLeDiff, Nat.reduceLT]; rfl) arr4_one arr4_len rfl fun g5 hx5 => ?_
  have n5 := hx5.next
  have f5 := hx5.floor
  have r35 : Row g5 g2.next [F, V, S, tv] := (hx3.row.mono hm4.sub).mono hx5.sub
  have hrw5 := (Cells.mono hrw hm4.sub).mono hx5.sub
  have hin : Ints g5 (.slice (some ⟨g4.next, 0, none⟩) Y.nv 4) Y.nv B.1 := ⟨_, _, rfl, fun x e => by cases e; rfl, .inr ⟨_, 0, _, _, _, rfl, hx5.get, fun k j hk hj => by
    obtain rfl : j = 0 := by omega
    unfold arr4
    rw [List.getElem?_map, List.getElem?_range (by omega), show 0 + k * 1 + 0 = k by omega]; rfl⟩⟩
  obtain ⟨cv, g6, ec, hci, hco, hcm, hc1, hcb⟩ := clone_o (n := n) (h := g5) (by omega) (by omega) hin (by omega)
  have n6 := hcm.next
  have u6 := hcm.up
  have f6 := hcm.floor
  simp only [rn0, rn1, rn2, rn3, rn4, rn5, rn6, rn7, rn8, if_true, if_false, Nat.le_refl, true_and, and_true, decide_true, decide_false, Bool.not_true, Bool.not_false, reduceIte, Nat.reduceEqDiff, Nat.reduceAdd, Nat.reduceMul, Nat.reduceSub, Nat.reduceLeDiff, Nat.reduceLT, r35.ld, Nat.zero_add, List.getElem?_cons_zero, List.getElem?_cons_succ, Cells.len hrw5, sliceArr4 (h := g5) (b := g4.next) (m := Y.nv) (by omega), ec, ret_ttt, x_sliceArr, Option.map_none, Option.map_some]
  refine ⟨⟨hs3.trans (hm4.sub.trans (hx5.sub.trans hcm.sub)), by omega, by omega, by omega⟩, .inr ⟨by rw [hres, hE], cv, ?_, ?_, hco.le (by omega), hc1, fun a k c e => by have := hcb a k c e; omega⟩⟩
  · simp only [Int.toNat_natCast, hbb]
  · simp only [Int.toNat_natCast, hbb]; exact hci
theorem wrong_o (hn : 10010 ≤ n) (hr : h.next + 60 < far) (hfl : h.floor ≤ h.next) {F V S T : Value} {Y : MY} {b : Nat → Int} (hS : Samps h S Y.ns Y.sv Y.slo Y.shi) (hsn : Y.ns ≤ 5) (hso : SampsOk Y) (ha : AtVat h V Y b) (h1 : allB oneCell [F, V, S, T] = true) :
    ∃ v h', call n (.func (.func 106) #[] #[]) [.agg ⟨[F, V, S, T]⟩, .agg ⟨arr b⟩] h = some (v, h') ∧ Ints h' v (wrongTo Y b Y.ns).length (fun i => (wrongTo Y b Y.ns).getD i 0) ∧ Own h.next h' v 1 (wrongTo Y b Y.ns).length ∧ Made h h' 50 ∧ oneCell v = true ∧ (∀ a k c, v = .slice (some a) k c → h.next ≤ a.block ∧ a.block < h'.next) ∧ Long v ∧ ∀ i, i < h.next → h'.get i = h.get i := by
  obtain ⟨n, rfl⟩ : ∃ p, n = p + 1 := ⟨n - 1, by omega⟩
  refine call_any0 fok106 rfl rfl (by simp) ?_
  simp only [s106, W_seq, W_ops]
  refine ops_box (cs := [F, V, S, T]) (by omega) rfl h1 fun g1 hx1 => ?_
  have n1 := hx1.next
  have f1 := hx1.floor
  refine ops_box (cs := arr b) (by omega) rfl arr_one fun g2 hx2 => ?_
  have n2 := hx2.next
  have f2 := hx2.floor
  have s2 : Sub All h g2 := hx1.sub.trans hx2.sub
  have r1 := hx1.row.mono hx2.sub
  have r2 := hx2.row
  simp only [rn0, rn1, rn2, rn3, rn4, rn5, rn6, rn7, rn8, if_true, if_false, Nat.le_refl, true_and, and_true, decide_true, decide_false, Bool.not_true, Bool.not_false, reduceIte, Nat.reduceEqDiff, Nat.reduceAdd, Nat.reduceMul, Nat.reduceSub, Nat.reduceLeDiff, Nat.reduceLT, r1.ld, Nat.zero_add, List.getElem?_cons_zero, List.getElem?_cons_succ, Cells.len hS]
  refine W_loop Y.ns (fun k f g ms => (∃ v, (∀ i, i < g2.next → g.get i = g2.get i) ∧ g.floor = g2.floor ∧ g2.next ≤ g.next ∧ g.next ≤ g2.next + 5 * k ∧ GrowC g2.next g v 1 (wrongTo Y b k).length (fun i _ => .int .i64 ((wrongTo Y b k).getD i 0)) ∧ f 5 = v) ∧ ms = [] ∧ f 2 = .pointer (some ⟨h.next, 0, none⟩) ∧ f 3 = .pointer (some ⟨g1.next, 0, none⟩) ∧ f 10 = S ∧ f 11 = .int .i64 (Y.ns : Int) ∧ f 12 = .int .i64 (k : Int)) (by simp; omega) ?_ ?_ ?_
  · simp only [rn0, rn1, rn2, rn3, rn4, rn5, rn6, rn7, rn8, if_true, if_false, Nat.le_refl, true_and, and_true, decide_true, decide_false, Bool.not_true, Bool.not_false, reduceIte, Nat.reduceEqDiff, Nat.reduceAdd, Nat.reduceMul, Nat.reduceSub, Nat.reduceLeDiff, Nat.reduceLT]
    exact ⟨⟨_, fun _ _ => trivial, by omega, .nil, rfl⟩, rfl⟩
  · rintro k f g ms hk ⟨⟨v, ho, hfg, hup, hnx, gv, p5⟩, rfl, p2, p3, p10, p11, p12⟩
    have hk' : (k : Int) < (Y.ns : Int) := by omega
    have hs : Sub All g2 g := AHeap.subOf ho
    have hw : wrapF .i64 ((k : Int) + 1) = ((k + 1 : Nat) : Int) := by rw [wrap_in (by omega) (by omega)]; rfl
    have sg := s2.trans hs
    have hSg := Cells.mono hS sg
    have hld := samps_ld hSg hk
    simp only [rn0, rn1, rn2, rn3, rn4, rn5, rn6, rn7, rn8, if_true, if_false, Nat.le_refl, true_and, and_true, decide_true, decide_false, Bool.not_true, Bool.not_false, reduceIte, Nat.reduceEqDiff, Nat.reduceAdd, Nat.reduceMul, Nat.reduceSub, Nat.reduceLeDiff, Nat.reduceLT, p2, p3, p5, p10, p11, p12, hk', Cells.idx hSg hk, hld]
    refine step_row (cs := [.int .i64 0, .int .i64 0, .int .i64 0]) (by omega) rfl rfl fun g3' hx3' => ?_
    have n3' := hx3'.next
    have f3' := hx3'.floor
    simp only [rn0, rn1, rn2, rn3, rn4, rn5, rn6, rn7, rn8, if_true, if_false, Nat.le_refl, true_and, and_true, decide_true, decide_false, Bool.not_true, Bool.not_false, reduceIte, Nat.reduceEqDiff, Nat.reduceAdd, Nat.reduceMul, Nat.reduceSub, Nat.reduceLeDiff, Nat.reduceLT, p2, p3, p5, p10, p11, p12]
    refine step_store (b := g.next) (off := 0) (vs := [.int .i64 (Y.sv k), .int .i64 (Y.slo k), .int .i64 (Y.shi k)]) rfl hx3'.get (by omega) (by omega) rfl rfl rfl (by simp) fun g3 hs3 => ?_
    rw [splice3] at hs3
    have n3 : g3.next = g.next + 1 := by have := hs3.next; omega
    have f3 : g3.floor = g.floor := by have := hs3.floor; omega
    have o3 : ∀ i, i < g.next → g3.get i = g.get i := fun i hi => by rw [hs3.old i (by omega), hx3'.old i hi]
    have s3' : Sub All g g3 := AHeap.subOf o3
    have s3 : Sub All h g3 := sg.trans s3'
    have w1 := ((r1.mono hs).mono s3').whole (n := 4) rfl
    have w2 := ((r2.mono hs).mono s3').whole arr_len
    have w3 := hs3.row.whole (n := 3) rfl
    have ei := isRight_c (n := n) (h := g3) (b := b) (F := F) (S := S) (T := T) (at_ := Y.sv k) (lo := Y.slo k) (hi := Y.shi k) (by omega) (by omega) (ha.mono s3) h1 (hso k hk).1
    have gv3 := gv.sub s3'
    have hlk := wrongTo_len (Y := Y) (b := b) k
    by_cases hR : RightB Y b k
    · have hR' : decide (Y.slo k ≤ blueN b (Y.q (Y.sv k).toNat) Y.nf ∧ blueN b (Y.q (Y.sv k).toNat) Y.nf ≤ Y.shi k) = true := decide_eq_true hR
      rw [hR'] at ei
      simp only [rn0, rn1, rn2, rn3, rn4, rn5, rn6, rn7, rn8, if_true, if_false, Nat.le_refl, true_and, and_true, decide_true, decide_false, Bool.not_true, Bool.not_false, reduceIte, Nat.reduceEqDiff, Nat.reduceAdd, Nat.reduceMul, Nat.reduceSub, Nat.reduceLeDiff, Nat.reduceLT, p2, p3, p5, p10, p11, p12, w1, w2, w3, ei, hw, wrongTo_yes hR]
      exact ⟨_, fun i hi => by rw [o3 i (by omega), ho i hi], by omega, by omega, by omega, gv3, rfl⟩
    · have hR' : decide (Y.slo k ≤ blueN b (Y.q (Y.sv k).toNat) Y.nf ∧ blueN b (Y.q (Y.sv k).toNat) Y.nf ≤ Y.shi k) = false := decide_eq_false hR
      rw [hR'] at ei
      simp only [rn0, rn1, rn2, rn3, rn4, rn5, rn6, rn7, rn8, if_true, if_false, Nat.le_refl, true_and, and_true, decide_true, decide_false, Bool.not_true, Bool.not_false, reduceIte, Nat.reduceEqDiff, Nat.reduceAdd, Nat.reduceMul, Nat.reduceSub, Nat.reduceLeDiff, Nat.reduceLT, p2, p3, p5, p10, p11, p12, w1, w2, w3, ei, sl_int]
      refine step_slice (by omega) rfl fun g4 hx4 => ?_
      have n4 := hx4.next
      have f4 := hx4.floor
      have gv4 : GrowC g2.next g4 v 1 (wrongTo Y b k).length (fun i _ => .int .i64 ((wrongTo Y b (k + 1)).getD i 0)) := (gv3.sub hx4.sub).congr fun i j hi hj => by
        rw [wrongTo_no hR, List.getD_eq_getElem?_getD, List.getD_eq_getElem?_getD, List.getElem?_append_left hi]
      obtain ⟨v', g5, e5, ev, gv5, hk5⟩ := gv4.append (bytes := 8) (cap := 1) (by omega) (by omega) (by omega) hx4.get rfl rfl (fun j hj => by
        obtain rfl : j = 0 := by omega
        rw [wrongTo_no hR, List.getD_eq_getElem?_getD, List.getElem?_append_right (Nat.le_refl _)]; simp) (by simp [maxBytes]; omega) (by simp [maxBytes]; omega)
      have n5 := hk5.next
      have f5 := hk5.floor
      have hlen : (wrongTo Y b (k + 1)).length = (wrongTo Y b k).length + 1 := by rw [wrongTo_no hR, List.length_append, List.length_singleton]
      simp only [rn0, rn1, rn2, rn3, rn4, rn5, rn6, rn7, rn8, if_true, if_false, Nat.le_refl, true_and, and_true, decide_true, decide_false, Bool.not_true, Bool.not_false, reduceIte, Nat.reduceEqDiff, Nat.reduceAdd, Nat.reduceMul, Nat.reduceSub, Nat.reduceLeDiff, Nat.reduceLT, p2, p3, p5, p10, p11, p12, e5, hw, hlen]
      exact ⟨_, fun i hi => by rw [hk5.old i (by omega) fun bb kk qq e => by have := (gv4.block e).1; omega, hx4.old i (by omega), o3 i (by omega), ho i hi], by omega, by omega, by omega, gv5, rfl⟩
  · rintro f g ms ⟨⟨v, ho, hfg, hup, hnx, gv, p5⟩, rfl, p2, p3, p10, p11, p12⟩
    simp only [rn0, rn1, rn2, rn3, rn4, rn5, rn6, rn7, rn8, if_true, if_false, Nat.le_refl, true_and, and_true, decide_true, decide_false, Bool.not_true, Bool.not_false, reduceIte, Nat.reduceEqDiff, Nat.reduceAdd, Nat.reduceMul, Nat.reduceSub, Nat.reduceLeDiff, Nat.reduceLT, p2, p3, p5, p10, p11, p12, Int.lt_irrefl]
    exact ⟨gv.cells, (GrowC.own gv).le (by omega), ⟨s2.trans (AHeap.subOf ho), by omega, by omega, by omega⟩, gv.one, fun a k c e => by have := gv.block e; omega, gv.long, fun i hi => by rw [ho i (by omega), hx2.old i (by omega), hx1.old i hi]⟩
structure JLo (h2 : AHeap) (p : Nat) (s : List Int) (g : AHeap) : Prop where
  old : ∀ i, i < h2.next → i ≠ p + 2 → g.get i = h2.get i
  lst : ∃ v, g.get (p + 2) = some (.row [v] true 0) ∧ IntsO (p + 1) g v s.length (atL s) ∧ oneCell v = true ∧ ∀ a k c, v = .slice (some a) k c → a.block = p + 1 ∨ (h2.next + 3 ≤ a.block ∧ a.block < g.next)
  short : s.length ≤ 5
  up : h2.next + 3 ≤ g.next
def LeaveRo (h : AHeap) (Y : MY) (v : Value) (h' : AHeap) : Prop := Made h h' 260000 ∧
  ((faultN Y ≠ 0 ∧ v = .tuple ⟨[nilS, .int .i64 (faultN Y)]⟩) ∨ (faultN Y = 0 ∧ ∃ l, v = .tuple ⟨[l, .int .i64 0]⟩ ∧ IntsO h.next h' l (leaveRun Y).length (atL (leaveRun Y)) ∧ (leaveRun Y).length ≤ 5))
theorem leave_o (hn : 11050 ≤ n) (hr : h.next + 400000 < far) (hfl : h.floor ≤ h.next) {F V S : Value} {Y : MY} (hy : YardR h F V S Y) (hY : Thin Y) :
    ∃ v h', call n (.func (.func 54) #[] #[]) [.agg ⟨[F, V, S]⟩] h = some (v, h') ∧ LeaveRo h Y v h' := by
  obtain ⟨n, rfl⟩ : ∃ p, n = p + 1 := ⟨n - 1, by omega⟩
  refine call_any0 fok54 rfl rfl (by simp) ?_
  simp only [s54, W_seq, W_ops]
  refine ops_box (cs := [F, V, S]) (by omega) rfl hy.one fun g1 hx1 => ?_
  have n1 := hx1.next
  have f1 := hx1.floor
  have e1 : g1.next = h.next + 1 := n1
  have hy1 := hy.mono hx1.sub
  have w1 := hx1.row.whole (n := 3) rfl
  have ec := checkYard_c (n := n) (h := g1) (by omega) (by omega) hy1 hY
  by_cases hf : faultN Y = 0
  case neg =>
    simp only [rn0, rn1, rn2, rn3, rn4, rn5, rn6, rn7, rn8, if_true, if_false, Nat.le_refl, true_and, and_true, decide_true, decide_false, Bool.not_true, Bool.not_false, reduceIte, Nat.reduceEqDiff, Nat.reduceAdd, Nat.reduceMul, Nat.reduceSub, Nat.reduceLeDiff, Nat.reduceLT, w1, ec, hf, ret_tt]
    exact ⟨⟨hx1.sub, by omega, by omega, by omega⟩, .inl ⟨hf, rfl⟩⟩
  obtain ⟨hG, hsz⟩ := fault_size hf
  obtain ⟨z1, z2, z3⟩ := hG.sz
  have hF : ∀ k, k < Y.nf → 0 ≤ Y.lo k ∧ Y.lo k ≤ Y.hi k ∧ Y.hi k ≤ 20 := hG.f
  have ho4 : ∀ T, oneCell T = true → allB oneCell [F, V, S, T] = true := fun T hT => by have := hy.one; simp [allB] at this ⊢; simp [this, hT]
  have hlenE : (enumB Y.lo Y.hi Y.nf 0 fun _ => 0).length ≤ 2000 := by
    have h1 := enumB_len (lo := Y.lo) (hi := Y.hi) Y.nf 0 (fun _ => 0) fun k _ hk => (hF k (by omega)).2.1
    have h2 := sizeN_prod (lo := Y.lo) (hi := Y.hi) Y.nf 0
    simp only [Nat.zero_add, sizeN, Int.one_mul] at h2
    omega
  have r1 := hx1.row
  simp only [rn0, rn1, rn2, rn3, rn4, rn5, rn6, rn7, rn8, if_true, if_false, Nat.le_refl, true_and, and_true, decide_true, decide_false, Bool.not_true, Bool.not_false, reduceIte, Nat.reduceEqDiff, Nat.reduceAdd, Nat.reduceMul, Nat.reduceSub, Nat.reduceLeDiff, Nat.reduceLT, w1, ec, hf, r1.ld, Nat.zero_add, List.getElem?_cons_zero, List.getElem?_cons_succ, Cells.len hy1.s, make_intsL (m := Y.ns) (by omega), repl_mixI]
  refine step_slice (by omega) mixI_one fun g2 hx2 => ?_
  have n2 := hx2.next
  have f2 := hx2.floor
  have e2 : g2.next = h.next + 2 := by omega
  rw [e1]
  simp only [rn0, rn1, rn2, rn3, rn4, rn5, rn6, rn7, rn8, if_true, if_false, Nat.le_refl, true_and, and_true, decide_true, decide_false, Bool.not_true, Bool.not_false, reduceIte, Nat.reduceEqDiff, Nat.reduceAdd, Nat.reduceMul, Nat.reduceSub, Nat.reduceLeDiff, Nat.reduceLT]
  refine step_new (vs := [.slice (some ⟨h.next + 1, 0, none⟩) Y.ns Y.ns]) (by omega) (by omega) rfl (by first | rfl | (simp only [rn0, rn1, rn2, rn3, rn4, rn5, rn6, rn7, rn8, if_true, if_false, Nat.le_refl, true_and, and_true, decide_true, decide_false, Bool.not_true, Bool.not_false, reduceIte, Nat.reduceEqDiff, Nat.reduceAdd, Nat.reduceMul, Nat.reduceSub, Nat.reduceLeDiff, Nat.reduceLT]; rfl)) rfl rfl rfl fun g3 hx3 => ?_
  have n3 := hx3.next
  have f3 := hx3.floor
  have e3 : g3.next = h.next + 3 := by omega
  rw [e2]
  have r3 : Row g3 h.next [F, V, S] := (r1.mono hx2.sub).mono hx3.sub
  have hl1 : g3.get (h.next + 1) = some (.row ((List.range Y.ns).map (mixI 0)) true 0) := by rw [hx3.old _ (by omega)]; have := hx2.get; rw [e1] at this; exact this
  have hl2 : g3.get (h.next + 2) = some (.row [.slice (some ⟨h.next + 1, 0, none⟩) Y.ns Y.ns] true 0) := by have := hx3.get; rw [e2] at this; exact this
  have old3 : ∀ i, i < h.next → g3.get i = h.get i := fun i hi => by rw [hx3.old i (by omega), hx2.old i (by omega), hx1.old i hi]
  have hy3 := hy.mono (AHeap.subOf old3)
  simp only [rn0, rn1, rn2, rn3, rn4, rn5, rn6, rn7, rn8, if_true, if_false, Nat.le_refl, true_and, and_true, decide_true, decide_false, Bool.not_true, Bool.not_false, reduceIte, Nat.reduceEqDiff, Nat.reduceAdd, Nat.reduceMul, Nat.reduceSub, Nat.reduceLeDiff, Nat.reduceLT, r3.ld, Nat.zero_add, List.getElem?_cons_zero, List.getElem?_cons_succ, Cells.len hy3.s]
  refine W_loop Y.ns (fun k f g ms => ((∀ i, i < h.next + 3 → i ≠ h.next + 1 → g.get i = g3.get i) ∧ g.next = h.next + 3 ∧ g.floor = h.floor ∧ g.get (h.next + 1) = some (.row ((List.range Y.ns).map (mixI k)) true 0)) ∧ ms = [] ∧ f 1 = .pointer (some ⟨h.next, 0, none⟩) ∧ f 5 = .pointer (some ⟨h.next + 2, 0, none⟩) ∧ f 21 = .int .i64 (Y.ns : Int) ∧ f 22 = .int .i64 (k : Int)) (by simp; omega) ?_ ?_ ?_
  · simp only [rn0, rn1, rn2, rn3, rn4, rn5, rn6, rn7, rn8, if_true, if_false, Nat.le_refl, true_and, and_true, decide_true, decide_false, Bool.not_true, Bool.not_false, reduceIte, Nat.reduceEqDiff, Nat.reduceAdd, Nat.reduceMul, Nat.reduceSub, Nat.reduceLeDiff, Nat.reduceLT]
    exact ⟨⟨fun _ _ _ => trivial, e3, by omega, hl1⟩, rfl⟩
  · rintro k f g ms hk ⟨⟨o1, o2, o3, o4⟩, rfl, p1, p5, p21, p22⟩
    have hk' : (k : Int) < (Y.ns : Int) := by omega
    have hw : wrapF .i64 ((k : Int) + 1) = ((k + 1 : Nat) : Int) := by rw [wrap_in (by omega) (by omega)]; rfl
    have l2 : loadCell g (.pointer (some ⟨h.next + 2, 0, none⟩)) = some (.slice (some ⟨h.next + 1, 0, none⟩) Y.ns Y.ns) := row_ld0 (by rw [o1 _ (by omega) (by omega)]; exact hl2)
    have hix : indexSl 1 (.slice (some ⟨h.next + 1, 0, none⟩) Y.ns Y.ns) (.int .i64 (k : Int)) = some (.pointer (some ⟨h.next + 1, k, none⟩)) := by rw [idxSl_s hk, Nat.mul_one]
    simp only [rn0, rn1, rn2, rn3, rn4, rn5, rn6, rn7, rn8, if_true, if_false, Nat.le_refl, true_and, and_true, decide_true, decide_false, Bool.not_true, Bool.not_false, reduceIte, Nat.reduceEqDiff, Nat.reduceAdd, Nat.reduceMul, Nat.reduceSub, Nat.reduceLeDiff, Nat.reduceLT, p1, p5, p21, p22, hk', l2, hix]
    refine step_store (b := h.next + 1) (off := k) (vs := [.int .i64 (k : Int)]) rfl o4 (by omega) (by omega) rfl rfl rfl (by simp; omega) fun g4 hs4 => ?_
    rw [mixI_splice hk] at hs4
    have n4 := hs4.next
    have f4 := hs4.floor
    simp only [rn0, rn1, rn2, rn3, rn4, rn5, rn6, rn7, rn8, if_true, if_false, Nat.le_refl, true_and, and_true, decide_true, decide_false, Bool.not_true, Bool.not_false, reduceIte, Nat.reduceEqDiff, Nat.reduceAdd, Nat.reduceMul, Nat.reduceSub, Nat.reduceLeDiff, Nat.reduceLT, p1, p5, p21, p22, hw]
    exact ⟨fun i hi hne => by rw [hs4.old i hne, o1 i hi hne], by omega, by omega, hs4.get⟩
  rintro f g3' ms ⟨⟨o1, o2, o3, o4⟩, rfl, p1, p5, p21, p22⟩
  have r3' : Row g3' h.next [F, V, S] := by
    obtain ⟨w, gr, e⟩ := r3
    exact ⟨w, gr, by rw [o1 _ (by omega) (by omega)]; exact e⟩
  have w3 := r3'.whole (n := 3) rfl
  have i0 : Ints g3' (.slice (some ⟨h.next + 1, 0, none⟩) Y.ns Y.ns) (upTo Y.ns).length (atL (upTo Y.ns)) := by
    have hlen : (upTo Y.ns).length = Y.ns := by unfold upTo; rw [List.length_map, List.length_range]
    rw [hlen]
    refine ⟨_, _, rfl, fun x e => by cases e; rfl, .inr ⟨_, 0, _, _, _, rfl, o4, fun i j hi hj => ?_⟩⟩
    obtain rfl : j = 0 := by omega
    have e1 : (List.range Y.ns)[i]? = some i := List.getElem?_range hi
    simp only [Nat.zero_add, Nat.mul_one, Nat.add_zero, List.getElem?_map, e1, Option.map_some, mixI, if_pos hi]
    unfold atL upTo
    rw [List.getD_eq_getElem?_getD, List.getElem?_map, e1]; rfl
  have i0o : IntsO (h.next + 1) g3' (.slice (some ⟨h.next + 1, 0, none⟩) Y.ns Y.ns) (upTo Y.ns).length (atL (upTo Y.ns)) := by
    refine ⟨i0, .inr ⟨h.next + 1, Y.ns, _, _, ?_, Nat.le_refl _, o4, ?_⟩⟩
    · unfold upTo; rw [List.length_map, List.length_range]
    · unfold upTo; simp
  simp only [rn0, rn1, rn2, rn3, rn4, rn5, rn6, rn7, rn8, if_true, if_false, Nat.le_refl, true_and, and_true, decide_true, decide_false, Bool.not_true, Bool.not_false, reduceIte, Nat.reduceEqDiff, Nat.reduceAdd, Nat.reduceMul, Nat.reduceSub, Nat.reduceLeDiff, Nat.reduceLT, p1, p5, p21, p22, Int.lt_irrefl, w3, build_work]
  refine step_new (vs := [F, V, S, nilS]) (by omega) (by omega) rfl (by simp only [rn0, rn1, rn2, rn3, rn4, rn5, rn6, rn7, rn8, if_true, if_false, Nat.le_refl, true_and, and_true, decide_true, decide_false, Bool.not_true, Bool.not_false, reduceIte, Nat.reduceEqDiff, Nat.reduceAdd, Nat.reduceMul, Nat.reduceSub, Nat.reduceLeDiff, Nat.reduceLT]; rfl) (ho4 _ rfl) rfl rfl fun g5 hx5 => ?_
  have n5 := hx5.next
  have f5 := hx5.floor
  have e5 : g5.next = h.next + 4 := by omega
  have w5 := hx5.row.whole (n := 4) rfl
  rw [o2] at w5
  obtain ⟨g6, eB, hx6⟩ := allBlues_c (n := n) (h := g5) (F := F) (V := V) (S := S) (T := nilS) (by omega) (by omega) (ho4 _ rfl)
  have n6 := hx6.next
  have f6 := hx6.floor
  rw [o2]
  simp only [rn0, rn1, rn2, rn3, rn4, rn5, rn6, rn7, rn8, if_true, if_false, Nat.le_refl, true_and, and_true, decide_true, decide_false, Bool.not_true, Bool.not_false, reduceIte, Nat.reduceEqDiff, Nat.reduceAdd, Nat.reduceMul, Nat.reduceSub, Nat.reduceLeDiff, Nat.reduceLT, w5, eB]
  refine W_range' rfl (by omega) (by simp only [rn0, rn1, rn2, rn3, rn4, rn5, rn6, rn7, rn8, if_true, if_false, Nat.le_refl, true_and, and_true, decide_true, decide_false, Bool.not_true, Bool.not_false, reduceIte, Nat.reduceEqDiff, Nat.reduceAdd, Nat.reduceMul, Nat.reduceSub, Nat.reduceLeDiff, Nat.reduceLT]; rfl) fun f0 hf0 ts hv h2 hl => ?_
  have c5 : f0 5 = .pointer (some ⟨h.next + 2, 0, none⟩) := by rw [hf0]; simp only [rn0, rn1, rn2, rn3, rn4, rn5, rn6, rn7, rn8, if_true, if_false, Nat.le_refl, true_and, and_true, decide_true, decide_false, Bool.not_true, Bool.not_false, reduceIte, Nat.reduceEqDiff, Nat.reduceAdd, Nat.reduceMul, Nat.reduceSub, Nat.reduceLeDiff, Nat.reduceLT, p5]
  have c7 : f0 7 = .pointer (some ⟨h.next + 3, 0, none⟩) := by rw [hf0]; simp only [rn0, rn1, rn2, rn3, rn4, rn5, rn6, rn7, rn8, if_true, if_false, Nat.le_refl, true_and, and_true, decide_true, decide_false, Bool.not_true, Bool.not_false, reduceIte, Nat.reduceEqDiff, Nat.reduceAdd, Nat.reduceMul, Nat.reduceSub, Nat.reduceLeDiff, Nat.reduceLT]
  clear hf0
  have nl := hl.next
  have fl := hl.floor
  have en : g6.next = h.next + 5 := by omega
  have oldh : ∀ i, i < h.next + 3 → h2.get i = g3'.get i := fun i hi => by rw [hl.old i (by omega), hx6.old i (by omega), hx5.old i (by omega)]
  have hbase : ∀ i, i < h.next → h2.get i = h.get i := fun i hi => by rw [oldh i (by omega), o1 i (by omega) (by omega), old3 i hi]
  have d2 : h2.get (h.next + 2) = some (.row [.slice (some ⟨h.next + 1, 0, none⟩) Y.ns Y.ns] true 0) := by rw [oldh _ (by omega), o1 _ (by omega) (by omega)]; exact hl2
  have d3 : h2.get (h.next + 3) = some (.row [F, V, S, nilS] true 0) := by rw [hl.old _ (by omega), hx6.old _ (by omega)]; have := hx5.get; rw [o2] at this; exact this
  have i2 : IntsO (h.next + 1) h2 (.slice (some ⟨h.next + 1, 0, none⟩) Y.ns Y.ns) (upTo Y.ns).length (atL (upTo Y.ns)) := intsO_old i0o fun x k c e => by cases e; exact oldh _ (by show h.next + 1 < h.next + 3; omega)
  have hpw : Row h2 (h.next + 4) [F, V, S, nilS] := by
    have := hx6.row.mono hl.sub
    rw [e5] at this
    exact this
  have hloop := hl.loop
  have hmark := hl.mark
  rw [en] at hloop hmark
  rw [en]
  rw [en] at hl
  generalize hr0 : loopO _ ts _ _ _ _ = r at hloop ⊢
  have r1' : r.state = .ready := by rw [← hr0]; rfl
  have r2' : View 43 r.tmps f0 := by rw [← hr0]; exact hv
  have r3x : r.params = #[34] := by rw [← hr0]; rfl
  have r4 : compCode Try.prog 43 r.assign = some ra54_0 := by rw [← hr0]; exact raok54_0
  have r5 : compCode Try.prog 43 r.body = some rb54_0 := by rw [← hr0]; exact rbok54_0
  have r6 : leftBy r .norm = r := by rw [← hr0]; rfl
  clear hr0 hl hv
  have hit := iter_c (leaveStep Y) (JLo h2 h.next) (g := h2) (pw := h.next + 4) (K := 110) (N0 := 10020) (n := n) (F := F) (V := V) (S := S) (T := nilS) (yv := .func (.yield (h.next + 6)) #[] #[]) (nf := Y.nf) (lo := Y.lo) (hi := Y.hi) (upTo Y.ns) z1 hF hpw (Cells.old hy.f hbase) rfl (by omega) (by omega) (by omega)
    (fun s g1 g' cs hj hs => by
      have hup := hj.up
      have hsn := hs.next
      obtain ⟨v, v1, v2, v3, v4⟩ := hj.lst
      exact ⟨fun i hi a1 => by rw [hs.old i (by omega)]; exact hj.old i hi a1, ⟨v, by rw [hs.old _ (by omega)]; exact v1, intsO_old v2 fun x k c e => hs.old _ (by have := v4 x k c e; omega), v3, fun a k c e => by have := v4 a k c e; omega⟩, hj.short, by omega⟩)
    (fun g3 ho => by
      have hon := ho.next
      exact ⟨fun i hi _ => ho.old i hi, ⟨_, by rw [ho.old _ (by omega)]; exact d2, intsO_old i2 fun x k c e => by cases e; exact ho.old _ (by show h.next + 1 < h2.next; omega), rfl, fun a k c e => by cases e; exact .inl rfl⟩, by unfold upTo; rw [List.length_map, List.length_range]; exact z3, by omega⟩)
    (fun m g1 s c hm it hb hok hj hfg hr1 => by
      obtain ⟨m, rfl⟩ : ∃ p, m = p + 1 := ⟨m - 1, by omega⟩
      rw [call_yield]
      have hup := hj.up
      obtain ⟨v, v1, v2, v3, v4⟩ := hj.lst
      have hloop1 : g1.get (h.next + 6) = some (.loop r) := by rw [hj.old _ (by omega) (by omega)]; exact hloop
      suffices key : ∃ e g', roundA Try.prog (call m) m (h.next + 6) [.agg ⟨arr c⟩] g1 = some (.bool (goesOn e), g') ∧ (e = .norm ∧ JLo h2 h.next (leaveStep Y s c).1 g' ∧ (∀ i, i < h2.next + 3 → i ≠ h.next + 2 → g'.get i = g1.get i) ∧ g'.floor = h2.floor ∧ g'.next ≤ g1.next + 110) by
        obtain ⟨e, g', k1, rfl, k2, k3, k4, k5⟩ := key
        have kb : ∀ i, i < h.next → g'.get i = h.get i := fun i hi => by rw [k3 i (by omega) (by omega), hj.old i (by omega) (by omega), hbase i hi]
        have krow : ∀ i cs, i < h2.next + 3 → i ≠ h.next + 2 → Row g1 i cs → Row g' i cs := fun i cs h1 h2 ⟨w, gr, e⟩ => ⟨w, gr, by rw [k3 i h1 h2]; exact e⟩
        refine ⟨g', k1, k2, ⟨krow _ _ (by omega) (by omega) it.w, krow _ _ (by omega) (by omega) it.y, krow _ _ (by omega) (by omega) it.c, Cells.old hy.f kb⟩, by rw [k3 _ (by omega) (by omega)]; exact hb, k4, k5⟩
      refine round_run (f := f0) hloop1 r1' r2' (by rw [r3x]; rfl) (by omega) r4 r5 ?_
      have hset : setFr f0 r.params.toList [.agg ⟨arr c⟩] = upd f0 34 (.agg ⟨arr c⟩) := by rw [r3x]; rfl
      rw [hset]
      simp only [rn0, rn1, rn2, rn3, rn4, rn5, rn6, rn7, rn8, if_true, if_false, Nat.le_refl, true_and, and_true, decide_true, decide_false, Bool.not_true, Bool.not_false, reduceIte, Nat.reduceEqDiff, Nat.reduceAdd, Nat.reduceMul, Nat.reduceSub, Nat.reduceLeDiff, Nat.reduceLT, ra54_0]
      refine step_new (vs := arr c) (by omega) (by omega) rfl (by simp only [rn0, rn1, rn2, rn3, rn4, rn5, rn6, rn7, rn8, if_true, if_false, Nat.le_refl, true_and, and_true, decide_true, decide_false, Bool.not_true, Bool.not_false, reduceIte, Nat.reduceEqDiff, Nat.reduceAdd, Nat.reduceMul, Nat.reduceSub, Nat.reduceLeDiff, Nat.reduceLT]; rfl) arr_one arr_len rfl fun g2 hx2 => ?_
      have n2 := hx2.next
      have f2 := hx2.floor
      simp only [rn0, rn1, rn2, rn3, rn4, rn5, rn6, rn7, rn8, if_true, if_false, Nat.le_refl, true_and, and_true, decide_true, decide_false, Bool.not_true, Bool.not_false, reduceIte, Nat.reduceEqDiff, Nat.reduceAdd, Nat.reduceMul, Nat.reduceSub, Nat.reduceLeDiff, Nat.reduceLT]
      refine ⟨by rw [hx2.old _ (by omega)]; exact hloop1, by omega, fun g3 hp3 => ?_⟩
      have n3 := hp3.next
      have f3 := hp3.floor
      have g3old : ∀ i, i < g1.next → i ≠ h.next + 6 → g3.get i = g1.get i := fun i hi hne => by rw [hp3.old i hne, hx2.old i hi]
      have g3b : ∀ i, i < h.next → g3.get i = h.get i := fun i hi => by rw [g3old i (by omega) (by omega), hj.old i (by omega) (by omega), hbase i hi]
      have hy3 := hy.mono (AHeap.subOf g3b)
      have rp3 : Row g3 (h.next + 3) [F, V, S, nilS] := ⟨_, _, by rw [g3old _ (by omega) (by omega), hj.old _ (by omega) (by omega)]; exact d3⟩
      have rc3 : Row g3 g1.next (arr c) := by
        obtain ⟨w, gr, e⟩ := hx2.row
        exact ⟨w, gr, by rw [hp3.old _ (by omega)]; exact e⟩
      have q1 := rp3.whole (n := 4) rfl
      have q2 := rc3.whole arr_len
      have hrange : ∀ k, k < Y.nf → 0 ≤ c k ∧ c k ≤ 20 := fun k hk => by have := hok.1 k hk; have := hF k hk; omega
      obtain ⟨wv, g4, ew, hwi0, hwo0, hwm, hw1, hwb, hwl, hwo⟩ := wrong_o (n := m) (h := g3) (F := F) (V := V) (S := S) (T := nilS) (Y := Y) (b := c) (by omega) (by omega) (by omega) hy3.s z3 hG.s ⟨hy3.v, z1, hG.v, hrange⟩ (ho4 _ rfl)
      have hwi : IntsO (h.next + 1) g4 wv (wrongTo Y c Y.ns).length (atL (wrongTo Y c Y.ns)) := ⟨hwi0, hwo0.le (by omega)⟩
      have n4 := hwm.next
      have u4 := hwm.up
      have f4 := hwm.floor
      have g4old : ∀ i, i < g1.next → i ≠ h.next + 6 → g4.get i = g1.get i := fun i hi hne => by rw [hwo i (by omega), g3old i hi hne]
      have k2 : g4.get (h.next + 2) = some (.row [v] true 0) := by rw [g4old _ (by omega) (by omega)]; exact v1
      have kl : g4.get (h.next + 6) = some (.loop { r with state := .busy }) := by rw [hwo _ (by omega)]; exact hp3.get
      have vi4 : IntsO (h.next + 1) g4 v s.length (atL s) := intsO_old v2 fun x k c e => g4old _ (by have := v4 x k c e; omega) (by have := v4 x k c e; omega)
      have l5 : loadCell g4 (.pointer (some ⟨h.next + 2, 0, none⟩)) = some v := row_ld0 k2
      have hwl5 := wrongTo_len (Y := Y) (b := c) Y.ns
      have hsh := hj.short
      have eb := isBefore_c (n := m) (h := g4) (a := atL (wrongTo Y c Y.ns)) (m := (wrongTo Y c Y.ns).length) (b := atL s) (k := s.length) (by omega) (by omega) (by omega) hwi.1 vi4.1
      by_cases hL : Shortlex (atL (wrongTo Y c Y.ns)) (wrongTo Y c Y.ns).length (atL s) s.length
      · have hst : (leaveStep Y s c).1 = wrongTo Y c Y.ns := by unfold leaveStep; rw [if_pos hL]
        simp only [rn0, rn1, rn2, rn3, rn4, rn5, rn6, rn7, rn8, if_true, if_false, Nat.le_refl, true_and, and_true, decide_true, decide_false, Bool.not_true, Bool.not_false, reduceIte, Nat.reduceEqDiff, Nat.reduceAdd, Nat.reduceMul, Nat.reduceSub, Nat.reduceLeDiff, Nat.reduceLT, rb54_0, c5, c7, q1, q2, ew, l5, eb, hL]
        refine step_store (b := h.next + 2) (off := 0) (vs := [wv]) rfl k2 (by omega) (by omega) (by cases wv <;> first | rfl | cases hw1) (by simp [allB, hw1]) rfl (by simp) fun g6 hs6 => ?_
        rw [splice1] at hs6
        have n6 := hs6.next
        have f6 := hs6.floor
        simp only [rn0, rn1, rn2, rn3, rn4, rn5, rn6, rn7, rn8, if_true, if_false, Nat.le_refl, true_and, and_true, decide_true, decide_false, Bool.not_true, Bool.not_false, reduceIte, Nat.reduceEqDiff, Nat.reduceAdd, Nat.reduceMul, Nat.reduceSub, Nat.reduceLeDiff, Nat.reduceLT]
        refine ⟨by rw [hs6.old _ (by omega)]; exact kl, by omega, by omega, fun g7 hp7 => ⟨?_, ?_, by rw [hp7.floor]; omega, by rw [hp7.next]; omega⟩⟩
        · rw [hst]
          have hn7 := hp7.next
          refine ⟨fun i hi a1 => ?_, ⟨wv, ?_, intsO_old hwi fun x k c e => ?_, hw1, fun a k c e => .inr ?_⟩, by omega, by omega⟩
          · by_cases e : i = h.next + 6
            · subst e; rw [hp7.get, r6]; exact hloop.symm
            · rw [hp7.old i e, hs6.old i a1, g4old i (by omega) e]; exact hj.old i hi a1
          · rw [hp7.old _ (by omega)]; exact hs6.get
          · have := hwb x k c e
            rw [hp7.old _ (by omega), hs6.old _ (by omega)]
          · have := hwb a k c e; omega
        · intro i hi a1
          by_cases e : i = h.next + 6
          · subst e; rw [hp7.get, r6]; exact hloop1.symm
          · rw [hp7.old i e, hs6.old i a1]
            by_cases hi1 : i < g1.next
            · exact g4old i hi1 e
            · omega
      · have hst : (leaveStep Y s c).1 = s := by unfold leaveStep; rw [if_neg hL]
        simp only [rn0, rn1, rn2, rn3, rn4, rn5, rn6, rn7, rn8, if_true, if_false, Nat.le_refl, true_and, and_true, decide_true, decide_false, Bool.not_true, Bool.not_false, reduceIte, Nat.reduceEqDiff, Nat.reduceAdd, Nat.reduceMul, Nat.reduceSub, Nat.reduceLeDiff, Nat.reduceLT, rb54_0, c5, c7, q1, q2, ew, l5, eb, hL]
        refine ⟨kl, by omega, by omega, fun g7 hp7 => ⟨?_, ?_, by rw [hp7.floor]; omega, by rw [hp7.next]; omega⟩⟩
        · rw [hst]
          have hn7 := hp7.next
          refine ⟨fun i hi a1 => ?_, ⟨v, ?_, intsO_old vi4 fun x k c e => ?_, v3, fun a k c e => ?_⟩, hsh, by omega⟩
          · by_cases e : i = h.next + 6
            · subst e; rw [hp7.get, r6]; exact hloop.symm
            · rw [hp7.old i e, g4old i (by omega) e]; exact hj.old i hi a1
          · rw [hp7.old _ (by omega)]; exact k2
          · have := v4 x k c e
            rw [hp7.old _ (by omega)]
          · have := v4 a k c e; omega
        · intro i hi a1
          by_cases e : i = h.next + 6
          · subst e; rw [hp7.get, r6]; exact hloop1.symm
          · rw [hp7.old i e]
            by_cases hi1 : i < g1.next
            · exact g4old i hi1 e
            · omega)
    (by omega)
  obtain ⟨v5, g7, e7, j7, fl7, n7⟩ := hit
  change JLo h2 h.next (leaveRun Y) g7 at j7
  have hup := j7.up
  obtain ⟨v, v1, v2, v3, v4⟩ := j7.lst
  refine ⟨v5, g7, .norm, by rw [e5]; exact e7, by omega, by omega, by rw [r6, j7.old _ (by omega) (by omega)]; exact hloop, fun g8 hp8 => ?_⟩
  have n8 := hp8.next
  have f8 := hp8.floor
  have m8 : g8.get (h.next + 5) = some .deferred := by rw [hp8.old _ (by omega), j7.old _ (by omega) (by omega)]; exact hmark
  have l5 : loadCell g8 (.pointer (some ⟨h.next + 2, 0, none⟩)) = some v := row_ld0 (by rw [hp8.old _ (by omega)]; exact v1)
  simp only [rn0, rn1, rn2, rn3, rn4, rn5, rn6, rn7, rn8, if_true, if_false, Nat.le_refl, true_and, and_true, decide_true, decide_false, Bool.not_true, Bool.not_false, reduceIte, Nat.reduceEqDiff, Nat.reduceAdd, Nat.reduceMul, Nat.reduceSub, Nat.reduceLeDiff, Nat.reduceLT, c5, l5]
  refine ret_mark (.inr rfl) m8 (by omega) (by omega) fun g9 hp9 => ?_
  have n9 := hp9.next
  have f9 := hp9.floor
  simp only [rn0, rn1, rn2, rn3, rn4, rn5, rn6, rn7, rn8, if_true, if_false, Nat.le_refl, true_and, and_true, decide_true, decide_false, Bool.not_true, Bool.not_false, reduceIte, Nat.reduceEqDiff, Nat.reduceAdd, Nat.reduceMul, Nat.reduceSub, Nat.reduceLeDiff, Nat.reduceLT, ret_tt]
  refine ⟨⟨AHeap.subOf fun i hi => by rw [hp9.old i (by omega), hp8.old i (by omega), j7.old i (by omega) (by omega), hbase i hi], by omega, by omega, by omega⟩, .inr ⟨hf, v, rfl, IntsO.le (B := h.next + 1) (intsO_old v2 fun x k c e => ?_) (by omega), j7.short⟩⟩
  have := v4 x k c e
  rw [hp9.old _ (by omega), hp8.old _ (by omega)]
end Go.Vm.Vat

namespace Go.Vm.Vat
open Go.Proofs
set_option linter.unusedSimpArgs false
set_option linter.unusedVariables false
set_option maxRecDepth 10000
variable {n : Nat} {h : AHeap}
def s46 : SCode := (.seq (.ops [⟨(some 4), none, .box (T 0)⟩, ⟨(some 8), none, .mov (.const (.int .i64 (0)))⟩, ⟨(some 9), none, .mov (.const (.int .i64 (0)))⟩]) (.seq (.ops [⟨(some 14), none, .loadN 3 (T 4)⟩, ⟨(some 15), none, .call (.func 78) [(T 14)]⟩, ⟨(some 13), none, .mov (T 15)⟩, ⟨(some 16), none, .extract 0 (T 13)⟩, ⟨(some 17), none, .extract 1 (T 13)⟩, ⟨(some 10), none, .alloc [(.slice none 0 0), (.slice none 0 0), (.slice none 0 0), (.slice none 0 0)]⟩, ⟨none, none, .store 4 (T 10) (T 16)⟩, ⟨(some 11), none, .mov (T 17)⟩]) (.seq (.block 0 (.seq (.ops [⟨(some 19), none, .mov (T 11)⟩, ⟨(some 20), none, .int2 .neq (T 19) (.const (.int .i64 (0)))⟩, ⟨(some 18), none, .mov (T 20)⟩]) (.cond (T 18) (.seq (.ops [⟨(some 21), none, .mov (T 11)⟩, ⟨(some 8), none, .mov (.const (.int .i64 (0)))⟩, ⟨(some 9), none, .mov (T 21)⟩]) .ret) (.seq (.ops [⟨(some 23), none, .loadN 4 (T 10)⟩, ⟨(some 24), none, .mov (T 1)⟩, ⟨(some 25), none, .call (.func 92) [(T 23), (T 24)]⟩, ⟨(some 26), none, .not (T 25)⟩, ⟨(some 27), none, .mov (T 26)⟩, ⟨(some 28), (some (27, false)), .loadN 4 (T 10)⟩, ⟨(some 29), (some (27, false)), .mov (T 2)⟩, ⟨(some 30), (some (27, false)), .call (.func 98) [(T 28), (T 29)]⟩, ⟨(some 31), (some (27, false)), .not (T 30)⟩, ⟨(some 32), none, .pick (T 27) (.const (.bool true)) (T 31)⟩, ⟨(some 33), none, .mov (T 32)⟩, ⟨(some 34), (some (33, false)), .mov (T 3)⟩, ⟨(some 35), (some (33, false)), .int2 .lss (T 34) (.const (.int .i64 (0)))⟩, ⟨(some 36), none, .pick (T 33) (.const (.bool true)) (T 35)⟩, ⟨(some 37), none, .mov (T 36)⟩, ⟨(some 38), (some (37, false)), .mov (T 3)⟩, ⟨(some 39), (some (37, false)), .int2 .gtr (T 38) (.const (.int .i64 (999)))⟩, ⟨(some 40), none, .pick (T 37) (.const (.bool true)) (T 39)⟩, ⟨(some 22), none, .mov (T 40)⟩]) (.cond (T 22) (.seq (.ops [⟨(some 8), none, .mov (.const (.int .i64 (0)))⟩, ⟨(some 9), none, .mov (.const (.int .i64 (2)))⟩]) .ret) (.seq (.ops [⟨(some 42), none, .fieldAddr 3 (T 10)⟩, ⟨(some 43), none, .load1 (T 42)⟩, ⟨(some 44), none, .len (T 43)⟩, ⟨(some 45), none, .int2 .eql (T 44) (.const (.int .i64 (0)))⟩, ⟨(some 41), none, .mov (T 45)⟩]) (.cond (T 41) (.seq (.ops [⟨(some 8), none, .mov (.const (.int .i64 (0)))⟩, ⟨(some 9), none, .mov (.const (.int .i64 (11)))⟩]) .ret) .skip))))))) (.seq (.ops [⟨(some 12), none, .mov (.const (.int .i64 (0)))⟩]) (.seq .skip (.seq (.block 1 (.loop (.block 2 (.seq (.block 3 (.seq (.ops [⟨(some 47), none, .loadN 4 (T 10)⟩, ⟨(some 48), none, .mov (T 1)⟩, ⟨(some 49), none, .mov (T 2)⟩, ⟨(some 50), none, .mov (T 12)⟩, ⟨(some 51), none, .call (.func 99) [(T 47), (T 48), (T 49), (T 50)]⟩, ⟨(some 52), none, .mov (T 3)⟩, ⟨(some 53), none, .int2 .geq (T 51) (T 52)⟩, ⟨(some 46), none, .mov (T 53)⟩]) (.cond (T 46) (.exit 1) (.seq (.ops [⟨(some 55), none, .mov (T 12)⟩, ⟨(some 56), none, .int2 .eql (T 55) (.const (.int .i64 (9)))⟩, ⟨(some 54), none, .mov (T 56)⟩]) (.cond (T 54) (.seq (.ops [⟨(some 8), none, .mov (.const (.int .i64 (0)))⟩, ⟨(some 9), none, .mov (.const (.int .i64 (10)))⟩]) .ret) .skip))))) (.ops [⟨(some 57), none, .mov (T 12)⟩, ⟨(some 58), none, .int2 .add (T 57) (.const (.int .i64 (1)))⟩, ⟨(some 12), none, .mov (T 58)⟩]))))) (.seq (.ops [⟨(some 59), none, .mov (T 12)⟩, ⟨(some 8), none, .mov (T 59)⟩, ⟨(some 9), none, .mov (.const (.int .i64 (0)))⟩]) .ret)))))))
end Go.Vm.Vat

namespace Go.Vm.Vat
open Go.Proofs
set_option linter.unusedSimpArgs false
set_option linter.unusedVariables false
set_option maxRecDepth 10000
variable {n : Nat} {h : AHeap}
def s6 : SCode := (.seq (.ops [⟨(some 4), none, .box (T 0)⟩, ⟨(some 8), none, .mov (.const (.bool false))⟩]) (.seq (.seq (.ops [⟨(some 15), none, .loadN 3 (T 4)⟩, ⟨(some 16), none, .call (.func 23) [(T 15)]⟩, ⟨(some 17), none, .not (T 16)⟩]) (.cond (T 17) (.seq (.ops [⟨(some 18), none, .call (.func 24) []⟩, ⟨(some 8), none, .mov (T 18)⟩]) .ret) .skip)) (.seq (.ops [⟨(some 20), none, .loadN 3 (T 4)⟩, ⟨(some 21), none, .call (.func 26) [(T 20)]⟩, ⟨(some 22), none, .mov (T 1)⟩, ⟨(some 23), none, .mov (T 2)⟩, ⟨(some 24), none, .mov (T 3)⟩, ⟨(some 25), none, .call (.func 46) [(T 21), (T 22), (T 23), (T 24)]⟩, ⟨(some 19), none, .mov (T 25)⟩, ⟨(some 26), none, .extract 0 (T 19)⟩, ⟨(some 27), none, .extract 1 (T 19)⟩, ⟨(some 9), none, .mov (T 26)⟩, ⟨(some 10), none, .mov (T 27)⟩]) (.seq (.ops [⟨(some 11), none, .mov (.const (.int .i64 (0)))⟩]) (.seq (.seq (.ops [⟨(some 28), none, .mov (T 1)⟩, ⟨(some 29), none, .fieldAddr 1 (T 4)⟩, ⟨(some 30), none, .load1 (T 29)⟩, ⟨(some 31), none, .len (T 30)⟩, ⟨(some 32), none, .int2 .sub (T 31) (.const (.int .i64 (1)))⟩, ⟨(some 33), none, .call (.func 42) [(T 28), (.const (.int .i64 (0))), (T 32)]⟩, ⟨(some 34), none, .not (T 33)⟩, ⟨(some 35), none, .mov (T 34)⟩, ⟨(some 36), (some (35, false)), .mov (T 2)⟩, ⟨(some 37), (some (35, false)), .fieldAddr 0 (T 4)⟩, ⟨(some 38), (some (35, false)), .load1 (T 37)⟩, ⟨(some 39), (some (35, false)), .len (T 38)⟩, ⟨(some 40), (some (35, false)), .int2 .sub (T 39) (.const (.int .i64 (1)))⟩, ⟨(some 41), (some (35, false)), .call (.func 42) [(T 36), (.const (.int .i64 (0))), (T 40)]⟩, ⟨(some 42), (some (35, false)), .not (T 41)⟩, ⟨(some 43), none, .pick (T 35) (.const (.bool true)) (T 42)⟩, ⟨(some 44), none, .mov (T 43)⟩, ⟨(some 45), (some (44, false)), .mov (T 3)⟩, ⟨(some 46), (some (44, false)), .call (.func 42) [(T 45), (.const (.int .i64 (0))), (.const (.int .i64 (999)))]⟩, ⟨(some 47), (some (44, false)), .not (T 46)⟩, ⟨(some 48), none, .pick (T 44) (.const (.bool true)) (T 47)⟩]) (.cond (T 48) (.ops [⟨(some 11), none, .mov (.const (.int .i64 (2)))⟩]) .skip)) (.seq (.ops [⟨(some 50), none, .loadN 3 (T 4)⟩, ⟨(some 51), none, .mov (T 11)⟩, ⟨(some 52), none, .call (.func 43) [(T 50), (T 51)]⟩, ⟨(some 49), none, .mov (T 52)⟩, ⟨(some 53), none, .extract 0 (T 49)⟩, ⟨(some 54), none, .extract 1 (T 49)⟩, ⟨(some 12), none, .mov (T 53)⟩, ⟨(some 13), none, .mov (T 54)⟩]) (.seq (.seq (.ops [⟨(some 55), none, .mov (T 13)⟩, ⟨(some 56), none, .int2 .neq (T 55) (.const (.int .i64 (0)))⟩]) (.cond (T 56) (.seq (.ops [⟨(some 57), none, .mov (T 10)⟩, ⟨(some 58), none, .mov (T 13)⟩, ⟨(some 59), none, .int2 .eql (T 57) (T 58)⟩, ⟨(some 60), none, .mov (T 59)⟩, ⟨(some 61), (some (60, true)), .mov (T 9)⟩, ⟨(some 62), (some (60, true)), .int2 .eql (T 61) (.const (.int .i64 (0)))⟩, ⟨(some 63), none, .pick (T 60) (T 62) (.const (.bool false))⟩, ⟨(some 64), none, .mov (T 63)⟩, ⟨(some 65), (some (64, true)), .call (.func 24) []⟩, ⟨(some 66), none, .pick (T 64) (T 65) (.const (.bool false))⟩, ⟨(some 8), none, .mov (T 66)⟩]) .ret) .skip)) (.seq (.seq (.ops [⟨(some 67), none, .loadN 3 (T 4)⟩, ⟨(some 68), none, .mov (T 12)⟩, ⟨(some 69), none, .mov (T 1)⟩, ⟨(some 70), none, .mov (T 2)⟩, ⟨(some 71), none, .mov (T 3)⟩, ⟨(some 72), none, .call (.func 47) [(T 67), (T 68), (T 69), (T 70), (T 71)]⟩, ⟨(some 14), none, .mov (T 72)⟩]) (.seq (.ops [⟨(some 73), none, .mov (T 14)⟩, ⟨(some 74), none, .int2 .geq (T 73) (.const (.int .i64 (0)))⟩]) (.cond (T 74) (.seq (.ops [⟨(some 75), none, .mov (T 10)⟩, ⟨(some 76), none, .int2 .eql (T 75) (.const (.int .i64 (0)))⟩, ⟨(some 77), none, .mov (T 76)⟩, ⟨(some 78), (some (77, true)), .mov (T 9)⟩, ⟨(some 79), (some (77, true)), .mov (T 14)⟩, ⟨(some 80), (some (77, true)), .int2 .eql (T 78) (T 79)⟩, ⟨(some 81), none, .pick (T 77) (T 80) (.const (.bool false))⟩, ⟨(some 82), none, .mov (T 81)⟩, ⟨(some 83), (some (82, true)), .call (.func 24) []⟩, ⟨(some 84), none, .pick (T 82) (T 83) (.const (.bool false))⟩, ⟨(some 8), none, .mov (T 84)⟩]) .ret) .skip))) (.seq (.ops [⟨(some 85), none, .mov (T 10)⟩, ⟨(some 86), none, .int2 .eql (T 85) (.const (.int .i64 (10)))⟩, ⟨(some 87), none, .mov (T 86)⟩, ⟨(some 88), (some (87, true)), .mov (T 9)⟩, ⟨(some 89), (some (87, true)), .int2 .eql (T 88) (.const (.int .i64 (0)))⟩, ⟨(some 90), none, .pick (T 87) (T 89) (.const (.bool false))⟩, ⟨(some 91), none, .mov (T 90)⟩, ⟨(some 92), (some (91, true)), .call (.func 24) []⟩, ⟨(some 93), none, .pick (T 91) (T 92) (.const (.bool false))⟩, ⟨(some 8), none, .mov (T 93)⟩]) .ret)))))))))
end Go.Vm.Vat

namespace Go.Vm.Vat
open Go.Proofs
set_option linter.unusedSimpArgs false
set_option linter.unusedVariables false
set_option maxRecDepth 10000
variable {n : Nat} {h : AHeap}
def s14 : SCode := (.seq (.ops [⟨(some 3), none, .box (T 0)⟩, ⟨(some 6), none, .mov (.const (.bool false))⟩]) (.seq (.seq (.ops [⟨(some 19), none, .loadN 3 (T 3)⟩, ⟨(some 20), none, .call (.func 62) [(T 19)]⟩, ⟨(some 21), none, .not (T 20)⟩, ⟨(some 22), none, .mov (T 21)⟩, ⟨(some 23), (some (22, false)), .fieldAddr 0 (T 3)⟩, ⟨(some 24), (some (22, false)), .load1 (T 23)⟩, ⟨(some 25), (some (22, false)), .len (T 24)⟩, ⟨(some 26), (some (22, false)), .int2 .eql (T 25) (.const (.int .i64 (0)))⟩, ⟨(some 27), none, .pick (T 22) (.const (.bool true)) (T 26)⟩, ⟨(some 28), none, .mov (T 27)⟩, ⟨(some 29), (some (28, false)), .fieldAddr 1 (T 3)⟩, ⟨(some 30), (some (28, false)), .load1 (T 29)⟩, ⟨(some 31), (some (28, false)), .len (T 30)⟩, ⟨(some 32), (some (28, false)), .int2 .eql (T 31) (.const (.int .i64 (0)))⟩, ⟨(some 33), none, .pick (T 28) (.const (.bool true)) (T 32)⟩]) (.cond (T 33) (.seq (.ops [⟨(some 34), none, .call (.func 24) []⟩, ⟨(some 6), none, .mov (T 34)⟩]) .ret) .skip)) (.seq (.draw [⟨.free, ⟨(some 35), none, .mov (T 1)⟩⟩, ⟨.free, ⟨(some 36), none, .plain (.convert 5 3 (T 35)) 3⟩⟩, ⟨.free, ⟨(some 37), none, .fieldAddr 1 (T 3)⟩⟩, ⟨.rd1, ⟨(some 38), none, .load1 (T 37)⟩⟩, ⟨.free, ⟨(some 39), none, .len (T 38)⟩⟩, ⟨.free, ⟨(some 40), none, .plain (.binOp .rem 3 (T 36) (T 39) 3) 3⟩⟩, ⟨.free, ⟨(some 41), none, .mov (T 1)⟩⟩, ⟨.free, ⟨(some 42), none, .plain (.convert 5 3 (T 41)) 3⟩⟩, ⟨.free, ⟨(some 43), none, .plain (.binOp .quo 3 (T 42) (.const (.int .i64 (8))) 3) 3⟩⟩, ⟨.free, ⟨(some 44), none, .fieldAddr 0 (T 3)⟩⟩, ⟨.rd1, ⟨(some 45), none, .load1 (T 44)⟩⟩, ⟨.free, ⟨(some 46), none, .len (T 45)⟩⟩, ⟨.free, ⟨(some 47), none, .plain (.binOp .rem 3 (T 43) (T 46) 3) 3⟩⟩, ⟨.free, ⟨(some 7), none, .mov (T 40)⟩⟩, ⟨.free, ⟨(some 8), none, .mov (T 47)⟩⟩]) (.seq (.ops [⟨(some 49), none, .loadN 3 (T 3)⟩, ⟨(some 50), none, .call (.func 26) [(T 49)]⟩, ⟨(some 51), none, .mov (T 7)⟩, ⟨(some 52), none, .mov (T 8)⟩, ⟨(some 53), none, .mov (T 2)⟩, ⟨(some 54), none, .plain (.convert 5 3 (T 53)) 3⟩, ⟨(some 55), none, .call (.func 46) [(T 50), (T 51), (T 52), (T 54)]⟩, ⟨(some 48), none, .mov (T 55)⟩, ⟨(some 56), none, .extract 0 (T 48)⟩, ⟨(some 57), none, .extract 1 (T 48)⟩, ⟨(some 9), none, .mov (T 56)⟩, ⟨(some 10), none, .mov (T 57)⟩]) (.seq (.ops [⟨(some 59), none, .loadN 3 (T 3)⟩, ⟨(some 60), none, .call (.func 26) [(T 59)]⟩, ⟨(some 61), none, .mov (T 7)⟩, ⟨(some 62), none, .mov (T 8)⟩, ⟨(some 63), none, .mov (T 2)⟩, ⟨(some 64), none, .plain (.convert 5 3 (T 63)) 3⟩, ⟨(some 65), none, .int2 .add (T 64) (.const (.int .i64 (1)))⟩, ⟨(some 66), none, .call (.func 46) [(T 60), (T 61), (T 62), (T 65)]⟩, ⟨(some 58), none, .mov (T 66)⟩, ⟨(some 67), none, .extract 0 (T 58)⟩, ⟨(some 68), none, .extract 1 (T 58)⟩, ⟨(some 11), none, .mov (T 67)⟩, ⟨(some 12), none, .mov (T 68)⟩]) (.seq (.ops [⟨(some 70), none, .loadN 3 (T 3)⟩, ⟨(some 71), none, .call (.func 26) [(T 70)]⟩, ⟨(some 72), none, .call (.func 34) [(T 71)]⟩, ⟨(some 69), none, .mov (T 72)⟩, ⟨(some 73), none, .extract 0 (T 69)⟩, ⟨(some 74), none, .extract 1 (T 69)⟩, ⟨(some 13), none, .mov (T 73)⟩, ⟨(some 14), none, .mov (T 74)⟩]) (.seq (.seq (.ops [⟨(some 75), none, .mov (T 14)⟩, ⟨(some 76), none, .int2 .neq (T 75) (.const (.int .i64 (0)))⟩]) (.cond (T 76) (.seq (.ops [⟨(some 77), none, .mov (T 14)⟩, ⟨(some 78), none, .int2 .eql (T 77) (.const (.int .i64 (11)))⟩, ⟨(some 79), none, .mov (T 78)⟩, ⟨(some 80), (some (79, true)), .mov (T 10)⟩, ⟨(some 81), (some (79, true)), .mov (T 14)⟩, ⟨(some 82), (some (79, true)), .int2 .eql (T 80) (T 81)⟩, ⟨(some 83), none, .pick (T 79) (T 82) (.const (.bool false))⟩, ⟨(some 84), none, .mov (T 83)⟩, ⟨(some 85), (some (84, true)), .mov (T 12)⟩, ⟨(some 86), (some (84, true)), .mov (T 14)⟩, ⟨(some 87), (some (84, true)), .int2 .eql (T 85) (T 86)⟩, ⟨(some 88), none, .pick (T 84) (T 87) (.const (.bool false))⟩, ⟨(some 89), none, .mov (T 88)⟩, ⟨(some 90), (some (89, true)), .call (.func 24) []⟩, ⟨(some 91), none, .pick (T 89) (T 90) (.const (.bool false))⟩, ⟨(some 6), none, .mov (T 91)⟩]) .ret) .skip)) (.seq (.seq (.ops [⟨(some 92), none, .mov (T 10)⟩, ⟨(some 93), none, .int2 .neq (T 92) (.const (.int .i64 (0)))⟩]) (.cond (T 93) (.seq (.ops [⟨(some 94), none, .mov (T 10)⟩, ⟨(some 95), none, .int2 .eql (T 94) (.const (.int .i64 (10)))⟩, ⟨(some 96), none, .mov (T 95)⟩, ⟨(some 97), (some (96, true)), .mov (T 12)⟩, ⟨(some 98), (some (96, true)), .mov (T 10)⟩, ⟨(some 99), (some (96, true)), .int2 .eql (T 97) (T 98)⟩, ⟨(some 100), none, .pick (T 96) (T 99) (.const (.bool false))⟩, ⟨(some 101), none, .mov (T 100)⟩, ⟨(some 102), (some (101, true)), .call (.func 24) []⟩, ⟨(some 103), none, .pick (T 101) (T 102) (.const (.bool false))⟩, ⟨(some 6), none, .mov (T 103)⟩]) .ret) .skip)) (.seq (.seq (.ops [⟨(some 104), none, .mov (T 12)⟩, ⟨(some 105), none, .int2 .neq (T 104) (.const (.int .i64 (0)))⟩, ⟨(some 106), none, .mov (T 105)⟩, ⟨(some 107), (some (106, true)), .mov (T 12)⟩, ⟨(some 108), (some (106, true)), .int2 .neq (T 107) (.const (.int .i64 (10)))⟩, ⟨(some 109), none, .pick (T 106) (T 108) (.const (.bool false))⟩, ⟨(some 110), none, .mov (T 109)⟩, ⟨(some 111), (some (110, false)), .mov (T 12)⟩, ⟨(some 112), (some (110, false)), .int2 .eql (T 111) (.const (.int .i64 (0)))⟩, ⟨(some 113), (some (110, false)), .mov (T 112)⟩, ⟨(some 114), (some (113, true)), .mov (T 11)⟩, ⟨(some 115), (some (113, true)), .mov (T 9)⟩, ⟨(some 116), (some (113, true)), .int2 .lss (T 114) (T 115)⟩, ⟨(some 117), (some (110, false)), .pick (T 113) (T 116) (.const (.bool false))⟩, ⟨(some 118), none, .pick (T 110) (.const (.bool true)) (T 117)⟩, ⟨(some 119), none, .mov (T 118)⟩, ⟨(some 120), (some (119, false)), .mov (T 13)⟩, ⟨(some 121), (some (119, false)), .len (T 120)⟩, ⟨(some 122), (some (119, false)), .fieldAddr 1 (T 3)⟩, ⟨(some 123), (some (119, false)), .load1 (T 122)⟩, ⟨(some 124), (some (119, false)), .len (T 123)⟩, ⟨(some 125), (some (119, false)), .int2 .neq (T 121) (T 124)⟩, ⟨(some 126), none, .pick (T 119) (.const (.bool true)) (T 125)⟩, ⟨(some 127), none, .mov (T 126)⟩, ⟨(some 128), (some (127, false)), .mov (T 9)⟩, ⟨(some 129), (some (127, false)), .call (.func 42) [(T 128), (.const (.int .i64 (0))), (.const (.int .i64 (9)))]⟩, ⟨(some 130), (some (127, false)), .not (T 129)⟩, ⟨(some 131), none, .pick (T 127) (.const (.bool true)) (T 130)⟩, ⟨(some 132), none, .mov (T 131)⟩, ⟨(some 133), (some (132, false)), .mov (T 9)⟩, ⟨(some 134), (some (132, false)), .int2 .eql (T 133) (.const (.int .i64 (0)))⟩, ⟨(some 135), (some (132, false)), .mov (T 13)⟩, ⟨(some 136), (some (132, false)), .mov (T 7)⟩, ⟨(some 137), (some (132, false)), .idxSl 2 (T 135) (T 136)⟩, ⟨(some 138), (some (132, false)), .fieldAddr 0 (T 137)⟩, ⟨(some 139), (some (132, false)), .load1 (T 138)⟩, ⟨(some 140), (some (132, false)), .mov (T 2)⟩, ⟨(some 141), (some (132, false)), .plain (.convert 5 3 (T 140)) 3⟩, ⟨(some 142), (some (132, false)), .int2 .geq (T 139) (T 141)⟩, ⟨(some 143), (some (132, false)), .bin .neq (.binOp .neq 4 (T 134) (T 142) 4) 4 (T 134) (T 142)⟩, ⟨(some 144), none, .pick (T 132) (.const (.bool true)) (T 143)⟩]) (.cond (T 144) (.seq (.ops [⟨(some 6), none, .mov (.const (.bool false))⟩]) .ret) .skip)) (.seq (.ops [⟨(some 145), none, .loadN 3 (T 3)⟩, ⟨(some 146), none, .call (.func 64) [(T 145)]⟩, ⟨(some 15), none, .mov (T 146)⟩]) (.seq (.ops [⟨(some 147), none, .mov (T 9)⟩, ⟨(some 148), none, .int2 .eql (T 147) (.const (.int .i64 (0)))⟩, ⟨(some 16), none, .mov (T 148)⟩]) (.seq (.seq (.ops [⟨(some 17), none, .mov (.const (.int .i64 (0)))⟩]) (.block 0 (.loop (.seq (.seq (.ops [⟨(some 149), none, .mov (T 17)⟩, ⟨(some 150), none, .mov (T 15)⟩, ⟨(some 151), none, .len (T 150)⟩, ⟨(some 152), none, .int2 .lss (T 149) (T 151)⟩]) (.cond (T 152) .skip (.exit 0))) (.seq (.block 1 (.seq (.draw [⟨.rd1, ⟨(some 155), none, .loadN 3 (T 3)⟩⟩, ⟨.free, ⟨(some 156), none, .mov (T 15)⟩⟩, ⟨.free, ⟨(some 157), none, .mov (T 17)⟩⟩, ⟨.free, ⟨(some 158), none, .idxSl 1 (T 156) (T 157)⟩⟩, ⟨.rd1, ⟨(some 159), none, .load1 (T 158)⟩⟩, ⟨.free, ⟨(some 160), none, .mov (T 7)⟩⟩, ⟨.any, ⟨(some 161), none, .call (.func 33) [(T 155), (T 159), (T 160)]⟩⟩, ⟨.free, ⟨(some 18), none, .mov (T 161)⟩⟩]) (.seq (.seq (.ops [⟨(some 162), none, .mov (T 18)⟩, ⟨(some 163), none, .mov (T 9)⟩, ⟨(some 164), none, .mov (T 15)⟩, ⟨(some 165), none, .mov (T 17)⟩, ⟨(some 166), none, .idxSl 1 (T 164) (T 165)⟩, ⟨(some 167), none, .load1 (T 166)⟩, ⟨(some 168), none, .mov (T 8)⟩, ⟨(some 169), none, .idxSl 1 (T 167) (T 168)⟩, ⟨(some 170), none, .load1 (T 169)⟩, ⟨(some 171), none, .int2 .mul (T 163) (T 170)⟩, ⟨(some 172), none, .int2 .add (T 162) (T 171)⟩, ⟨(some 173), none, .mov (T 2)⟩, ⟨(some 174), none, .plain (.convert 5 3 (T 173)) 3⟩, ⟨(some 175), none, .int2 .lss (T 172) (T 174)⟩]) (.cond (T 175) (.seq (.ops [⟨(some 6), none, .mov (.const (.bool false))⟩]) .ret) .skip)) (.ops [⟨(some 176), none, .mov (T 16)⟩, ⟨(some 177), none, .mov (T 176)⟩, ⟨(some 178), (some (177, false)), .mov (T 18)⟩, ⟨(some 179), (some (177, false)), .mov (T 9)⟩, ⟨(some 180), (some (177, false)), .int2 .sub (T 179) (.const (.int .i64 (1)))⟩, ⟨(some 181), (some (177, false)), .mov (T 15)⟩, ⟨(some 182), (some (177, false)), .mov (T 17)⟩, ⟨(some 183), (some (177, false)), .idxSl 1 (T 181) (T 182)⟩, ⟨(some 184), (some (177, false)), .load1 (T 183)⟩, ⟨(some 185), (some (177, false)), .mov (T 8)⟩, ⟨(some 186), (some (177, false)), .idxSl 1 (T 184) (T 185)⟩, ⟨(some 187), (some (177, false)), .load1 (T 186)⟩, ⟨(some 188), (some (177, false)), .int2 .mul (T 180) (T 187)⟩, ⟨(some 189), (some (177, false)), .int2 .add (T 178) (T 188)⟩, ⟨(some 190), (some (177, false)), .mov (T 2)⟩, ⟨(some 191), (some (177, false)), .plain (.convert 5 3 (T 190)) 3⟩, ⟨(some 192), (some (177, false)), .int2 .lss (T 189) (T 191)⟩, ⟨(some 193), none, .pick (T 177) (.const (.bool true)) (T 192)⟩, ⟨(some 16), none, .mov (T 193)⟩])))) (.ops [⟨(some 153), none, .mov (T 17)⟩, ⟨(some 154), none, .int2 .add (T 153) (.const (.int .i64 (1)))⟩, ⟨(some 17), none, .mov (T 154)⟩])))))) (.seq (.ops [⟨(some 194), none, .mov (T 16)⟩, ⟨(some 195), none, .mov (T 194)⟩, ⟨(some 196), (some (195, true)), .call (.func 24) []⟩, ⟨(some 197), none, .pick (T 195) (T 196) (.const (.bool false))⟩, ⟨(some 6), none, .mov (T 197)⟩]) .ret)))))))))))))
end Go.Vm.Vat

namespace Go.Vm
variable {P : Program} {N : Nat} {f : Fr} {h : AHeap} {ty t u e : TypeId} {x y : Operand}
/-! ### Samples, compared -/
theorem pr_partAgg {fs : Array Field} {i : TypeInfo} {xs : Array Value} {off : Nat} (he : P.underlying e = some (.struct fs)) (hi : P.info? e = some i) : pureRun P (part e xs off) = some (.agg (xs.extract off (off + i.size))) := by
  simp [part, isAgg, pureRun_bind, pr_under he, pr_size hi, pr_pure, pr_map]
theorem pr_eqSamp {d : Nat} {i : TypeInfo} {f0 f1 g0 g1 : Field} {a0 a1 a2 b0 b1 b2 : Int} (ht : P.underlying t = some (.struct #[f0, f1])) (hp : P.stoodInHeld t = false) (n0 : f0.name ≠ "_") (n1 : f1.name ≠ "_") (o0 : f0.offset = 0) (o1 : f1.offset = 1)
    (e0 : P.underlying f0.type = some (.int .i64)) (hi : P.info? f1.type = some i) (hs : i.size = 2)
    (ht' : P.underlying f1.type = some (.struct #[g0, g1])) (hp' : P.stoodInHeld f1.type = false) (n0' : g0.name ≠ "_") (n1' : g1.name ≠ "_") (o0' : g0.offset = 0) (o1' : g1.offset = 1)
    (e0' : P.underlying g0.type = some (.int .i64)) (e1' : P.underlying g1.type = some (.int .i64)) :
    pureRun P (Op.equalIn (d + 3) t (.agg ⟨[.int .i64 a0, .int .i64 a1, .int .i64 a2]⟩) (.agg ⟨[.int .i64 b0, .int .i64 b1, .int .i64 b2]⟩)) = some (decide (a0 = b0 ∧ a1 = b1 ∧ a2 = b2)) := by
  have x0 : ∀ (p q r : Int), pureRun P (part f0.type ⟨[.int .i64 p, .int .i64 q, .int .i64 r]⟩ f0.offset) = some (.int .i64 p) := fun p q r => pr_part e0 (by rw [o0]; rfl)
  have x1 : ∀ (p q r : Int), pureRun P (part f1.type ⟨[.int .i64 p, .int .i64 q, .int .i64 r]⟩ f1.offset) = some (.agg ⟨[.int .i64 q, .int .i64 r]⟩) := fun p q r => by
    rw [pr_partAgg ht' hi, o1, hs]; rfl
  rw [Op.equalIn]
  simp only [pureRun_bind, pr_under ht, Option.bind_some, pr_program, hp, Bool.false_eq_true, if_false]
  rw [← Array.forIn_toList]
  simp only [List.forIn_cons, List.forIn_nil, pureRun_bind, n0, n1, ne_eq, not_false_eq_true, if_true, x0, pr_eqInt e0, Option.bind_some]
  by_cases c0 : a0 = b0
  · simp only [c0, decide_true, Bool.not_true, Bool.false_eq_true, if_false, pr_pure, pureRun_bind, Option.bind_some, x1, pr_eqTwo ht' hp' n0' n1' o0' o1' e0' e1', true_and]
    by_cases c1 : a1 = b1 ∧ a2 = b2 <;> simp [c1, pr_pure]
  · simp [c0, pr_pure]
theorem plainF_neqSamp {i : TypeInfo} {f0 f1 g0 g1 : Field} {a0 a1 a2 b0 b1 b2 : Int} (hx : valN N f x = .agg ⟨[.int .i64 a0, .int .i64 a1, .int .i64 a2]⟩) (hy : valN N f y = .agg ⟨[.int .i64 b0, .int .i64 b1, .int .i64 b2]⟩) (hg : P.eqGuardType P.depth t = false)
    (ht : P.underlying t = some (.struct #[f0, f1])) (hp : P.stoodInHeld t = false) (n0 : f0.name ≠ "_") (n1 : f1.name ≠ "_") (o0 : f0.offset = 0) (o1 : f1.offset = 1)
    (e0 : P.underlying f0.type = some (.int .i64)) (hi : P.info? f1.type = some i) (hs : i.size = 2)
    (ht' : P.underlying f1.type = some (.struct #[g0, g1])) (hp' : P.stoodInHeld f1.type = false) (n0' : g0.name ≠ "_") (n1' : g1.name ≠ "_") (o0' : g0.offset = 0) (o1' : g1.offset = 1)
    (e0' : P.underlying g0.type = some (.int .i64)) (e1' : P.underlying g1.type = some (.int .i64)) :
    plainF P N (.binOp .neq t x y u) ty f h = some (.bool (!(decide (a0 = b0 ∧ a1 = b1 ∧ a2 = b2))), h) := by
  unfold plainF
  have : allB (fun x => plainV (valN N f x)) (Op.binOp .neq t x y u).operands.toList = true := by simp [Op.operands, allB, hx, hy, plainV, plainE, plainCell]
  rw [this]
  have e : pureRun P (execOp (valN N f) (bare (.binOp .neq t x y u) ty)) = some (.value (.bool (!(decide (a0 = b0 ∧ a1 = b1 ∧ a2 = b2))))) := by
    simp only [execOp, bare, hx, hy, pureRun_bind, pr_guard hg, Option.bind_some, binOp, Op.equal, Op.maxDepth, pr_eqSamp ht hp n0 n1 o0 o1 e0 hi hs ht' hp' n0' n1' o0' o1' e0' e1', pr_pure]
  rw [e]
  rfl
end Go.Vm
namespace Go.Vm.Vat
open Go.Proofs
set_option linter.unusedSimpArgs false
set_option linter.unusedVariables false
set_option maxRecDepth 10000
variable {n : Nat} {h : AHeap}
theorem guard82 : Try.prog.eqGuardType Try.prog.depth 82 = false := by kernel_rfl
theorem held82 : Try.prog.stoodInHeld 82 = false := by kernel_rfl
theorem info49 : ∃ i, Try.prog.info? 49 = some i ∧ i.size = 2 := ⟨_, by rfl, by rfl⟩
theorem neq82 {N : Nat} {f : Fr} {x y : Operand} {ty u : TypeId} {a0 a1 a2 : Int} (hx : valN N f x = .agg ⟨[.int .i64 a0, .int .i64 a1, .int .i64 a2]⟩) (hy : valN N f y = .agg ⟨[.int .i64 a0, .int .i64 a1, .int .i64 a2]⟩) : plainF Try.prog N (.binOp .neq 82 x y u) ty f h = some (.bool false, h) := by
  obtain ⟨i, hi, hs⟩ := info49
  rw [plainF_neqSamp hx hy guard82 Try.underlying82 held82 (by decide) (by decide) rfl rfl (by rfl) hi hs Try.underlying49 held49 (by decide) (by decide) rfl rfl (by rfl) (by rfl)]
  simp
def s73 : SCode := (.seq (.ops [⟨(some 4), none, .mov (.const (.bool false))⟩]) (.seq (.seq (.ops [⟨(some 6), none, .mov (T 0)⟩, ⟨(some 7), none, .len (T 6)⟩, ⟨(some 8), none, .mov (T 1)⟩, ⟨(some 9), none, .len (T 8)⟩, ⟨(some 10), none, .int2 .neq (T 7) (T 9)⟩]) (.cond (T 10) (.seq (.ops [⟨(some 4), none, .mov (.const (.bool false))⟩]) .ret) .skip)) (.seq (.seq (.ops [⟨(some 5), none, .mov (.const (.int .i64 (0)))⟩]) (.block 0 (.loop (.seq (.seq (.ops [⟨(some 11), none, .mov (T 5)⟩, ⟨(some 12), none, .mov (T 0)⟩, ⟨(some 13), none, .len (T 12)⟩, ⟨(some 14), none, .int2 .lss (T 11) (T 13)⟩]) (.cond (T 14) .skip (.exit 0))) (.seq (.block 1 (.seq (.draw [⟨.free, ⟨(some 17), none, .mov (T 0)⟩⟩, ⟨.free, ⟨(some 18), none, .mov (T 5)⟩⟩, ⟨.free, ⟨(some 19), none, .idxSl 2 (T 17) (T 18)⟩⟩, ⟨.rd1, ⟨(some 20), none, .loadN 2 (T 19)⟩⟩, ⟨.free, ⟨(some 21), none, .mov (T 1)⟩⟩, ⟨.free, ⟨(some 22), none, .mov (T 5)⟩⟩, ⟨.free, ⟨(some 23), none, .idxSl 2 (T 21) (T 22)⟩⟩, ⟨.rd1, ⟨(some 24), none, .loadN 2 (T 23)⟩⟩, ⟨.free, ⟨(some 25), none, .bin .neq (.binOp .neq 49 (T 20) (T 24) 49) 4 (T 20) (T 24)⟩⟩]) (.cond (T 25) (.seq (.ops [⟨(some 4), none, .mov (.const (.bool false))⟩]) .ret) .skip))) (.ops [⟨(some 15), none, .mov (T 5)⟩, ⟨(some 16), none, .int2 .add (T 15) (.const (.int .i64 (1)))⟩, ⟨(some 5), none, .mov (T 16)⟩])))))) (.seq (.ops [⟨(some 4), none, .mov (.const (.bool true))⟩]) .ret))))
theorem fok73 : FnOk Try.prog 73 26 s73 [.tmp 4] := ⟨Try.f73, _, Try.func73, rfl, Try.ntmps73, by kernel_rfl, by kernel_rfl⟩
theorem ranges_c (hn : 110 ≤ n) {va vb : Value} {m : Nat} {lo hi : Nat → Int} (ha : Ranges h va m lo hi) (hb : Ranges h vb m lo hi) (hm : m ≤ 100) :
    call n (.func (.func 73) #[] #[]) [va, vb] h = some (.bool true, h) := by
  obtain ⟨n, rfl⟩ : ∃ p, n = p + 1 := ⟨n - 1, by omega⟩
  suffices hs : ∃ v g1, call (n + 1) (.func (.func 73) #[] #[]) [va, vb] h = some (v, g1) ∧ v = .bool true ∧ g1 = h by
    obtain ⟨v, g1, e, rfl, rfl⟩ := hs
    exact e
  refine call_any0 fok73 rfl rfl (by simp) ?_
  simp only [rn0, rn1, rn2, rn3, rn4, rn5, rn6, rn7, rn8, if_true, if_false, Nat.le_refl, true_and, and_true, decide_true, decide_false, Bool.not_true, Bool.not_false, reduceIte, Nat.reduceEqDiff, Nat.reduceAdd, Nat.reduceMul, Nat.reduceSub, Nat.reduceLeDiff, Nat.reduceLT, s73, Cells.len ha, Cells.len hb]
  refine W_loop m (fun i f g ms => g = h ∧ ms = [] ∧ f 0 = va ∧ f 1 = vb ∧ f 5 = .int .i64 (i : Int)) (by simp; omega) ?_ ?_ ?_
  · simp only [rn0, rn1, rn2, rn3, rn4, rn5, rn6, rn7, rn8, if_true, if_false, Nat.le_refl, true_and, and_true, decide_true, decide_false, Bool.not_true, Bool.not_false, reduceIte, Nat.reduceEqDiff, Nat.reduceAdd, Nat.reduceMul, Nat.reduceSub, Nat.reduceLeDiff, Nat.reduceLT]
    try trivial
  · rintro i f g ms hi' ⟨rfl, rfl, p0, p1, p5⟩
    have hi2 : (i : Int) < (m : Int) := by omega
    have hwi : wrapF .i64 ((i : Int) + 1) = ((i + 1 : Nat) : Int) := by rw [wrap_in (by omega) (by omega)]; rfl
    have a0 := ranges_ld ha hi'
    have b0 := ranges_ld hb hi'
    have he := fun (f : Fr) (e1 : f 20 = .agg ⟨[.int .i64 (lo i), .int .i64 (hi i)]⟩) (e2 : f 24 = .agg ⟨[.int .i64 (lo i), .int .i64 (hi i)]⟩) => neq49 (h := g) (N := 26) (f := f) (x := T 20) (y := T 24) (ty := 4) (u := 49) (by rw [valN_tmp (by omega)]; exact e1) (by rw [valN_tmp (by omega)]; exact e2)
    simp only [rn0, rn1, rn2, rn3, rn4, rn5, rn6, rn7, rn8, if_true, if_false, Nat.le_refl, true_and, and_true, decide_true, decide_false, Bool.not_true, Bool.not_false, reduceIte, Nat.reduceEqDiff, Nat.reduceAdd, Nat.reduceMul, Nat.reduceSub, Nat.reduceLeDiff, Nat.reduceLT, p0, p1, p5, Cells.len ha, hi2]
    refine W_draw All ?_
    simp only [rn0, rn1, rn2, rn3, rn4, rn5, rn6, rn7, rn8, if_true, if_false, Nat.le_refl, true_and, and_true, decide_true, decide_false, Bool.not_true, Bool.not_false, reduceIte, Nat.reduceEqDiff, Nat.reduceAdd, Nat.reduceMul, Nat.reduceSub, Nat.reduceLeDiff, Nat.reduceLT, p0, p1, p5, Cells.idx ha hi', Cells.idx hb hi', a0, b0, x_binA, binA_neqAgg]
    rw [he _ (by simp only [rn0, rn1, rn2, rn3, rn4, rn5, rn6, rn7, rn8, if_true, if_false, Nat.le_refl, true_and, and_true, decide_true, decide_false, Bool.not_true, Bool.not_false, reduceIte, Nat.reduceEqDiff, Nat.reduceAdd, Nat.reduceMul, Nat.reduceSub, Nat.reduceLeDiff, Nat.reduceLT, p0, p1, p5]) (by simp only [rn0, rn1, rn2, rn3, rn4, rn5, rn6, rn7, rn8, if_true, if_false, Nat.le_refl, true_and, and_true, decide_true, decide_false, Bool.not_true, Bool.not_false, reduceIte, Nat.reduceEqDiff, Nat.reduceAdd, Nat.reduceMul, Nat.reduceSub, Nat.reduceLeDiff, Nat.reduceLT, p0, p1, p5])]
    simp only [rn0, rn1, rn2, rn3, rn4, rn5, rn6, rn7, rn8, if_true, if_false, Nat.le_refl, true_and, and_true, decide_true, decide_false, Bool.not_true, Bool.not_false, reduceIte, Nat.reduceEqDiff, Nat.reduceAdd, Nat.reduceMul, Nat.reduceSub, Nat.reduceLeDiff, Nat.reduceLT, p0, p1, p5, hwi]
  · rintro f g ms ⟨rfl, rfl, p0, p1, p5⟩
    simp only [rn0, rn1, rn2, rn3, rn4, rn5, rn6, rn7, rn8, if_true, if_false, Nat.le_refl, true_and, and_true, decide_true, decide_false, Bool.not_true, Bool.not_false, reduceIte, Nat.reduceEqDiff, Nat.reduceAdd, Nat.reduceMul, Nat.reduceSub, Nat.reduceLeDiff, Nat.reduceLT, p0, p1, p5, Cells.len ha, Int.lt_irrefl]
def s75 : SCode := (.seq (.ops [⟨(some 2), none, .box (T 0)⟩, ⟨(some 3), none, .box (T 1)⟩, ⟨(some 4), none, .mov (.const (.bool false))⟩]) (.seq (.seq (.ops [⟨(some 7), none, .fieldAddr 0 (T 2)⟩, ⟨(some 8), none, .load1 (T 7)⟩, ⟨(some 9), none, .fieldAddr 0 (T 3)⟩, ⟨(some 10), none, .load1 (T 9)⟩, ⟨(some 11), none, .call (.func 73) [(T 8), (T 10)]⟩, ⟨(some 12), none, .not (T 11)⟩, ⟨(some 13), none, .mov (T 12)⟩, ⟨(some 14), (some (13, false)), .fieldAddr 1 (T 2)⟩, ⟨(some 15), (some (13, false)), .load1 (T 14)⟩, ⟨(some 16), (some (13, false)), .len (T 15)⟩, ⟨(some 17), (some (13, false)), .fieldAddr 1 (T 3)⟩, ⟨(some 18), (some (13, false)), .load1 (T 17)⟩, ⟨(some 19), (some (13, false)), .len (T 18)⟩, ⟨(some 20), (some (13, false)), .int2 .neq (T 16) (T 19)⟩, ⟨(some 21), none, .pick (T 13) (.const (.bool true)) (T 20)⟩, ⟨(some 22), none, .mov (T 21)⟩, ⟨(some 23), (some (22, false)), .fieldAddr 2 (T 2)⟩, ⟨(some 24), (some (22, false)), .load1 (T 23)⟩, ⟨(some 25), (some (22, false)), .len (T 24)⟩, ⟨(some 26), (some (22, false)), .fieldAddr 2 (T 3)⟩, ⟨(some 27), (some (22, false)), .load1 (T 26)⟩, ⟨(some 28), (some (22, false)), .len (T 27)⟩, ⟨(some 29), (some (22, false)), .int2 .neq (T 25) (T 28)⟩, ⟨(some 30), none, .pick (T 22) (.const (.bool true)) (T 29)⟩]) (.cond (T 30) (.seq (.ops [⟨(some 4), none, .mov (.const (.bool false))⟩]) .ret) .skip)) (.seq (.seq (.ops [⟨(some 5), none, .mov (.const (.int .i64 (0)))⟩]) (.block 0 (.loop (.seq (.seq (.ops [⟨(some 31), none, .mov (T 5)⟩, ⟨(some 32), none, .fieldAddr 1 (T 2)⟩, ⟨(some 33), none, .load1 (T 32)⟩, ⟨(some 34), none, .len (T 33)⟩, ⟨(some 35), none, .int2 .lss (T 31) (T 34)⟩]) (.cond (T 35) .skip (.exit 0))) (.seq (.block 1 (.seq (.draw [⟨.free, ⟨(some 38), none, .fieldAddr 1 (T 2)⟩⟩, ⟨.rd1, ⟨(some 39), none, .load1 (T 38)⟩⟩, ⟨.free, ⟨(some 40), none, .mov (T 5)⟩⟩, ⟨.free, ⟨(some 41), none, .idxSl 1 (T 39) (T 40)⟩⟩, ⟨.rd1, ⟨(some 42), none, .load1 (T 41)⟩⟩, ⟨.free, ⟨(some 43), none, .fieldAddr 1 (T 3)⟩⟩, ⟨.rd1, ⟨(some 44), none, .load1 (T 43)⟩⟩, ⟨.free, ⟨(some 45), none, .mov (T 5)⟩⟩, ⟨.free, ⟨(some 46), none, .idxSl 1 (T 44) (T 45)⟩⟩, ⟨.rd1, ⟨(some 47), none, .load1 (T 46)⟩⟩, ⟨.any, ⟨(some 48), none, .call (.func 52) [(T 42), (T 47)]⟩⟩, ⟨.free, ⟨(some 49), none, .not (T 48)⟩⟩]) (.cond (T 49) (.seq (.ops [⟨(some 4), none, .mov (.const (.bool false))⟩]) .ret) .skip))) (.ops [⟨(some 36), none, .mov (T 5)⟩, ⟨(some 37), none, .int2 .add (T 36) (.const (.int .i64 (1)))⟩, ⟨(some 5), none, .mov (T 37)⟩])))))) (.seq (.seq (.ops [⟨(some 6), none, .mov (.const (.int .i64 (0)))⟩]) (.block 2 (.loop (.seq (.seq (.ops [⟨(some 50), none, .mov (T 6)⟩, ⟨(some 51), none, .fieldAddr 2 (T 2)⟩, ⟨(some 52), none, .load1 (T 51)⟩, ⟨(some 53), none, .len (T 52)⟩, ⟨(some 54), none, .int2 .lss (T 50) (T 53)⟩]) (.cond (T 54) .skip (.exit 2))) (.seq (.block 3 (.seq (.draw [⟨.free, ⟨(some 57), none, .fieldAddr 2 (T 2)⟩⟩, ⟨.rd1, ⟨(some 58), none, .load1 (T 57)⟩⟩, ⟨.free, ⟨(some 59), none, .mov (T 6)⟩⟩, ⟨.free, ⟨(some 60), none, .idxSl 3 (T 58) (T 59)⟩⟩, ⟨.rd1, ⟨(some 61), none, .loadN 3 (T 60)⟩⟩, ⟨.free, ⟨(some 62), none, .fieldAddr 2 (T 3)⟩⟩, ⟨.rd1, ⟨(some 63), none, .load1 (T 62)⟩⟩, ⟨.free, ⟨(some 64), none, .mov (T 6)⟩⟩, ⟨.free, ⟨(some 65), none, .idxSl 3 (T 63) (T 64)⟩⟩, ⟨.rd1, ⟨(some 66), none, .loadN 3 (T 65)⟩⟩, ⟨.free, ⟨(some 67), none, .bin .neq (.binOp .neq 82 (T 61) (T 66) 82) 4 (T 61) (T 66)⟩⟩]) (.cond (T 67) (.seq (.ops [⟨(some 4), none, .mov (.const (.bool false))⟩]) .ret) .skip))) (.ops [⟨(some 55), none, .mov (T 6)⟩, ⟨(some 56), none, .int2 .add (T 55) (.const (.int .i64 (1)))⟩, ⟨(some 6), none, .mov (T 56)⟩])))))) (.seq (.ops [⟨(some 4), none, .mov (.const (.bool true))⟩]) .ret)))))
theorem fok75 : FnOk Try.prog 75 68 s75 [.tmp 4] := ⟨Try.f75, _, Try.func75, rfl, Try.ntmps75, by kernel_rfl, by kernel_rfl⟩
theorem equal_c (hn : 10010 ≤ n) (hr : h.next + 10 < far) (hfl : h.floor ≤ h.next) {F V S F' V' S' : Value} {Y : MY} (hy : YardR h F V S Y) (hy' : YardR h F' V' S' Y) (hT : Thin Y) :
    call n (.func (.func 75) #[] #[]) [.agg ⟨[F, V, S]⟩, .agg ⟨[F', V', S']⟩] h = some (.bool true, h) := by
  obtain ⟨n, rfl⟩ : ∃ p, n = p + 1 := ⟨n - 1, by omega⟩
  obtain ⟨t1, t2, t3, t4⟩ := hT
  refine call_plain0 fok75 rfl rfl (by simp) rfl ?_
  have hy := hy.shut
  have hy' := hy'.shut
  have hr : h.shutAll.next + 10 < far := hr
  have hfl : h.shutAll.floor ≤ h.shutAll.next := Nat.le_refl _
  generalize h.shutAll = h at hr hfl hy hy'
  simp only [s75, W_seq, W_ops]
  refine ops_box (cs := [F, V, S]) (by omega) rfl hy.one fun g1 hx1 => ?_
  have n1 := hx1.next
  have f1 := hx1.floor
  refine ops_box (cs := [F', V', S']) (by omega) rfl hy'.one fun g2 hx2 => ?_
  have n2 := hx2.next
  have f2 := hx2.floor
  have s2 : Sub All h g2 := hx1.sub.trans hx2.sub
  have ha := hy.mono s2
  have hb := hy'.mono s2
  have ra := hx1.row.mono hx2.sub
  have rb := hx2.row
  obtain ⟨qa, ha1, ha2⟩ := ha.v
  obtain ⟨qb, hb1, hb2⟩ := hb.v
  have er := ranges_c (n := n) (h := g2) (by omega) ha.f hb.f (by omega)
  simp only [rn0, rn1, rn2, rn3, rn4, rn5, rn6, rn7, rn8, if_true, if_false, Nat.le_refl, true_and, and_true, decide_true, decide_false, Bool.not_true, Bool.not_false, reduceIte, Nat.reduceEqDiff, Nat.reduceAdd, Nat.reduceMul, Nat.reduceSub, Nat.reduceLeDiff, Nat.reduceLT, ra.ld, rb.ld, Nat.zero_add, List.getElem?_cons_zero, List.getElem?_cons_succ, er, Cells.len ha1, Cells.len hb1, Cells.len ha.s, Cells.len hb.s]
  refine W_loop Y.nv (fun i f g ms => g = g2 ∧ ms = [] ∧ f 2 = .pointer (some ⟨h.next, 0, none⟩) ∧ f 3 = .pointer (some ⟨g1.next, 0, none⟩) ∧ f 5 = .int .i64 (i : Int)) (by simp; omega) ?_ ?_ ?_
  · simp only [rn0, rn1, rn2, rn3, rn4, rn5, rn6, rn7, rn8, if_true, if_false, Nat.le_refl, true_and, and_true, decide_true, decide_false, Bool.not_true, Bool.not_false, reduceIte, Nat.reduceEqDiff, Nat.reduceAdd, Nat.reduceMul, Nat.reduceSub, Nat.reduceLeDiff, Nat.reduceLT]
    try trivial
  · rintro i f g ms hi ⟨rfl, rfl, p2, p3, p5⟩
    have hi2 : (i : Int) < (Y.nv : Int) := by omega
    have hwi : wrapF .i64 ((i : Int) + 1) = ((i + 1 : Nat) : Int) := by rw [wrap_in (by omega) (by omega)]; rfl
    have es := same_c (n := n) (h := g) (by omega) (ha2 i hi) (hb2 i hi) (by have := t4 i hi; omega)
    rw [decide_eq_true ⟨rfl, fun _ _ => rfl⟩] at es
    simp only [rn0, rn1, rn2, rn3, rn4, rn5, rn6, rn7, rn8, if_true, if_false, Nat.le_refl, true_and, and_true, decide_true, decide_false, Bool.not_true, Bool.not_false, reduceIte, Nat.reduceEqDiff, Nat.reduceAdd, Nat.reduceMul, Nat.reduceSub, Nat.reduceLeDiff, Nat.reduceLT, p2, p3, p5, ra.ld, rb.ld, Nat.zero_add, List.getElem?_cons_zero, List.getElem?_cons_succ, Cells.len ha1, hi2]
    refine W_draw All ?_
    simp only [rn0, rn1, rn2, rn3, rn4, rn5, rn6, rn7, rn8, if_true, if_false, Nat.le_refl, true_and, and_true, decide_true, decide_false, Bool.not_true, Bool.not_false, reduceIte, Nat.reduceEqDiff, Nat.reduceAdd, Nat.reduceMul, Nat.reduceSub, Nat.reduceLeDiff, Nat.reduceLT, p2, p3, p5, ra.ld, rb.ld, Nat.zero_add, List.getElem?_cons_zero, List.getElem?_cons_succ, Cells.idx ha1 hi, Cells.idx hb1 hi, Cells.ld ha1 hi Nat.zero_lt_one, Cells.ld hb1 hi Nat.zero_lt_one, es, hwi]
  rintro f g ms ⟨rfl, rfl, p2, p3, p5⟩
  simp only [rn0, rn1, rn2, rn3, rn4, rn5, rn6, rn7, rn8, if_true, if_false, Nat.le_refl, true_and, and_true, decide_true, decide_false, Bool.not_true, Bool.not_false, reduceIte, Nat.reduceEqDiff, Nat.reduceAdd, Nat.reduceMul, Nat.reduceSub, Nat.reduceLeDiff, Nat.reduceLT, p2, p3, p5, ra.ld, rb.ld, Nat.zero_add, List.getElem?_cons_zero, List.getElem?_cons_succ, Cells.len ha1, Int.lt_irrefl]
  refine W_loop Y.ns (fun i f g' ms => g' = g ∧ ms = [] ∧ f 2 = .pointer (some ⟨h.next, 0, none⟩) ∧ f 3 = .pointer (some ⟨g1.next, 0, none⟩) ∧ f 6 = .int .i64 (i : Int)) (by simp; omega) ?_ ?_ ?_
  · simp only [rn0, rn1, rn2, rn3, rn4, rn5, rn6, rn7, rn8, if_true, if_false, Nat.le_refl, true_and, and_true, decide_true, decide_false, Bool.not_true, Bool.not_false, reduceIte, Nat.reduceEqDiff, Nat.reduceAdd, Nat.reduceMul, Nat.reduceSub, Nat.reduceLeDiff, Nat.reduceLT, p2, p3]
    try trivial
  · rintro i f g' ms hi ⟨rfl, rfl, p2, p3, p6⟩
    have hi2 : (i : Int) < (Y.ns : Int) := by omega
    have hwi : wrapF .i64 ((i : Int) + 1) = ((i + 1 : Nat) : Int) := by rw [wrap_in (by omega) (by omega)]; rfl
    have a0 := samps_ld ha.s hi
    have b0 := samps_ld hb.s hi
    have he := fun (f : Fr) (e1 : f 61 = .agg ⟨[.int .i64 (Y.sv i), .int .i64 (Y.slo i), .int .i64 (Y.shi i)]⟩) (e2 : f 66 = .agg ⟨[.int .i64 (Y.sv i), .int .i64 (Y.slo i), .int .i64 (Y.shi i)]⟩) => neq82 (h := g') (N := 68) (f := f) (x := T 61) (y := T 66) (ty := 4) (u := 82) (by rw [valN_tmp (by omega)]; exact e1) (by rw [valN_tmp (by omega)]; exact e2)
    simp only [rn0, rn1, rn2, rn3, rn4, rn5, rn6, rn7, rn8, if_true, if_false, Nat.le_refl, true_and, and_true, decide_true, decide_false, Bool.not_true, Bool.not_false, reduceIte, Nat.reduceEqDiff, Nat.reduceAdd, Nat.reduceMul, Nat.reduceSub, Nat.reduceLeDiff, Nat.reduceLT, p2, p3, p6, ra.ld, rb.ld, Nat.zero_add, List.getElem?_cons_zero, List.getElem?_cons_succ, Cells.len ha.s, hi2]
    refine W_draw All ?_
    simp only [rn0, rn1, rn2, rn3, rn4, rn5, rn6, rn7, rn8, if_true, if_false, Nat.le_refl, true_and, and_true, decide_true, decide_false, Bool.not_true, Bool.not_false, reduceIte, Nat.reduceEqDiff, Nat.reduceAdd, Nat.reduceMul, Nat.reduceSub, Nat.reduceLeDiff, Nat.reduceLT, p2, p3, p6, ra.ld, rb.ld, Nat.zero_add, List.getElem?_cons_zero, List.getElem?_cons_succ, Cells.idx ha.s hi, Cells.idx hb.s hi, a0, b0, x_binA, binA_neqAgg]
    rw [he _ (by simp only [rn0, rn1, rn2, rn3, rn4, rn5, rn6, rn7, rn8, if_true, if_false, Nat.le_refl, true_and, and_true, decide_true, decide_false, Bool.not_true, Bool.not_false, reduceIte, Nat.reduceEqDiff, Nat.reduceAdd, Nat.reduceMul, Nat.reduceSub, Nat.reduceLeDiff, Nat.reduceLT, p2, p3, p6]) (by simp only [rn0, rn1, rn2, rn3, rn4, rn5, rn6, rn7, rn8, if_true, if_false, Nat.le_refl, true_and, and_true, decide_true, decide_false, Bool.not_true, Bool.not_false, reduceIte, Nat.reduceEqDiff, Nat.reduceAdd, Nat.reduceMul, Nat.reduceSub, Nat.reduceLeDiff, Nat.reduceLT, p2, p3, p6])]
    simp only [rn0, rn1, rn2, rn3, rn4, rn5, rn6, rn7, rn8, if_true, if_false, Nat.le_refl, true_and, and_true, decide_true, decide_false, Bool.not_true, Bool.not_false, reduceIte, Nat.reduceEqDiff, Nat.reduceAdd, Nat.reduceMul, Nat.reduceSub, Nat.reduceLeDiff, Nat.reduceLT, p2, p3, p6, hwi]
  · rintro f g' ms ⟨rfl, rfl, p2, p3, p6⟩
    simp only [rn0, rn1, rn2, rn3, rn4, rn5, rn6, rn7, rn8, if_true, if_false, Nat.le_refl, true_and, and_true, decide_true, decide_false, Bool.not_true, Bool.not_false, reduceIte, Nat.reduceEqDiff, Nat.reduceAdd, Nat.reduceMul, Nat.reduceSub, Nat.reduceLeDiff, Nat.reduceLT, p2, p3, p6, ra.ld, rb.ld, Nat.zero_add, List.getElem?_cons_zero, List.getElem?_cons_succ, Cells.len ha.s, Int.lt_irrefl]
/-! ### over -/
theorem Own.form {B s m : Nat} {v : Value} (ho : Own B h v s m) : ∃ a c, v = .slice a m c := by
  rcases ho with ⟨a, c, rfl, rfl⟩ | ⟨b, cap, cs, gr, rfl, _⟩
  · exact ⟨_, _, rfl⟩
  · exact ⟨_, _, rfl⟩
theorem Own.set {B s m b gr gr' : Nat} {g : AHeap} {v : Value} {cs cs' : List Value} (ho : Own B h v s m) (hg : h.get b = some (.row cs true gr)) (hl : cs'.length = cs.length) (hs : Set1 h g b cs' gr') : Own B g v s m := by
  rcases ho with e | ⟨b1, cap, cs1, gr1, rfl, h1, h2, h3⟩
  · exact .inl e
  · by_cases e : b1 = b
    · subst e
      rw [h2] at hg
      cases hg
      exact .inr ⟨_, cap, _, _, rfl, h1, hs.get, by omega⟩
    · exact .inr ⟨b1, cap, cs1, gr1, rfl, h1, by rw [hs.old _ e]; exact h2, h3⟩
theorem build_seven {x y : Int} : buildA (fun x => (#[(0, 1), (1, 1)] : Array (Nat × Nat))[x]?) ⟨[.int .i64 0, .int .i64 0]⟩ [0, 1] h [.int .i64 x, .int .i64 y] = some (.agg ⟨[.int .i64 x, .int .i64 y]⟩, h) := id rfl
def s74 : SCode := (.seq (.seq (.ops [⟨(some 4), none, .mov (.const (.int .i64 (0)))⟩]) (.block 0 (.loop (.seq (.seq (.ops [⟨(some 6), none, .mov (T 4)⟩, ⟨(some 7), none, .mov (T 0)⟩, ⟨(some 8), none, .len (T 7)⟩, ⟨(some 9), none, .int2 .lss (T 6) (T 8)⟩]) (.cond (T 9) .skip (.exit 0))) (.seq (.block 1 (.ops [⟨(some 12), none, .mov (T 0)⟩, ⟨(some 13), none, .mov (T 4)⟩, ⟨(some 14), none, .build #[(0, 1), (1, 1)] [(.int .i64 (0)), (.int .i64 (0))] [0, 1] [(.const (.int .i64 (-7))), (.const (.int .i64 (-8)))]⟩, ⟨(some 15), none, .idxSl 2 (T 12) (T 13)⟩, ⟨none, none, .store 2 (T 15) (T 14)⟩])) (.ops [⟨(some 10), none, .mov (T 4)⟩, ⟨(some 11), none, .int2 .add (T 10) (.const (.int .i64 (1)))⟩, ⟨(some 4), none, .mov (T 11)⟩])))))) (.seq (.ops [⟨(some 5), none, .mov (.const (.int .i64 (0)))⟩]) (.block 2 (.loop (.seq (.seq (.ops [⟨(some 16), none, .mov (T 5)⟩, ⟨(some 17), none, .mov (T 1)⟩, ⟨(some 18), none, .len (T 17)⟩, ⟨(some 19), none, .int2 .lss (T 16) (T 18)⟩]) (.cond (T 19) .skip (.exit 2))) (.seq (.block 3 (.ops [⟨(some 22), none, .mov (T 1)⟩, ⟨(some 23), none, .mov (T 5)⟩, ⟨(some 24), none, .idxSl 1 (T 22) (T 23)⟩, ⟨none, none, .store 1 (T 24) (.const (.int .i64 (-9)))⟩])) (.ops [⟨(some 20), none, .mov (T 5)⟩, ⟨(some 21), none, .int2 .add (T 20) (.const (.int .i64 (1)))⟩, ⟨(some 5), none, .mov (T 21)⟩])))))))
theorem fok74 : FnOk Try.prog 74 25 s74 [] := ⟨Try.f74, _, Try.func74, rfl, Try.ntmps74, by kernel_rfl, by kernel_rfl⟩
theorem over_c (hn : 110 ≤ n) (hr : h.next < far) {B : Nat} (hB : h.floor ≤ B) {rv lv : Value} {m k : Nat} (hm : m ≤ 100) (hk : k ≤ 100) (hrv : Own B h rv 2 m) (hlv : Own B h lv 1 k) :
    ∃ v h', call n (.func (.func 74) #[] #[]) [rv, lv] h = some (v, h') ∧ h'.next = h.next ∧ h'.floor = h.floor ∧ (∀ i, i < B → h'.get i = h.get i) ∧ ∀ C v s j, Own C h v s j → Own C h' v s j := by
  obtain ⟨n, rfl⟩ : ∃ p, n = p + 1 := ⟨n - 1, by omega⟩
  obtain ⟨a1, c1, er⟩ := hrv.form
  obtain ⟨a2, c2, el⟩ := hlv.form
  have l1 : ∀ {g : AHeap}, lenA rv g = some (.int .i64 (m : Int), g) := fun {g} => by rw [er]; rfl
  have l2 : ∀ {g : AHeap}, lenA lv g = some (.int .i64 (k : Int), g) := fun {g} => by rw [el]; rfl
  refine call_any0 fok74 rfl rfl (by simp) ?_
  simp only [rn0, rn1, rn2, rn3, rn4, rn5, rn6, rn7, rn8, if_true, if_false, Nat.le_refl, true_and, and_true, decide_true, decide_false, Bool.not_true, Bool.not_false, reduceIte, Nat.reduceEqDiff, Nat.reduceAdd, Nat.reduceMul, Nat.reduceSub, Nat.reduceLeDiff, Nat.reduceLT, s74]
  refine W_loop m (fun i f g ms => (g.next = h.next ∧ g.floor = h.floor ∧ (∀ i, i < B → g.get i = h.get i) ∧ ∀ C v s j, Own C h v s j → Own C g v s j) ∧ ms = [] ∧ f 0 = rv ∧ f 1 = lv ∧ f 4 = .int .i64 (i : Int)) (by simp; omega) ?_ ?_ ?_
  · simp only [rn0, rn1, rn2, rn3, rn4, rn5, rn6, rn7, rn8, if_true, if_false, Nat.le_refl, true_and, and_true, decide_true, decide_false, Bool.not_true, Bool.not_false, reduceIte, Nat.reduceEqDiff, Nat.reduceAdd, Nat.reduceMul, Nat.reduceSub, Nat.reduceLeDiff, Nat.reduceLT]
    exact ⟨⟨fun _ _ => trivial, fun _ _ _ _ ho => ho⟩, rfl⟩
  · rintro i f g ms hi ⟨⟨q1, q2, q3, q4⟩, rfl, p0, p1, p4⟩
    have hi2 : (i : Int) < (m : Int) := by omega
    have hwi : wrapF .i64 ((i : Int) + 1) = ((i + 1 : Nat) : Int) := by rw [wrap_in (by omega) (by omega)]; rfl
    rcases q4 _ _ _ _ hrv with ⟨_, _, _, h0⟩ | ⟨b, cap, cs, gr, e, hb1, hb2, hb3⟩
    · omega
    have hix : indexSl 2 rv (.int .i64 (i : Int)) = some (.pointer (some ⟨b, i * 2, none⟩)) := by rw [e]; exact idxSl_s hi
    simp only [rn0, rn1, rn2, rn3, rn4, rn5, rn6, rn7, rn8, if_true, if_false, Nat.le_refl, true_and, and_true, decide_true, decide_false, Bool.not_true, Bool.not_false, reduceIte, Nat.reduceEqDiff, Nat.reduceAdd, Nat.reduceMul, Nat.reduceSub, Nat.reduceLeDiff, Nat.reduceLT, p0, p1, p4, l1, hi2, hix, build_seven]
    refine step_store (b := b) (off := i * 2) (vs := [.int .i64 (-7), .int .i64 (-8)]) rfl hb2 (by omega) (by omega) rfl rfl rfl (by omega) fun g2 hs2 => ?_
    have hl2 : (splice cs (i * 2) [.int .i64 (-7), .int .i64 (-8)]).length = cs.length := splice_length _ _ _ (by simp; omega)
    simp only [rn0, rn1, rn2, rn3, rn4, rn5, rn6, rn7, rn8, if_true, if_false, Nat.le_refl, true_and, and_true, decide_true, decide_false, Bool.not_true, Bool.not_false, reduceIte, Nat.reduceEqDiff, Nat.reduceAdd, Nat.reduceMul, Nat.reduceSub, Nat.reduceLeDiff, Nat.reduceLT, p0, p1, p4, hwi]
    exact ⟨by rw [hs2.next]; exact q1, by rw [hs2.floor]; exact q2, fun j hj => by rw [hs2.old j (by omega), q3 j hj], fun C v s j ho => (q4 C v s j ho).set hb2 hl2 hs2⟩
  rintro f g1 ms ⟨⟨q1, q2, q3, q4⟩, rfl, p0, p1, p4⟩
  simp only [rn0, rn1, rn2, rn3, rn4, rn5, rn6, rn7, rn8, if_true, if_false, Nat.le_refl, true_and, and_true, decide_true, decide_false, Bool.not_true, Bool.not_false, reduceIte, Nat.reduceEqDiff, Nat.reduceAdd, Nat.reduceMul, Nat.reduceSub, Nat.reduceLeDiff, Nat.reduceLT, p0, p1, p4, l1, Int.lt_irrefl]
  refine W_loop k (fun i f g ms => (g.next = h.next ∧ g.floor = h.floor ∧ (∀ i, i < B → g.get i = h.get i) ∧ ∀ C v s j, Own C h v s j → Own C g v s j) ∧ ms = [] ∧ f 1 = lv ∧ f 5 = .int .i64 (i : Int)) (by simp; omega) ?_ ?_ ?_
  · simp only [rn0, rn1, rn2, rn3, rn4, rn5, rn6, rn7, rn8, if_true, if_false, Nat.le_refl, true_and, and_true, decide_true, decide_false, Bool.not_true, Bool.not_false, reduceIte, Nat.reduceEqDiff, Nat.reduceAdd, Nat.reduceMul, Nat.reduceSub, Nat.reduceLeDiff, Nat.reduceLT, p1]
    exact ⟨⟨q1, q2, q3, q4⟩, rfl⟩
  · rintro i f g ms hi ⟨⟨q1, q2, q3, q4⟩, rfl, p1, p5⟩
    have hi2 : (i : Int) < (k : Int) := by omega
    have hwi : wrapF .i64 ((i : Int) + 1) = ((i + 1 : Nat) : Int) := by rw [wrap_in (by omega) (by omega)]; rfl
    rcases q4 _ _ _ _ hlv with ⟨_, _, _, h0⟩ | ⟨b, cap, cs, gr, e, hb1, hb2, hb3⟩
    · omega
    have hix : indexSl 1 lv (.int .i64 (i : Int)) = some (.pointer (some ⟨b, i, none⟩)) := by rw [e]; exact idxSl_p hi
    simp only [rn0, rn1, rn2, rn3, rn4, rn5, rn6, rn7, rn8, if_true, if_false, Nat.le_refl, true_and, and_true, decide_true, decide_false, Bool.not_true, Bool.not_false, reduceIte, Nat.reduceEqDiff, Nat.reduceAdd, Nat.reduceMul, Nat.reduceSub, Nat.reduceLeDiff, Nat.reduceLT, p1, p5, l2, hi2, hix]
    refine step_store (b := b) (off := i) (vs := [.int .i64 (-9)]) rfl hb2 (by omega) (by omega) rfl rfl rfl (by omega) fun g2 hs2 => ?_
    have hl2 : (splice cs i [.int .i64 (-9)]).length = cs.length := splice_length _ _ _ (by simp; omega)
    simp only [rn0, rn1, rn2, rn3, rn4, rn5, rn6, rn7, rn8, if_true, if_false, Nat.le_refl, true_and, and_true, decide_true, decide_false, Bool.not_true, Bool.not_false, reduceIte, Nat.reduceEqDiff, Nat.reduceAdd, Nat.reduceMul, Nat.reduceSub, Nat.reduceLeDiff, Nat.reduceLT, p1, p5, hwi]
    exact ⟨by rw [hs2.next]; exact q1, by rw [hs2.floor]; exact q2, fun j hj => by rw [hs2.old j (by omega), q3 j hj], fun C v s j ho => (q4 C v s j ho).set hb2 hl2 hs2⟩
  · rintro f g ms ⟨⟨q1, q2, q3, q4⟩, rfl, p1, p5⟩
    simp only [rn0, rn1, rn2, rn3, rn4, rn5, rn6, rn7, rn8, if_true, if_false, Nat.le_refl, true_and, and_true, decide_true, decide_false, Bool.not_true, Bool.not_false, reduceIte, Nat.reduceEqDiff, Nat.reduceAdd, Nat.reduceMul, Nat.reduceSub, Nat.reduceLeDiff, Nat.reduceLT, p1, p5, l2, Int.lt_irrefl]
    exact ⟨_, rfl, q1, q2, q3, q4⟩
end Go.Vm.Vat
