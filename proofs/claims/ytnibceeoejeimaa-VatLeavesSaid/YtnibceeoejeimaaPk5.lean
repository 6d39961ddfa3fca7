/- Texts of the proofs of this seat, put together: VatYard, VatV1, VatV2, VatV3, VatV4, VatV5, VatV6, VatV7. -/
import Derived.Test.YtnibceeoejeimaaPk4

namespace Go.Vm.Vat
open Go.Proofs
set_option linter.unusedSimpArgs false
set_option linter.unusedVariables false
set_option maxRecDepth 10000
variable {n : Nat} {h : AHeap}

theorem sl_range {x y : Int} : buildSl 2 1 [.int .i64 0, .int .i64 0] [0] h [.agg ⟨[.int .i64 x, .int .i64 y]⟩] = newSlice h [.int .i64 x, .int .i64 y] 1 1 0 := id rfl
theorem sl_samp {x y z : Int} : buildSl 3 1 [.int .i64 0, .int .i64 0, .int .i64 0] [0] h [.agg ⟨[.int .i64 x, .int .i64 y, .int .i64 z]⟩] = newSlice h [.int .i64 x, .int .i64 y, .int .i64 z] 1 1 0 := id rfl
theorem sl_one {v : Value} (hv : oneCell v = true) : buildSl 1 1 [.slice none 0 0] [0] h [v] = newSlice h [v] 1 1 0 := by
  cases v <;> first | rfl | cases hv
theorem build_samp {x y z : Int} : buildA (fun x => (#[(0, 1), (1, 2)] : Array (Nat × Nat))[x]?) ⟨[.int .i64 0, .int .i64 0, .int .i64 0]⟩ [0, 1] h [.int .i64 x, .agg ⟨[.int .i64 y, .int .i64 z]⟩] = some (.agg ⟨[.int .i64 x, .int .i64 y, .int .i64 z]⟩, h) := id rfl
abbrev nilS : Value := .slice none 0 0
theorem grew {o : Nat} {b g1 g2 : AHeap} {x : Value} {r : AObj} (k : Keep o b g1) (hk : Kept g1 g2 x) (hb : ∀ a k c, x = .slice (some a) k c → b.next ≤ a.block) (ho : o < b.next) (hout : g1.get o = some r) : Keep o b g2 ∧ g2.get o = some r :=
  ⟨hk.keep k hb, by rw [hk.old o (AHeap.lt_of_get hout) fun a k c e => by have := hb a k c e; omega]; exact hout⟩
theorem set_keep {o : Nat} {b g1 g2 : AHeap} {cs : List Value} {gr : Nat} (k : Keep o b g1) (hs : Set1 g1 g2 o cs gr) : Keep o b g2 := k.trans hs.keep

def s26 : SCode := (.seq (.ops [⟨(some 1), none, .box (T 0)⟩, ⟨(some 2), none, .alloc [(.slice none 0 0), (.slice none 0 0), (.slice none 0 0)]⟩]) (.seq (.ops [⟨(some 3), none, .alloc [(.slice none 0 0), (.slice none 0 0), (.slice none 0 0)]⟩]) (.seq (.seq (.ops [⟨(some 4), none, .mov (.const (.int .i64 (0)))⟩]) (.block 0 (.loop (.seq (.seq (.ops [⟨(some 7), none, .mov (T 4)⟩, ⟨(some 8), none, .fieldAddr 0 (T 1)⟩, ⟨(some 9), none, .load1 (T 8)⟩, ⟨(some 10), none, .len (T 9)⟩, ⟨(some 11), none, .int2 .lss (T 7) (T 10)⟩]) (.cond (T 11) .skip (.exit 0))) (.seq (.block 1 (.draw [⟨.free, ⟨(some 14), none, .fieldAddr 0 (T 3)⟩⟩, ⟨.rd, ⟨(some 15), none, .load1 (T 14)⟩⟩, ⟨.free, ⟨(some 16), none, .fieldAddr 0 (T 1)⟩⟩, ⟨.rd1, ⟨(some 17), none, .load1 (T 16)⟩⟩, ⟨.free, ⟨(some 18), none, .mov (T 4)⟩⟩, ⟨.free, ⟨(some 19), none, .idxSl 2 (T 17) (T 18)⟩⟩, ⟨.rd1, ⟨(some 20), none, .loadN 2 (T 19)⟩⟩, ⟨.up, ⟨(some 21), none, .call (.func 37) [(T 20)]⟩⟩, ⟨.up, ⟨(some 22), none, .bslice 2 1 [(.int .i64 (0)), (.int .i64 (0))] [0] [(T 21)]⟩⟩, ⟨.any, ⟨(some 23), none, .append 2 16 (T 15) (T 22)⟩⟩, ⟨.free, ⟨(some 24), none, .fieldAddr 0 (T 3)⟩⟩, ⟨.any, ⟨none, none, .store 1 (T 24) (T 23)⟩⟩])) (.ops [⟨(some 12), none, .mov (T 4)⟩, ⟨(some 13), none, .int2 .add (T 12) (.const (.int .i64 (1)))⟩, ⟨(some 4), none, .mov (T 13)⟩])))))) (.seq (.seq (.ops [⟨(some 5), none, .mov (.const (.int .i64 (0)))⟩]) (.block 2 (.loop (.seq (.seq (.ops [⟨(some 25), none, .mov (T 5)⟩, ⟨(some 26), none, .fieldAddr 1 (T 1)⟩, ⟨(some 27), none, .load1 (T 26)⟩, ⟨(some 28), none, .len (T 27)⟩, ⟨(some 29), none, .int2 .lss (T 25) (T 28)⟩]) (.cond (T 29) .skip (.exit 2))) (.seq (.block 3 (.draw [⟨.free, ⟨(some 32), none, .fieldAddr 1 (T 3)⟩⟩, ⟨.rd, ⟨(some 33), none, .load1 (T 32)⟩⟩, ⟨.free, ⟨(some 34), none, .fieldAddr 1 (T 1)⟩⟩, ⟨.rd1, ⟨(some 35), none, .load1 (T 34)⟩⟩, ⟨.free, ⟨(some 36), none, .mov (T 5)⟩⟩, ⟨.free, ⟨(some 37), none, .idxSl 1 (T 35) (T 36)⟩⟩, ⟨.rd1, ⟨(some 38), none, .load1 (T 37)⟩⟩, ⟨.up, ⟨(some 39), none, .call (.func 27) [(T 38)]⟩⟩, ⟨.up, ⟨(some 40), none, .bslice 1 1 [(.slice none 0 0)] [0] [(T 39)]⟩⟩, ⟨.any, ⟨(some 41), none, .append 1 24 (T 33) (T 40)⟩⟩, ⟨.free, ⟨(some 42), none, .fieldAddr 1 (T 3)⟩⟩, ⟨.any, ⟨none, none, .store 1 (T 42) (T 41)⟩⟩])) (.ops [⟨(some 30), none, .mov (T 5)⟩, ⟨(some 31), none, .int2 .add (T 30) (.const (.int .i64 (1)))⟩, ⟨(some 5), none, .mov (T 31)⟩])))))) (.seq (.seq (.ops [⟨(some 6), none, .mov (.const (.int .i64 (0)))⟩]) (.block 4 (.loop (.seq (.seq (.ops [⟨(some 43), none, .mov (T 6)⟩, ⟨(some 44), none, .fieldAddr 2 (T 1)⟩, ⟨(some 45), none, .load1 (T 44)⟩, ⟨(some 46), none, .len (T 45)⟩, ⟨(some 47), none, .int2 .lss (T 43) (T 46)⟩]) (.cond (T 47) .skip (.exit 4))) (.seq (.block 5 (.draw [⟨.free, ⟨(some 50), none, .fieldAddr 2 (T 3)⟩⟩, ⟨.rd, ⟨(some 51), none, .load1 (T 50)⟩⟩, ⟨.free, ⟨(some 52), none, .fieldAddr 2 (T 1)⟩⟩, ⟨.rd, ⟨(some 53), none, .load1 (T 52)⟩⟩, ⟨.free, ⟨(some 54), none, .mov (T 6)⟩⟩, ⟨.free, ⟨(some 55), none, .idxSl 3 (T 53) (T 54)⟩⟩, ⟨.free, ⟨(some 56), none, .fieldAddr 0 (T 55)⟩⟩, ⟨.rd, ⟨(some 57), none, .load1 (T 56)⟩⟩, ⟨.free, ⟨(some 58), none, .fieldAddr 2 (T 1)⟩⟩, ⟨.rd1, ⟨(some 59), none, .load1 (T 58)⟩⟩, ⟨.free, ⟨(some 60), none, .mov (T 6)⟩⟩, ⟨.free, ⟨(some 61), none, .idxSl 3 (T 59) (T 60)⟩⟩, ⟨.free, ⟨(some 62), none, .fieldAddr 1 (T 61)⟩⟩, ⟨.rd1, ⟨(some 63), none, .loadN 2 (T 62)⟩⟩, ⟨.up, ⟨(some 64), none, .call (.func 37) [(T 63)]⟩⟩, ⟨.free, ⟨(some 65), none, .build #[(0, 1), (1, 2)] [(.int .i64 (0)), (.int .i64 (0)), (.int .i64 (0))] [0, 1] [(T 57), (T 64)]⟩⟩, ⟨.up, ⟨(some 66), none, .bslice 3 1 [(.int .i64 (0)), (.int .i64 (0)), (.int .i64 (0))] [0] [(T 65)]⟩⟩, ⟨.any, ⟨(some 67), none, .append 3 24 (T 51) (T 66)⟩⟩, ⟨.free, ⟨(some 68), none, .fieldAddr 2 (T 3)⟩⟩, ⟨.any, ⟨none, none, .store 1 (T 68) (T 67)⟩⟩])) (.ops [⟨(some 48), none, .mov (T 6)⟩, ⟨(some 49), none, .int2 .add (T 48) (.const (.int .i64 (1)))⟩, ⟨(some 6), none, .mov (T 49)⟩])))))) (.seq (.ops [⟨(some 69), none, .loadN 3 (T 3)⟩, ⟨none, none, .store 3 (T 2) (T 69)⟩]) .ret))))))
theorem fok26 : FnOk Try.prog 26 70 s26 [.cellN 2 3] := ⟨Try.f26, _, Try.func26, rfl, Try.ntmps26, by kernel_rfl, by kernel_rfl⟩
theorem yard_c (hn : 10002 ≤ n) (hr : h.next + 300 < far) (hfl : h.floor ≤ h.next) {fv vv sv : Value} {Y : MY} (hy : YardR h fv vv sv Y) (hY : Thin Y) :
    ∃ F V S h', call n (.func (.func 26) #[] #[]) [.agg ⟨[fv, vv, sv]⟩] h = some (.agg ⟨[F, V, S]⟩, h') ∧ YardR h' F V S Y ∧ Made h h' 300 := by
  obtain ⟨n, rfl⟩ : ∃ p, n = p + 1 := ⟨n - 1, by omega⟩
  obtain ⟨y1, y2, y3, y4⟩ := hY
  suffices hsuf : ∃ v h', call (n + 1) (.func (.func 26) #[] #[]) [.agg ⟨[fv, vv, sv]⟩] h = some (v, h') ∧ ∃ F V S, v = .agg ⟨[F, V, S]⟩ ∧ YardR h' F V S Y ∧ Made h h' 300 by
    obtain ⟨v, h', e, F, V, S, rfl, h1, h2⟩ := hsuf
    exact ⟨F, V, S, h', e, h1, h2⟩
  refine call_any0 fok26 rfl rfl (by simp) ?_
  simp only [s26, W_seq, W_ops]
  refine ops_box (cs := [fv, vv, sv]) (by omega) rfl hy.one fun h1 hx1 => ?_
  refine ops_alloc (by rw [hx1.next]; omega) rfl fun h2 hx2 => ?_
  simp only [rn0, rn1, rn2, rn3, rn4, rn5, rn6, rn7, rn8, if_true, if_false, Nat.le_refl, true_and, and_true, decide_true, decide_false, Bool.not_true, Bool.not_false, reduceIte, Nat.reduceEqDiff, Nat.reduceAdd, Nat.reduceMul, Nat.reduceSub, Nat.reduceLeDiff, Nat.reduceLT]
  refine step_row (by rw [hx2.next, hx1.next]; omega) rfl rfl fun h3 hx3 => ?_
  have n1 : h1.next = h.next + 1 := hx1.next
  have n2 : h2.next = h.next + 2 := by rw [hx2.next, n1]
  have n3 : h3.next = h.next + 3 := by rw [hx3.next, n2]
  have hsub : Sub All h h3 := hx1.sub.trans (hx2.sub.trans hx3.sub)
  have hbox : Row h3 h.next [fv, vv, sv] := (hx1.row.mono hx2.sub).mono hx3.sub
  have hres : h3.get (h.next + 1) = some (.row [nilS, nilS, nilS] true 0) := by
    have := hx2.get
    rw [n1] at this
    exact hx3.sub _ _ _ _ trivial this
  have hout : h3.get (h.next + 2) = some (.row [nilS, nilS, nilS] true 0) := by
    have := hx3.get
    rw [n2] at this
    exact this
  have hf3 : h3.floor = h.floor := by rw [hx3.floor, hx2.floor, hx1.floor]
  rw [n1, n2]
  clear hx1 hx2 hx3 n1 n2
  have hall : ∀ {g : AHeap}, Keep (h.next + 2) h3 g → Sub All h g := fun st i cs w gr _ hg => st.sub i cs w gr (by have := AHeap.lt_of_get hg; omega) (hsub _ _ _ _ trivial hg)
  simp only [rn0, rn1, rn2, rn3, rn4, rn5, rn6, rn7, rn8, if_true, if_false, Nat.le_refl, true_and, and_true, decide_true, decide_false, Bool.not_true, Bool.not_false, reduceIte, Nat.reduceEqDiff, Nat.reduceAdd, Nat.reduceMul, Nat.reduceSub, Nat.reduceLeDiff, Nat.reduceLT]
  refine W_loop Y.nf (fun k f g m => (∃ F, Keep (h.next + 2) h3 g ∧ g.get (h.next + 2) = some (.row [F, nilS, nilS] true 0) ∧ GrowC h3.next g F 2 k (fun k j => .int .i64 (if j = 0 then Y.lo k else Y.hi k)) ∧ g.next ≤ h3.next + 2 * k) ∧ m = [] ∧ f 1 = .pointer (some ⟨h.next, 0, none⟩) ∧ f 2 = .pointer (some ⟨h.next + 1, 0, none⟩) ∧ f 3 = .pointer (some ⟨h.next + 2, 0, none⟩) ∧ f 4 = .int .i64 (k : Int)) (by simp; omega) ?_ ?_ ?_
  · simp only [rn0, rn1, rn2, rn3, rn4, rn5, rn6, rn7, rn8, if_true, if_false, Nat.le_refl, true_and, and_true, decide_true, decide_false, Bool.not_true, Bool.not_false, reduceIte, Nat.reduceEqDiff, Nat.reduceAdd, Nat.reduceMul, Nat.reduceSub, Nat.reduceLeDiff, Nat.reduceLT]
    exact ⟨⟨_, Keep.refl, hout, .nil, by omega⟩, rfl⟩
  · rintro k f g m hk ⟨⟨F, st, go, gF, hgn⟩, rfl, f1, f2, f3, f4⟩
    have hk' : (k : Int) < (Y.nf : Int) := by omega
    have hw : wrapF .i64 ((k : Int) + 1) = ((k + 1 : Nat) : Int) := by rw [wrap_in (by omega) (by omega)]; rfl
    have hrow : Row g (h.next + 2) [F, nilS, nilS] := ⟨_, _, go⟩
    have hbx := hbox.keep st (by omega)
    have hfr := (hy.mono (hall st)).f
    have hup := st.up
    have hfg := st.floor
    simp only [rn0, rn1, rn2, rn3, rn4, rn5, rn6, rn7, rn8, if_true, if_false, Nat.le_refl, true_and, and_true, decide_true, decide_false, Bool.not_true, Bool.not_false, reduceIte, Nat.reduceEqDiff, Nat.reduceAdd, Nat.reduceMul, Nat.reduceSub, Nat.reduceLeDiff, Nat.reduceLT, f1, f2, f3, f4, hbx.ld, Nat.zero_add, Nat.add_zero, List.getElem?_cons_zero, List.getElem?_cons_succ, Cells.len hfr, hk']
    refine W_draw All ?_
    simp only [rn0, rn1, rn2, rn3, rn4, rn5, rn6, rn7, rn8, if_true, if_false, Nat.le_refl, true_and, and_true, decide_true, decide_false, Bool.not_true, Bool.not_false, reduceIte, Nat.reduceEqDiff, Nat.reduceAdd, Nat.reduceMul, Nat.reduceSub, Nat.reduceLeDiff, Nat.reduceLT, f1, f2, f3, f4, hbx.ld, hrow.ld, Nat.zero_add, Nat.add_zero, List.getElem?_cons_zero, List.getElem?_cons_succ, gF.cells.self, Cells.idx hfr hk, ranges_ld hfr hk, to_c (n := n) (h := g) (by omega) (by omega), sl_range]
    refine up_slice (by omega) rfl (fun g1 hx => hx.sub) fun g1 hx => ?_
    have hgx := hx.next
    have hgf := hx.floor
    have gF1 := gF.keep (hx.keep (o := h.next + 2)) (by omega)
    obtain ⟨F', g2, e, e', gF', hk2⟩ := gF1.append (bytes := 16) (cap := 1) (by omega) (by omega) (by omega) hx.get rfl rfl (fun j hj => by rcases j with _ | _ | j <;> simp_all <;> omega) (by simp [maxBytes]; omega) (by simp [maxBytes]; omega)
    obtain ⟨st2, go2⟩ := grew (st.trans hx.keep) hk2 (fun a k c e => (gF1.block e).1) (by omega) (hx.sub _ _ _ _ trivial go)
    have hgx2 := hk2.next
    have hgf2 := hk2.floor
    simp only [rn0, rn1, rn2, rn3, rn4, rn5, rn6, rn7, rn8, if_true, if_false, Nat.le_refl, true_and, and_true, decide_true, decide_false, Bool.not_true, Bool.not_false, reduceIte, Nat.reduceEqDiff, Nat.reduceAdd, Nat.reduceMul, Nat.reduceSub, Nat.reduceLeDiff, Nat.reduceLT, f1, f2, f3, f4, e, Nat.add_zero]
    refine ⟨by omega, up_store (vs := [F']) rfl go2 (by omega) (by omega) (by rw [e']; rfl) (by simp [allB, gF'.one]) rfl (by simp) (fun _ _ => trivial) fun g3 hs => ?_⟩
    have hgx3 := hs.next
    simp only [rn0, rn1, rn2, rn3, rn4, rn5, rn6, rn7, rn8, if_true, if_false, Nat.le_refl, true_and, and_true, decide_true, decide_false, Bool.not_true, Bool.not_false, reduceIte, Nat.reduceEqDiff, Nat.reduceAdd, Nat.reduceMul, Nat.reduceSub, Nat.reduceLeDiff, Nat.reduceLT, f1, f2, f3, f4, hw, Nat.add_zero]
    exact ⟨_, set_keep st2 hs, hs.get, gF'.keep hs.keep (by omega), by omega⟩
  rintro f g0 m ⟨⟨F, st0, go0, gF, hgn0⟩, rfl, f1, f2, f3, f4⟩
  have hbx0 := hbox.keep st0 (by omega)
  have hup0 := st0.up
  have hfg0 := st0.floor
  simp only [rn0, rn1, rn2, rn3, rn4, rn5, rn6, rn7, rn8, if_true, if_false, Nat.le_refl, true_and, and_true, decide_true, decide_false, Bool.not_true, Bool.not_false, reduceIte, Nat.reduceEqDiff, Nat.reduceAdd, Nat.reduceMul, Nat.reduceSub, Nat.reduceLeDiff, Nat.reduceLT, f1, f2, f3, f4, hbx0.ld, Nat.zero_add, Nat.add_zero, List.getElem?_cons_zero, List.getElem?_cons_succ, Cells.len (hy.mono (hall st0)).f, Int.lt_irrefl]
  clear f4
  refine W_loop Y.nv (fun k f g m => (∃ (V : Value) (r : Nat → Value), Keep (h.next + 2) g0 g ∧ g.get (h.next + 2) = some (.row [F, V, nilS] true 0) ∧ GrowC g0.next g V 1 k (fun k _ => r k) ∧ (∀ i, i < k → Ints g (r i) (Y.cnt i) (Y.q i) ∧ ∀ a m c, r i = .slice (some a) m c → h.next + 3 ≤ a.block ∧ a.block < g.next ∧ ∀ b m c, V = .slice (some b) m c → a.block ≠ b.block) ∧ g.next ≤ g0.next + 4 * k) ∧ m = [] ∧ f 1 = .pointer (some ⟨h.next, 0, none⟩) ∧ f 2 = .pointer (some ⟨h.next + 1, 0, none⟩) ∧ f 3 = .pointer (some ⟨h.next + 2, 0, none⟩) ∧ f 5 = .int .i64 (k : Int)) (by simp; omega) ?_ ?_ ?_
  · simp only [rn0, rn1, rn2, rn3, rn4, rn5, rn6, rn7, rn8, if_true, if_false, Nat.le_refl, true_and, and_true, decide_true, decide_false, Bool.not_true, Bool.not_false, reduceIte, Nat.reduceEqDiff, Nat.reduceAdd, Nat.reduceMul, Nat.reduceSub, Nat.reduceLeDiff, Nat.reduceLT, f1, f2, f3]
    exact ⟨⟨_, fun _ => nilS, Keep.refl, go0, .nil, fun _ hi => by omega, by omega⟩, rfl⟩
  · rintro k f g m hk ⟨⟨V, r, st, go, gV, hr', hgn⟩, rfl, f1, f2, f3, f5⟩
    have hk' : (k : Int) < (Y.nv : Int) := by omega
    have hw : wrapF .i64 ((k : Int) + 1) = ((k + 1 : Nat) : Int) := by rw [wrap_in (by omega) (by omega)]; rfl
    have hrow : Row g (h.next + 2) [F, V, nilS] := ⟨_, _, go⟩
    have hbx := hbx0.keep st (by omega)
    obtain ⟨rr, hrw, hq⟩ := (hy.mono (hall (st0.trans st))).v
    have hup := st.up
    have hfg := st.floor
    obtain ⟨l, gl, el, hl, hm, hl1, hlb⟩ := list_c (n := n) (h := g) (by omega) (by omega) (hq k hk) (y4 k hk)
    have hml := hm.next
    have hmu := hm.up
    have hmf := hm.floor
    simp only [rn0, rn1, rn2, rn3, rn4, rn5, rn6, rn7, rn8, if_true, if_false, Nat.le_refl, true_and, and_true, decide_true, decide_false, Bool.not_true, Bool.not_false, reduceIte, Nat.reduceEqDiff, Nat.reduceAdd, Nat.reduceMul, Nat.reduceSub, Nat.reduceLeDiff, Nat.reduceLT, f1, f2, f3, f5, hbx.ld, Nat.zero_add, Nat.add_zero, List.getElem?_cons_zero, List.getElem?_cons_succ, Cells.len hrw, hk']
    refine W_draw All ?_
    simp only [rn0, rn1, rn2, rn3, rn4, rn5, rn6, rn7, rn8, if_true, if_false, Nat.le_refl, true_and, and_true, decide_true, decide_false, Bool.not_true, Bool.not_false, reduceIte, Nat.reduceEqDiff, Nat.reduceAdd, Nat.reduceMul, Nat.reduceSub, Nat.reduceLeDiff, Nat.reduceLT, f1, f2, f3, f5, hbx.ld, hrow.ld, Nat.zero_add, Nat.add_zero, List.getElem?_cons_zero, List.getElem?_cons_succ, gV.cells.self, Cells.idx hrw hk, Cells.ld hrw hk Nat.zero_lt_one, el, sl_one hl1]
    refine ⟨⟨hmu, hm.sub⟩, up_slice (by omega) (by simp [allB, hl1]) (fun g1 hx => hm.sub.trans hx.sub) fun g1 hx => ?_⟩
    have hgx := hx.next
    have hgf := hx.floor
    have kl : Keep (h.next + 2) g g1 := ⟨fun i cs w gr hi hg => hx.sub _ _ _ _ trivial (hm.sub _ _ _ _ trivial hg), by omega, by omega⟩
    have gV1 := gV.keep kl (by omega)
    have gV2 : GrowC g0.next g1 V 1 k (fun i _ => if i = k then l else r i) := by
      obtain ⟨cs, c1, c2, c3⟩ := gV1
      exact ⟨cs, c1, c2, fun i j hi hj => by rw [c3 i j hi hj]; show some (r i) = some (if i = k then l else r i); rw [if_neg (by omega)]⟩
    have hnew : ∀ j, j < 1 → [l][j]? = some ((fun i _ => if i = k then l else r i : Nat → Nat → Value) k j) := by
      intro j hj
      have : j = 0 := by omega
      subst this
      simp
    obtain ⟨V', g2, e, e', gV', hk2⟩ := gV2.append (bytes := 24) (cap := 1) (by omega) (by omega) (by omega) hx.get rfl (by simp [allB, hl1]) hnew (by simp [maxBytes]; omega) (by simp [maxBytes]; omega)
    have go1 : g1.get (h.next + 2) = some (.row [F, V, nilS] true 0) := hx.sub _ _ _ _ trivial (hm.sub _ _ _ _ trivial go)
    obtain ⟨st2, go2⟩ := grew (st.trans kl) hk2 (fun a k c e => (gV1.block e).1) (by omega) go1
    have hgx2 := hk2.next
    have hgf2 := hk2.floor
    simp only [rn0, rn1, rn2, rn3, rn4, rn5, rn6, rn7, rn8, if_true, if_false, Nat.le_refl, true_and, and_true, decide_true, decide_false, Bool.not_true, Bool.not_false, reduceIte, Nat.reduceEqDiff, Nat.reduceAdd, Nat.reduceMul, Nat.reduceSub, Nat.reduceLeDiff, Nat.reduceLT, f1, f2, f3, f5, e, Nat.add_zero, Nat.zero_add]
    refine ⟨by omega, up_store (vs := [V']) rfl go2 (by omega) (by omega) (by rw [e']; rfl) (by simp [allB, gV'.one]) rfl (by simp) (fun _ _ => trivial) fun g3 hs => ?_⟩
    have hgx3 := hs.next
    simp only [rn0, rn1, rn2, rn3, rn4, rn5, rn6, rn7, rn8, if_true, if_false, Nat.le_refl, true_and, and_true, decide_true, decide_false, Bool.not_true, Bool.not_false, reduceIte, Nat.reduceEqDiff, Nat.reduceAdd, Nat.reduceMul, Nat.reduceSub, Nat.reduceLeDiff, Nat.reduceLT, f1, f2, f3, f5, hw, Nat.add_zero]
    refine ⟨V', fun i => if i = k then l else r i, set_keep st2 hs, hs.get, gV'.keep hs.keep (by omega), ?_, by omega⟩
    intro i hi
    by_cases hik : i = k
    · subst hik
      dsimp only
      rw [if_pos rfl]
      refine ⟨?_, fun a m c ea => ?_⟩
      · have q1 : Ints g1 l (Y.cnt i) (Y.q i) := Cells.mono hl hx.sub
        have q2 : Ints g2 l (Y.cnt i) (Y.q i) := Cells.kept q1 hk2 fun a k c ea b k' c' eb => by
          have := (hlb a k c ea).1
          have := (gV.block eb).2
          omega
        exact Cells.keep q2 hs.keep fun a k c ea => by have := (hlb a k c ea).1; omega
      · obtain ⟨b1, b2⟩ := hlb a m c ea
        refine ⟨by omega, by omega, fun b m c eb => ?_⟩
        rw [e'] at eb
        cases eb
        show a.block ≠ g1.next
        omega
    · dsimp only
      rw [if_neg hik]
      obtain ⟨r1, r2⟩ := hr' i (by omega)
      refine ⟨?_, fun a m c ea => ?_⟩
      · have q1 : Ints g1 (r i) (Y.cnt i) (Y.q i) := Cells.keep r1 kl fun a k c ea => by have := (r2 a k c ea).1; omega
        have q2 : Ints g2 (r i) (Y.cnt i) (Y.q i) := Cells.kept q1 hk2 fun a k c ea b k' c' eb => (r2 a k c ea).2.2 b k' c' eb
        exact Cells.keep q2 hs.keep fun a k c ea => by have := (r2 a k c ea).1; omega
      · obtain ⟨b1, b2, b3⟩ := r2 a m c ea
        refine ⟨by omega, by omega, fun b m c eb => ?_⟩
        rw [e'] at eb
        cases eb
        show a.block ≠ g1.next
        omega
  rintro f g4 m ⟨⟨V, r, st4, go4, gV, hr4, hgn4⟩, rfl, f1, f2, f3, f5⟩
  have st4h := st0.trans st4
  have hbx4 := hbx0.keep st4 (by omega)
  have hup4 := st4.up
  have hfg4 := st4.floor
  obtain ⟨rr, hrw, hq⟩ := (hy.mono (hall st4h)).v
  simp only [rn0, rn1, rn2, rn3, rn4, rn5, rn6, rn7, rn8, if_true, if_false, Nat.le_refl, true_and, and_true, decide_true, decide_false, Bool.not_true, Bool.not_false, reduceIte, Nat.reduceEqDiff, Nat.reduceAdd, Nat.reduceMul, Nat.reduceSub, Nat.reduceLeDiff, Nat.reduceLT, f1, f2, f3, f5, hbx4.ld, Nat.zero_add, Nat.add_zero, List.getElem?_cons_zero, List.getElem?_cons_succ, Cells.len hrw, Int.lt_irrefl]
  clear f5
  refine W_loop Y.ns (fun k f g m => (∃ (S : Value), Keep (h.next + 2) g4 g ∧ g.get (h.next + 2) = some (.row [F, V, S] true 0) ∧ GrowC g4.next g S 3 k (fun k j => .int .i64 (if j = 0 then Y.sv k else if j = 1 then Y.slo k else Y.shi k)) ∧ g.next ≤ g4.next + 2 * k) ∧ m = [] ∧ f 1 = .pointer (some ⟨h.next, 0, none⟩) ∧ f 2 = .pointer (some ⟨h.next + 1, 0, none⟩) ∧ f 3 = .pointer (some ⟨h.next + 2, 0, none⟩) ∧ f 6 = .int .i64 (k : Int)) (by simp; omega) ?_ ?_ ?_
  · simp only [rn0, rn1, rn2, rn3, rn4, rn5, rn6, rn7, rn8, if_true, if_false, Nat.le_refl, true_and, and_true, decide_true, decide_false, Bool.not_true, Bool.not_false, reduceIte, Nat.reduceEqDiff, Nat.reduceAdd, Nat.reduceMul, Nat.reduceSub, Nat.reduceLeDiff, Nat.reduceLT, f1, f2, f3]
    exact ⟨⟨_, Keep.refl, go4, .nil, by omega⟩, rfl⟩
  · rintro k f g m hk ⟨⟨S, st, go, gS, hgn⟩, rfl, f1, f2, f3, f6⟩
    have hk' : (k : Int) < (Y.ns : Int) := by omega
    have hw : wrapF .i64 ((k : Int) + 1) = ((k + 1 : Nat) : Int) := by rw [wrap_in (by omega) (by omega)]; rfl
    have hrow : Row g (h.next + 2) [F, V, S] := ⟨_, _, go⟩
    have hbx := hbx4.keep st (by omega)
    have hfr := (hy.mono (hall (st4h.trans st))).s
    have hup := st.up
    have hfg := st.floor
    have hl2 : loadAgg 2 g (ptrO sv 3 k 1) = some (.agg ⟨[.int .i64 (Y.slo k), .int .i64 (Y.shi k)]⟩) := by rw [Cells.ldN hfr hk (by omega) (by omega)]; simp [List.range_succ]
    simp only [rn0, rn1, rn2, rn3, rn4, rn5, rn6, rn7, rn8, if_true, if_false, Nat.le_refl, true_and, and_true, decide_true, decide_false, Bool.not_true, Bool.not_false, reduceIte, Nat.reduceEqDiff, Nat.reduceAdd, Nat.reduceMul, Nat.reduceSub, Nat.reduceLeDiff, Nat.reduceLT, f1, f2, f3, f6, hbx.ld, Nat.zero_add, Nat.add_zero, List.getElem?_cons_zero, List.getElem?_cons_succ, Cells.len hfr, hk']
    refine W_draw All ?_
    simp only [rn0, rn1, rn2, rn3, rn4, rn5, rn6, rn7, rn8, if_true, if_false, Nat.le_refl, true_and, and_true, decide_true, decide_false, Bool.not_true, Bool.not_false, reduceIte, Nat.reduceEqDiff, Nat.reduceAdd, Nat.reduceMul, Nat.reduceSub, Nat.reduceLeDiff, Nat.reduceLT, f1, f2, f3, f6, hbx.ld, hrow.ld, Nat.zero_add, Nat.add_zero, List.getElem?_cons_zero, List.getElem?_cons_succ, gS.cells.self, Cells.self hfr, Cells.idx hfr hk, Cells.fld hfr hk, Cells.ld hfr hk (show 0 < 3 by omega), hl2, to_c (n := n) (h := g) (by omega) (by omega), build_samp, sl_samp]
    refine up_slice (by omega) rfl (fun g1 hx => hx.sub) fun g1 hx => ?_
    have hgx := hx.next
    have hgf := hx.floor
    have gS1 := gS.keep (hx.keep (o := h.next + 2)) (by omega)
    obtain ⟨S', g2, e, e', gS', hk2⟩ := gS1.append (bytes := 24) (cap := 1) (by omega) (by omega) (by omega) hx.get rfl rfl (fun j hj => by rcases j with _ | _ | _ | j <;> simp_all <;> omega) (by simp [maxBytes]; omega) (by simp [maxBytes]; omega)
    obtain ⟨st2, go2⟩ := grew (st.trans hx.keep) hk2 (fun a k c e => (gS1.block e).1) (by omega) (hx.sub _ _ _ _ trivial go)
    have hgx2 := hk2.next
    have hgf2 := hk2.floor
    simp only [rn0, rn1, rn2, rn3, rn4, rn5, rn6, rn7, rn8, if_true, if_false, Nat.le_refl, true_and, and_true, decide_true, decide_false, Bool.not_true, Bool.not_false, reduceIte, Nat.reduceEqDiff, Nat.reduceAdd, Nat.reduceMul, Nat.reduceSub, Nat.reduceLeDiff, Nat.reduceLT, f1, f2, f3, f6, e, Nat.add_zero, Nat.zero_add]
    refine ⟨by omega, up_store (vs := [S']) rfl go2 (by omega) (by omega) (by rw [e']; rfl) (by simp [allB, gS'.one]) rfl (by simp) (fun _ _ => trivial) fun g3 hs => ?_⟩
    have hgx3 := hs.next
    simp only [rn0, rn1, rn2, rn3, rn4, rn5, rn6, rn7, rn8, if_true, if_false, Nat.le_refl, true_and, and_true, decide_true, decide_false, Bool.not_true, Bool.not_false, reduceIte, Nat.reduceEqDiff, Nat.reduceAdd, Nat.reduceMul, Nat.reduceSub, Nat.reduceLeDiff, Nat.reduceLT, f1, f2, f3, f6, hw, Nat.add_zero]
    exact ⟨_, set_keep st2 hs, hs.get, gS'.keep hs.keep (by omega), by omega⟩
  rintro f g m ⟨⟨S, st, go, gS, hgn⟩, rfl, f1, f2, f3, f6⟩
  have stH := st4h.trans st
  have hbx := hbx4.keep st (by omega)
  have hup := st.up
  have hfg := st.floor
  have hfr := (hy.mono (hall stH)).s
  have hrow : Row g (h.next + 2) [F, V, S] := ⟨_, _, go⟩
  have hrs : g.get (h.next + 1) = some (.row [nilS, nilS, nilS] true 0) := stH.sub _ _ _ _ (by omega) hres
  have hF : Ranges g F Y.nf Y.lo Y.hi := ((gF.keep st4 (by omega)).keep st (by omega)).cells
  have hV := (gV.keep st (by omega)).cells
  have hS := gS.cells
  have hq' : ∀ i, i < Y.nv → Ints g (r i) (Y.cnt i) (Y.q i) := fun i hi => Cells.keep (hr4 i hi).1 st fun a k c ea => by have := ((hr4 i hi).2 a k c ea).1; omega
  simp only [rn0, rn1, rn2, rn3, rn4, rn5, rn6, rn7, rn8, if_true, if_false, Nat.le_refl, true_and, and_true, decide_true, decide_false, Bool.not_true, Bool.not_false, reduceIte, Nat.reduceEqDiff, Nat.reduceAdd, Nat.reduceMul, Nat.reduceSub, Nat.reduceLeDiff, Nat.reduceLT, f1, f2, f3, f6, hbx.ld, Nat.zero_add, Nat.add_zero, List.getElem?_cons_zero, List.getElem?_cons_succ, Cells.len hfr, Int.lt_irrefl, hrow.ldN 0 3 (by simp) (by simp), List.drop_zero, List.take_succ_cons, List.take_zero]
  refine step_store (vs := [F, V, S]) rfl hrs (by omega) (by omega) rfl (by simp [allB, Cells.one hF, Cells.one hV, Cells.one hS]) rfl (by simp) fun g' hs => ?_
  have hld := hs.row.ldN 0 3 (by simp [splice]) (by simp [splice])
  simp only [rn0, rn1, rn2, rn3, rn4, rn5, rn6, rn7, rn8, if_true, if_false, Nat.le_refl, true_and, and_true, decide_true, decide_false, Bool.not_true, Bool.not_false, reduceIte, Nat.reduceEqDiff, Nat.reduceAdd, Nat.reduceMul, Nat.reduceSub, Nat.reduceLeDiff, Nat.reduceLT, f1, f2, f3, f6, hld, splice, List.take_zero, List.drop_zero, List.nil_append, List.length_cons, List.length_nil, List.drop_succ_cons, List.drop_nil, List.append_nil, List.take_succ_cons]
  have hks : Keep (h.next + 1) g g' := hs.keep
  have hgx := hs.next
  have hgf := hs.floor
  refine ⟨F, V, S, rfl, ⟨?_, ⟨r, ?_, fun i hi => ?_⟩, ?_⟩, ⟨fun i cs w gr _ hg => ?_, by omega, by omega, by omega⟩⟩
  · exact Cells.keep hF hks fun a k c ea => by have := (gF.block ea).1; omega
  · exact Cells.keep hV hks fun a k c ea => by have := (gV.block ea).1; omega
  · exact Cells.keep (hq' i hi) hks fun a k c ea => by have := ((hr4 i hi).2 a k c ea).1; omega
  · exact Cells.keep hS hks fun a k c ea => by have := (gS.block ea).1; omega
  · exact hks.sub _ _ _ _ (by have := AHeap.lt_of_get hg; omega) (hall stH _ _ _ _ trivial hg)
end Go.Vm.Vat

namespace Go.Vm.Vat
open Go.Proofs
set_option linter.unusedSimpArgs false
set_option linter.unusedVariables false
set_option maxRecDepth 10000
variable {n : Nat} {h : AHeap}

def s117 : SCode := (.seq (.ops [⟨(some 2), none, .box (T 0)⟩, ⟨(some 4), none, .mov (.const (.bool false))⟩]) (.seq (.ops [⟨(some 5), none, .fieldAddr 0 (T 2)⟩, ⟨(some 6), none, .load1 (T 5)⟩, ⟨(some 7), none, .int2 .leq (.const (.int .i64 (0))) (T 6)⟩, ⟨(some 8), none, .mov (T 7)⟩, ⟨(some 9), (some (8, true)), .fieldAddr 0 (T 2)⟩, ⟨(some 10), (some (8, true)), .load1 (T 9)⟩, ⟨(some 11), (some (8, true)), .fieldAddr 1 (T 2)⟩, ⟨(some 12), (some (8, true)), .load1 (T 11)⟩, ⟨(some 13), (some (8, true)), .int2 .leq (T 10) (T 12)⟩, ⟨(some 14), none, .pick (T 8) (T 13) (.const (.bool false))⟩, ⟨(some 15), none, .mov (T 14)⟩, ⟨(some 16), (some (15, true)), .fieldAddr 1 (T 2)⟩, ⟨(some 17), (some (15, true)), .load1 (T 16)⟩, ⟨(some 18), (some (15, true)), .mov (T 1)⟩, ⟨(some 19), (some (15, true)), .int2 .leq (T 17) (T 18)⟩, ⟨(some 20), none, .pick (T 15) (T 19) (.const (.bool false))⟩, ⟨(some 4), none, .mov (T 20)⟩]) .ret))
theorem fok117 : FnOk Try.prog 117 21 s117 [.tmp 4] := ⟨Try.f117, _, Try.func117, rfl, Try.ntmps117, by kernel_rfl, by kernel_rfl⟩
theorem isUpTo_c (hn : 1 ≤ n) (hr : h.next < far) (lo hi m : Int) : call n (.func (.func 117) #[] #[]) [.agg ⟨[.int .i64 lo, .int .i64 hi]⟩, .int .i64 m] h = some (.bool (decide (0 ≤ lo ∧ lo ≤ hi ∧ hi ≤ m)), h) := by
  obtain ⟨n, rfl⟩ : ∃ p, n = p + 1 := ⟨n - 1, by omega⟩
  refine call_plain0 fok117 rfl rfl (by simp) rfl ?_
  simp only [s117, W_seq, W_ops]
  refine ops_box (cs := [.int .i64 lo, .int .i64 hi]) (by exact hr) rfl rfl fun h1 hb => ?_
  by_cases c1 : 0 ≤ lo <;> by_cases c2 : lo ≤ hi <;> by_cases c3 : hi ≤ m <;> simp only [rn0, rn1, rn2, rn3, rn4, rn5, rn6, rn7, rn8, if_true, if_false, Nat.le_refl, true_and, and_true, decide_true, decide_false, Bool.not_true, Bool.not_false, reduceIte, Nat.reduceEqDiff, Nat.reduceAdd, Nat.reduceMul, Nat.reduceSub, Nat.reduceLeDiff, Nat.reduceLT, hb.ld, Nat.zero_add, List.getElem?_cons_zero, List.getElem?_cons_succ, c1, c2, c3, and_self, and_false, false_and]

def s113 : SCode := (.seq (.ops [⟨(some 2), none, .box (T 0)⟩, ⟨(some 4), none, .mov (.const (.bool false))⟩]) (.seq (.ops [⟨(some 5), none, .fieldAddr 0 (T 2)⟩, ⟨(some 6), none, .load1 (T 5)⟩, ⟨(some 7), none, .mov (T 1)⟩, ⟨(some 8), none, .int2 .leq (T 6) (T 7)⟩, ⟨(some 9), none, .mov (T 8)⟩, ⟨(some 10), (some (9, true)), .mov (T 1)⟩, ⟨(some 11), (some (9, true)), .fieldAddr 1 (T 2)⟩, ⟨(some 12), (some (9, true)), .load1 (T 11)⟩, ⟨(some 13), (some (9, true)), .int2 .leq (T 10) (T 12)⟩, ⟨(some 14), none, .pick (T 9) (T 13) (.const (.bool false))⟩, ⟨(some 4), none, .mov (T 14)⟩]) .ret))
theorem fok113 : FnOk Try.prog 113 15 s113 [.tmp 4] := ⟨Try.f113, _, Try.func113, rfl, Try.ntmps113, by kernel_rfl, by kernel_rfl⟩
theorem has_c (hn : 1 ≤ n) (hr : h.next < far) (lo hi m : Int) : call n (.func (.func 113) #[] #[]) [.agg ⟨[.int .i64 lo, .int .i64 hi]⟩, .int .i64 m] h = some (.bool (decide (lo ≤ m ∧ m ≤ hi)), h) := by
  obtain ⟨n, rfl⟩ : ∃ p, n = p + 1 := ⟨n - 1, by omega⟩
  refine call_plain0 fok113 rfl rfl (by simp) rfl ?_
  simp only [s113, W_seq, W_ops]
  refine ops_box (cs := [.int .i64 lo, .int .i64 hi]) (by exact hr) rfl rfl fun h1 hb => ?_
  by_cases c1 : lo ≤ m <;> by_cases c2 : m ≤ hi <;> simp only [rn0, rn1, rn2, rn3, rn4, rn5, rn6, rn7, rn8, if_true, if_false, Nat.le_refl, true_and, and_true, decide_true, decide_false, Bool.not_true, Bool.not_false, reduceIte, Nat.reduceEqDiff, Nat.reduceAdd, Nat.reduceMul, Nat.reduceSub, Nat.reduceLeDiff, Nat.reduceLT, hb.ld, Nat.zero_add, List.getElem?_cons_zero, List.getElem?_cons_succ, c1, c2, and_self, and_false, false_and]

def s82 : SCode := (.seq (.ops [⟨(some 1), none, .box (T 0)⟩, ⟨(some 2), none, .mov (.const (.bool false))⟩]) (.seq (.ops [⟨(some 3), none, .loadN 2 (T 1)⟩, ⟨(some 4), none, .call (.func 117) [(T 3), (.const (.int .i64 (20)))]⟩, ⟨(some 2), none, .mov (T 4)⟩]) .ret))
theorem fok82 : FnOk Try.prog 82 5 s82 [.tmp 2] := ⟨Try.f82, _, Try.func82, rfl, Try.ntmps82, by kernel_rfl, by kernel_rfl⟩
theorem isField_c (hn : 2 ≤ n) (hr : h.next + 1 < far) (lo hi : Int) : call n (.func (.func 82) #[] #[]) [.agg ⟨[.int .i64 lo, .int .i64 hi]⟩] h = some (.bool (decide (0 ≤ lo ∧ lo ≤ hi ∧ hi ≤ 20)), h) := by
  obtain ⟨n, rfl⟩ : ∃ p, n = p + 1 := ⟨n - 1, by omega⟩
  refine call_plain0 fok82 rfl rfl (by simp) rfl ?_
  have hr : h.shutAll.next + 1 < far := hr
  generalize h.shutAll = h at hr
  simp only [s82, W_seq, W_ops]
  refine ops_box (cs := [.int .i64 lo, .int .i64 hi]) (by omega) rfl rfl fun h1 hb => ?_
  have hr1 : h1.next < far := by rw [hb.next]; exact hr
  simp only [rn0, rn1, rn2, rn3, rn4, rn5, rn6, rn7, rn8, if_true, if_false, Nat.le_refl, true_and, and_true, decide_true, decide_false, Bool.not_true, Bool.not_false, reduceIte, Nat.reduceEqDiff, Nat.reduceAdd, Nat.reduceMul, Nat.reduceSub, Nat.reduceLeDiff, Nat.reduceLT, hb.ldN 0 2 (by simp) (by simp), List.drop_zero, List.take_succ_cons, List.take_zero, isUpTo_c (n := n) (by omega) hr1]

def s118 : SCode := (.seq (.ops [⟨(some 2), none, .mov (.const (.bool false))⟩]) (.seq (.ops [⟨(some 3), none, .mov (T 0)⟩, ⟨(some 4), none, .int2 .leq (.const (.int .i64 (0))) (T 3)⟩, ⟨(some 5), none, .mov (T 4)⟩, ⟨(some 6), (some (5, true)), .mov (T 0)⟩, ⟨(some 7), (some (5, true)), .int2 .leq (T 6) (.const (.int .i64 (9)))⟩, ⟨(some 8), none, .pick (T 5) (T 7) (.const (.bool false))⟩, ⟨(some 2), none, .mov (T 8)⟩]) .ret))
theorem fok118 : FnOk Try.prog 118 9 s118 [.tmp 2] := ⟨Try.f118, _, Try.func118, rfl, Try.ntmps118, by kernel_rfl, by kernel_rfl⟩
theorem isBundles_c (hn : 1 ≤ n) (m : Int) : call n (.func (.func 118) #[] #[]) [.int .i64 m] h = some (.bool (decide (0 ≤ m ∧ m ≤ 9)), h) := by
  obtain ⟨n, rfl⟩ : ∃ p, n = p + 1 := ⟨n - 1, by omega⟩
  refine call_plain0 fok118 rfl rfl (by simp) rfl ?_
  by_cases c1 : 0 ≤ m <;> by_cases c2 : m ≤ 9 <;> simp only [rn0, rn1, rn2, rn3, rn4, rn5, rn6, rn7, rn8, if_true, if_false, Nat.le_refl, true_and, and_true, decide_true, decide_false, Bool.not_true, Bool.not_false, reduceIte, Nat.reduceEqDiff, Nat.reduceAdd, Nat.reduceMul, Nat.reduceSub, Nat.reduceLeDiff, Nat.reduceLT, s118, c1, c2, and_self, and_false, false_and]

/-- what is asked of a condition that 'every' is handed -/
def Cond (n : Nat) (h : AHeap) (k : Nat) (ok : Value) (m : Nat) (elem : Nat → Value) (p : Nat → Prop) : Prop :=
  ∀ g, Sub All h g → g.next ≤ h.next + k → ∀ i, i < m → ∃ b, (b = true ↔ p i) ∧ call n ok [elem i] g = some (.bool b, g)
def s103 : SCode := (.seq (.ops [⟨(some 4), none, .mov (.const (.bool false))⟩]) (.seq (.seq (.ops [⟨(some 7), none, .mov (T 0)⟩, ⟨(some 8), none, .len (T 7)⟩, ⟨(some 9), none, .mov (.const (.int .i64 (0)))⟩]) (.block 0 (.loop (.seq (.ops [⟨(some 10), none, .int2 .lss (T 9) (T 8)⟩]) (.seq (.cond (T 10) .skip (.exit 0)) (.seq (.block 1 (.seq (.ops [⟨(some 11), none, .idxSl 1 (T 7) (T 9)⟩, ⟨(some 12), none, .load1 (T 11)⟩, ⟨(some 6), none, .mov (T 12)⟩]) (.seq (.ops [⟨(some 13), none, .mov (T 1)⟩, ⟨(some 14), none, .mov (T 6)⟩, ⟨(some 15), none, .call (T 13) [(T 14)]⟩, ⟨(some 16), none, .not (T 15)⟩]) (.cond (T 16) (.seq (.ops [⟨(some 4), none, .mov (.const (.bool false))⟩]) .ret) .skip)))) (.ops [⟨(some 17), none, .int2 .add (T 9) (.const (.int .i64 (1)))⟩, ⟨(some 9), none, .mov (T 17)⟩]))))))) (.seq (.ops [⟨(some 4), none, .mov (.const (.bool true))⟩]) .ret)))
theorem fok103 : FnOk Try.prog 103 18 s103 [.tmp 4] := ⟨Try.f103, _, Try.func103, rfl, Try.ntmps103, by kernel_rfl, by kernel_rfl⟩
open Classical in
theorem everyInt_c (hn : 10001 ≤ n) {v ok : Value} {m : Nat} {a : Nat → Int} {p : Nat → Prop} (hv : Ints h v m a) (hm : m ≤ 9000) (hok : Cond (n - 1) h.shutAll 0 ok m (fun i => .int .i64 (a i)) p) :
    call n (.func (.func 103) #[] #[]) [v, ok] h = some (.bool (decide (∀ i, i < m → p i)), h) := by
  obtain ⟨n, rfl⟩ : ∃ p, n = p + 1 := ⟨n - 1, by omega⟩
  refine call_plain0 fok103 rfl rfl (by simp) rfl ?_
  have hv := Cells.shut hv
  rw [Nat.add_sub_cancel] at hok
  generalize h.shutAll = h at hv hok
  simp only [rn0, rn1, rn2, rn3, rn4, rn5, rn6, rn7, rn8, if_true, if_false, Nat.le_refl, true_and, and_true, decide_true, decide_false, Bool.not_true, Bool.not_false, reduceIte, Nat.reduceEqDiff, Nat.reduceAdd, Nat.reduceMul, Nat.reduceSub, Nat.reduceLeDiff, Nat.reduceLT, s103, hv.len]
  refine W_loop m (fun k f g m' => g = h ∧ m' = [] ∧ f 1 = ok ∧ f 7 = v ∧ f 8 = .int .i64 (m : Int) ∧ f 9 = .int .i64 (k : Int) ∧ ∀ i, i < k → p i) (by simp; omega) ?_ ?_ ?_
  · simp only [rn0, rn1, rn2, rn3, rn4, rn5, rn6, rn7, rn8, if_true, if_false, Nat.le_refl, true_and, and_true, decide_true, decide_false, Bool.not_true, Bool.not_false, reduceIte, Nat.reduceEqDiff, Nat.reduceAdd, Nat.reduceMul, Nat.reduceSub, Nat.reduceLeDiff, Nat.reduceLT, Nat.not_lt_zero, false_implies, implies_true]
    trivial
  · rintro k f g m' hk ⟨rfl, rfl, f1, f7, f8, f9, hlt⟩
    have hk' : (k : Int) < (m : Int) := by omega
    have hw : wrapF .i64 ((k : Int) + 1) = ((k + 1 : Nat) : Int) := by rw [wrap_in (by omega) (by omega)]; rfl
    obtain ⟨b, hb, e⟩ := hok g Sub.refl (by omega) k hk
    cases b with
    | true =>
      have hp : p k := hb.1 rfl
      simp only [rn0, rn1, rn2, rn3, rn4, rn5, rn6, rn7, rn8, if_true, if_false, Nat.le_refl, true_and, and_true, decide_true, decide_false, Bool.not_true, Bool.not_false, reduceIte, Nat.reduceEqDiff, Nat.reduceAdd, Nat.reduceMul, Nat.reduceSub, Nat.reduceLeDiff, Nat.reduceLT, f1, f7, f8, f9, hk', hv.idx hk, hv.ld hk Nat.zero_lt_one, e, hw]
      intro j hj
      by_cases ej : j = k
      · subst ej; exact hp
      · exact hlt j (by omega)
    | false =>
      have hp : ¬ ∀ i, i < m → p i := fun h => by have := hb.2 (h k hk); cases this
      simp only [rn0, rn1, rn2, rn3, rn4, rn5, rn6, rn7, rn8, if_true, if_false, Nat.le_refl, true_and, and_true, decide_true, decide_false, Bool.not_true, Bool.not_false, reduceIte, Nat.reduceEqDiff, Nat.reduceAdd, Nat.reduceMul, Nat.reduceSub, Nat.reduceLeDiff, Nat.reduceLT, f1, f7, f8, f9, hk', hv.idx hk, hv.ld hk Nat.zero_lt_one, e, hw, hp]
  · rintro f g m' ⟨rfl, rfl, f1, f7, f8, f9, hlt⟩
    simp only [rn0, rn1, rn2, rn3, rn4, rn5, rn6, rn7, rn8, if_true, if_false, Nat.le_refl, true_and, and_true, decide_true, decide_false, Bool.not_true, Bool.not_false, reduceIte, Nat.reduceEqDiff, Nat.reduceAdd, Nat.reduceMul, Nat.reduceSub, Nat.reduceLeDiff, Nat.reduceLT, f1, f7, f8, f9, Int.lt_irrefl, eq_true hlt]
end Go.Vm.Vat

namespace Go.Vm.Vat
open Go.Proofs
set_option linter.unusedSimpArgs false
set_option linter.unusedVariables false
set_option maxRecDepth 10000
variable {n : Nat} {h : AHeap}

def s81 : SCode := (.seq (.ops [⟨(some 4), none, .mov (.const (.bool false))⟩]) (.seq (.seq (.ops [⟨(some 7), none, .mov (T 0)⟩, ⟨(some 8), none, .len (T 7)⟩, ⟨(some 9), none, .mov (.const (.int .i64 (0)))⟩]) (.block 0 (.loop (.seq (.ops [⟨(some 10), none, .int2 .lss (T 9) (T 8)⟩]) (.seq (.cond (T 10) .skip (.exit 0)) (.seq (.block 1 (.seq (.ops [⟨(some 11), none, .idxSl 2 (T 7) (T 9)⟩, ⟨(some 12), none, .loadN 2 (T 11)⟩, ⟨(some 6), none, .alloc [(.int .i64 (0)), (.int .i64 (0))]⟩, ⟨none, none, .store 2 (T 6) (T 12)⟩]) (.seq (.ops [⟨(some 13), none, .mov (T 1)⟩, ⟨(some 14), none, .loadN 2 (T 6)⟩, ⟨(some 15), none, .call (T 13) [(T 14)]⟩, ⟨(some 16), none, .not (T 15)⟩]) (.cond (T 16) (.seq (.ops [⟨(some 4), none, .mov (.const (.bool false))⟩]) .ret) .skip)))) (.ops [⟨(some 17), none, .int2 .add (T 9) (.const (.int .i64 (1)))⟩, ⟨(some 9), none, .mov (T 17)⟩]))))))) (.seq (.ops [⟨(some 4), none, .mov (.const (.bool true))⟩]) .ret)))
theorem fok81 : FnOk Try.prog 81 18 s81 [.tmp 4] := ⟨Try.f81, _, Try.func81, rfl, Try.ntmps81, by kernel_rfl, by kernel_rfl⟩
open Classical in
theorem everyRange_c (hn : 10001 ≤ n) (hr : h.next + 60 < far) {v ok : Value} {m : Nat} {lo hi : Nat → Int} {p : Nat → Prop} (hv : Ranges h v m lo hi) (hm : m ≤ 30) (hok : Cond (n - 1) h.shutAll 40 ok m (fun i => .agg ⟨[.int .i64 (lo i), .int .i64 (hi i)]⟩) p) :
    call n (.func (.func 81) #[] #[]) [v, ok] h = some (.bool (decide (∀ i, i < m → p i)), h) := by
  obtain ⟨n, rfl⟩ : ∃ p, n = p + 1 := ⟨n - 1, by omega⟩
  refine call_plain0 fok81 rfl rfl (by simp) rfl ?_
  have hv := Cells.shut hv
  have hr : h.shutAll.next + 60 < far := hr
  have hfl : h.shutAll.floor ≤ h.shutAll.next := Nat.le_refl _
  rw [Nat.add_sub_cancel] at hok
  generalize h.shutAll = h at hv hok hr hfl
  simp only [rn0, rn1, rn2, rn3, rn4, rn5, rn6, rn7, rn8, if_true, if_false, Nat.le_refl, true_and, and_true, decide_true, decide_false, Bool.not_true, Bool.not_false, reduceIte, Nat.reduceEqDiff, Nat.reduceAdd, Nat.reduceMul, Nat.reduceSub, Nat.reduceLeDiff, Nat.reduceLT, s81, Cells.len hv]
  refine W_loop m (fun k f g m' => (Sub All h g ∧ g.next = h.next + k ∧ g.floor = h.floor) ∧ m' = [] ∧ f 1 = ok ∧ f 7 = v ∧ f 8 = .int .i64 (m : Int) ∧ f 9 = .int .i64 (k : Int) ∧ ∀ i, i < k → p i) (by simp; omega) ?_ ?_ ?_
  · simp only [rn0, rn1, rn2, rn3, rn4, rn5, rn6, rn7, rn8, if_true, if_false, Nat.le_refl, true_and, and_true, decide_true, decide_false, Bool.not_true, Bool.not_false, reduceIte, Nat.reduceEqDiff, Nat.reduceAdd, Nat.reduceMul, Nat.reduceSub, Nat.reduceLeDiff, Nat.reduceLT, Nat.not_lt_zero, false_implies, implies_true, Nat.add_zero]
    trivial
  · rintro k f g m' hk ⟨⟨g1, g2, g3⟩, rfl, f1, f7, f8, f9, hlt⟩
    have hk' : (k : Int) < (m : Int) := by omega
    have hw : wrapF .i64 ((k : Int) + 1) = ((k + 1 : Nat) : Int) := by rw [wrap_in (by omega) (by omega)]; rfl
    have hvg := Cells.mono hv g1
    simp only [rn0, rn1, rn2, rn3, rn4, rn5, rn6, rn7, rn8, if_true, if_false, Nat.le_refl, true_and, and_true, decide_true, decide_false, Bool.not_true, Bool.not_false, reduceIte, Nat.reduceEqDiff, Nat.reduceAdd, Nat.reduceMul, Nat.reduceSub, Nat.reduceLeDiff, Nat.reduceLT, f1, f7, f8, f9, hk', Cells.idx hvg hk, ranges_ld hvg hk]
    refine step_new (vs := [.int .i64 (lo k), .int .i64 (hi k)]) (by omega) (by omega) rfl (by simp only [rn0, rn1, rn2, rn3, rn4, rn5, rn6, rn7, rn8, if_true, if_false, Nat.le_refl, true_and, and_true, decide_true, decide_false, Bool.not_true, Bool.not_false, reduceIte, Nat.reduceEqDiff, Nat.reduceAdd, Nat.reduceMul, Nat.reduceSub, Nat.reduceLeDiff, Nat.reduceLT]; rfl) rfl rfl rfl fun g' hg' => ?_
    have hin : (Sub All h g' ∧ g'.next = h.next + (k + 1) ∧ g'.floor = h.floor) = True := eq_true ⟨g1.trans hg'.sub, by rw [hg'.next, g2]; omega, by rw [hg'.floor, g3]⟩
    obtain ⟨b, hb, e⟩ := hok g' (g1.trans hg'.sub) (by rw [hg'.next, g2]; omega) k hk
    cases b with
    | true =>
      have hp : p k := hb.1 rfl
      simp only [rn0, rn1, rn2, rn3, rn4, rn5, rn6, rn7, rn8, if_true, if_false, Nat.le_refl, true_and, and_true, decide_true, decide_false, Bool.not_true, Bool.not_false, reduceIte, Nat.reduceEqDiff, Nat.reduceAdd, Nat.reduceMul, Nat.reduceSub, Nat.reduceLeDiff, Nat.reduceLT, f1, f7, f8, f9, hg'.ldN 0 2 (by simp) (by simp), List.drop_zero, List.take_succ_cons, List.take_zero, e, hw, hin]
      intro j hj
      by_cases ej : j = k
      · subst ej; exact hp
      · exact hlt j (by omega)
    | false =>
      have hp : ¬ ∀ i, i < m → p i := fun h => by have := hb.2 (h k hk); cases this
      simp only [rn0, rn1, rn2, rn3, rn4, rn5, rn6, rn7, rn8, if_true, if_false, Nat.le_refl, true_and, and_true, decide_true, decide_false, Bool.not_true, Bool.not_false, reduceIte, Nat.reduceEqDiff, Nat.reduceAdd, Nat.reduceMul, Nat.reduceSub, Nat.reduceLeDiff, Nat.reduceLT, f1, f7, f8, f9, hg'.ldN 0 2 (by simp) (by simp), List.drop_zero, List.take_succ_cons, List.take_zero, e, hw, hp]
  · rintro f g m' ⟨⟨g1, g2, g3⟩, rfl, f1, f7, f8, f9, hlt⟩
    simp only [rn0, rn1, rn2, rn3, rn4, rn5, rn6, rn7, rn8, if_true, if_false, Nat.le_refl, true_and, and_true, decide_true, decide_false, Bool.not_true, Bool.not_false, reduceIte, Nat.reduceEqDiff, Nat.reduceAdd, Nat.reduceMul, Nat.reduceSub, Nat.reduceLeDiff, Nat.reduceLT, f1, f7, f8, f9, Int.lt_irrefl, eq_true hlt]

def s85 : SCode := (.seq (.ops [⟨(some 4), none, .mov (.const (.bool false))⟩]) (.seq (.seq (.ops [⟨(some 7), none, .mov (T 0)⟩, ⟨(some 8), none, .len (T 7)⟩, ⟨(some 9), none, .mov (.const (.int .i64 (0)))⟩]) (.block 0 (.loop (.seq (.ops [⟨(some 10), none, .int2 .lss (T 9) (T 8)⟩]) (.seq (.cond (T 10) .skip (.exit 0)) (.seq (.block 1 (.seq (.ops [⟨(some 11), none, .idxSl 3 (T 7) (T 9)⟩, ⟨(some 12), none, .loadN 3 (T 11)⟩, ⟨(some 6), none, .alloc [(.int .i64 (0)), (.int .i64 (0)), (.int .i64 (0))]⟩, ⟨none, none, .store 3 (T 6) (T 12)⟩]) (.seq (.ops [⟨(some 13), none, .mov (T 1)⟩, ⟨(some 14), none, .loadN 3 (T 6)⟩, ⟨(some 15), none, .call (T 13) [(T 14)]⟩, ⟨(some 16), none, .not (T 15)⟩]) (.cond (T 16) (.seq (.ops [⟨(some 4), none, .mov (.const (.bool false))⟩]) .ret) .skip)))) (.ops [⟨(some 17), none, .int2 .add (T 9) (.const (.int .i64 (1)))⟩, ⟨(some 9), none, .mov (T 17)⟩]))))))) (.seq (.ops [⟨(some 4), none, .mov (.const (.bool true))⟩]) .ret)))
theorem fok85 : FnOk Try.prog 85 18 s85 [.tmp 4] := ⟨Try.f85, _, Try.func85, rfl, Try.ntmps85, by kernel_rfl, by kernel_rfl⟩
open Classical in
theorem everySamp_c (hn : 10001 ≤ n) (hr : h.next + 60 < far) {v ok : Value} {m : Nat} {at_ lo hi : Nat → Int} {p : Nat → Prop} (hv : Samps h v m at_ lo hi) (hm : m ≤ 30) (hok : Cond (n - 1) h.shutAll 40 ok m (fun i => .agg ⟨[.int .i64 (at_ i), .int .i64 (lo i), .int .i64 (hi i)]⟩) p) :
    call n (.func (.func 85) #[] #[]) [v, ok] h = some (.bool (decide (∀ i, i < m → p i)), h) := by
  obtain ⟨n, rfl⟩ : ∃ p, n = p + 1 := ⟨n - 1, by omega⟩
  refine call_plain0 fok85 rfl rfl (by simp) rfl ?_
  have hv := Cells.shut hv
  have hr : h.shutAll.next + 60 < far := hr
  have hfl : h.shutAll.floor ≤ h.shutAll.next := Nat.le_refl _
  rw [Nat.add_sub_cancel] at hok
  generalize h.shutAll = h at hv hok hr hfl
  simp only [rn0, rn1, rn2, rn3, rn4, rn5, rn6, rn7, rn8, if_true, if_false, Nat.le_refl, true_and, and_true, decide_true, decide_false, Bool.not_true, Bool.not_false, reduceIte, Nat.reduceEqDiff, Nat.reduceAdd, Nat.reduceMul, Nat.reduceSub, Nat.reduceLeDiff, Nat.reduceLT, s85, Cells.len hv]
  refine W_loop m (fun k f g m' => (Sub All h g ∧ g.next = h.next + k ∧ g.floor = h.floor) ∧ m' = [] ∧ f 1 = ok ∧ f 7 = v ∧ f 8 = .int .i64 (m : Int) ∧ f 9 = .int .i64 (k : Int) ∧ ∀ i, i < k → p i) (by simp; omega) ?_ ?_ ?_
  · simp only [rn0, rn1, rn2, rn3, rn4, rn5, rn6, rn7, rn8, if_true, if_false, Nat.le_refl, true_and, and_true, decide_true, decide_false, Bool.not_true, Bool.not_false, reduceIte, Nat.reduceEqDiff, Nat.reduceAdd, Nat.reduceMul, Nat.reduceSub, Nat.reduceLeDiff, Nat.reduceLT, Nat.not_lt_zero, false_implies, implies_true, Nat.add_zero]
    trivial
  · rintro k f g m' hk ⟨⟨g1, g2, g3⟩, rfl, f1, f7, f8, f9, hlt⟩
    have hk' : (k : Int) < (m : Int) := by omega
    have hw : wrapF .i64 ((k : Int) + 1) = ((k + 1 : Nat) : Int) := by rw [wrap_in (by omega) (by omega)]; rfl
    have hvg := Cells.mono hv g1
    simp only [rn0, rn1, rn2, rn3, rn4, rn5, rn6, rn7, rn8, if_true, if_false, Nat.le_refl, true_and, and_true, decide_true, decide_false, Bool.not_true, Bool.not_false, reduceIte, Nat.reduceEqDiff, Nat.reduceAdd, Nat.reduceMul, Nat.reduceSub, Nat.reduceLeDiff, Nat.reduceLT, f1, f7, f8, f9, hk', Cells.idx hvg hk, samps_ld hvg hk]
    refine step_new (vs := [.int .i64 (at_ k), .int .i64 (lo k), .int .i64 (hi k)]) (by omega) (by omega) rfl (by simp only [rn0, rn1, rn2, rn3, rn4, rn5, rn6, rn7, rn8, if_true, if_false, Nat.le_refl, true_and, and_true, decide_true, decide_false, Bool.not_true, Bool.not_false, reduceIte, Nat.reduceEqDiff, Nat.reduceAdd, Nat.reduceMul, Nat.reduceSub, Nat.reduceLeDiff, Nat.reduceLT]; rfl) rfl rfl rfl fun g' hg' => ?_
    have hin : (Sub All h g' ∧ g'.next = h.next + (k + 1) ∧ g'.floor = h.floor) = True := eq_true ⟨g1.trans hg'.sub, by rw [hg'.next, g2]; omega, by rw [hg'.floor, g3]⟩
    obtain ⟨b, hb, e⟩ := hok g' (g1.trans hg'.sub) (by rw [hg'.next, g2]; omega) k hk
    cases b with
    | true =>
      have hp : p k := hb.1 rfl
      simp only [rn0, rn1, rn2, rn3, rn4, rn5, rn6, rn7, rn8, if_true, if_false, Nat.le_refl, true_and, and_true, decide_true, decide_false, Bool.not_true, Bool.not_false, reduceIte, Nat.reduceEqDiff, Nat.reduceAdd, Nat.reduceMul, Nat.reduceSub, Nat.reduceLeDiff, Nat.reduceLT, f1, f7, f8, f9, hg'.ldN 0 3 (by simp) (by simp), List.drop_zero, List.take_succ_cons, List.take_zero, e, hw, hin]
      intro j hj
      by_cases ej : j = k
      · subst ej; exact hp
      · exact hlt j (by omega)
    | false =>
      have hp : ¬ ∀ i, i < m → p i := fun h => by have := hb.2 (h k hk); cases this
      simp only [rn0, rn1, rn2, rn3, rn4, rn5, rn6, rn7, rn8, if_true, if_false, Nat.le_refl, true_and, and_true, decide_true, decide_false, Bool.not_true, Bool.not_false, reduceIte, Nat.reduceEqDiff, Nat.reduceAdd, Nat.reduceMul, Nat.reduceSub, Nat.reduceLeDiff, Nat.reduceLT, f1, f7, f8, f9, hg'.ldN 0 3 (by simp) (by simp), List.drop_zero, List.take_succ_cons, List.take_zero, e, hw, hp]
  · rintro f g m' ⟨⟨g1, g2, g3⟩, rfl, f1, f7, f8, f9, hlt⟩
    simp only [rn0, rn1, rn2, rn3, rn4, rn5, rn6, rn7, rn8, if_true, if_false, Nat.le_refl, true_and, and_true, decide_true, decide_false, Bool.not_true, Bool.not_false, reduceIte, Nat.reduceEqDiff, Nat.reduceAdd, Nat.reduceMul, Nat.reduceSub, Nat.reduceLeDiff, Nat.reduceLT, f1, f7, f8, f9, Int.lt_irrefl, eq_true hlt]

def s83 : SCode := (.seq (.ops [⟨(some 4), none, .mov (.const (.bool false))⟩]) (.seq (.seq (.ops [⟨(some 7), none, .mov (T 0)⟩, ⟨(some 8), none, .len (T 7)⟩, ⟨(some 9), none, .mov (.const (.int .i64 (0)))⟩]) (.block 0 (.loop (.seq (.ops [⟨(some 10), none, .int2 .lss (T 9) (T 8)⟩]) (.seq (.cond (T 10) .skip (.exit 0)) (.seq (.block 1 (.seq (.ops [⟨(some 11), none, .idxSl 1 (T 7) (T 9)⟩, ⟨(some 12), none, .load1 (T 11)⟩, ⟨(some 6), none, .mov (T 12)⟩]) (.seq (.ops [⟨(some 13), none, .mov (T 1)⟩, ⟨(some 14), none, .mov (T 6)⟩, ⟨(some 15), none, .call (T 13) [(T 14)]⟩, ⟨(some 16), none, .not (T 15)⟩]) (.cond (T 16) (.seq (.ops [⟨(some 4), none, .mov (.const (.bool false))⟩]) .ret) .skip)))) (.ops [⟨(some 17), none, .int2 .add (T 9) (.const (.int .i64 (1)))⟩, ⟨(some 9), none, .mov (T 17)⟩]))))))) (.seq (.ops [⟨(some 4), none, .mov (.const (.bool true))⟩]) .ret)))
theorem fok83 : FnOk Try.prog 83 18 s83 [.tmp 4] := ⟨Try.f83, _, Try.func83, rfl, Try.ntmps83, by kernel_rfl, by kernel_rfl⟩
open Classical in
theorem everyRows_c (hn : 10001 ≤ n) {v ok : Value} {m : Nat} {r : Nat → Value} {p : Nat → Prop} (hv : Cells h v 1 m fun k _ => r k) (hm : m ≤ 9000) (hok : Cond (n - 1) h.shutAll 0 ok m r p) :
    call n (.func (.func 83) #[] #[]) [v, ok] h = some (.bool (decide (∀ i, i < m → p i)), h) := by
  obtain ⟨n, rfl⟩ : ∃ p, n = p + 1 := ⟨n - 1, by omega⟩
  refine call_plain0 fok83 rfl rfl (by simp) rfl ?_
  have hv := Cells.shut hv
  rw [Nat.add_sub_cancel] at hok
  generalize h.shutAll = h at hv hok
  simp only [rn0, rn1, rn2, rn3, rn4, rn5, rn6, rn7, rn8, if_true, if_false, Nat.le_refl, true_and, and_true, decide_true, decide_false, Bool.not_true, Bool.not_false, reduceIte, Nat.reduceEqDiff, Nat.reduceAdd, Nat.reduceMul, Nat.reduceSub, Nat.reduceLeDiff, Nat.reduceLT, s83, hv.len]
  refine W_loop m (fun k f g m' => g = h ∧ m' = [] ∧ f 1 = ok ∧ f 7 = v ∧ f 8 = .int .i64 (m : Int) ∧ f 9 = .int .i64 (k : Int) ∧ ∀ i, i < k → p i) (by simp; omega) ?_ ?_ ?_
  · simp only [rn0, rn1, rn2, rn3, rn4, rn5, rn6, rn7, rn8, if_true, if_false, Nat.le_refl, true_and, and_true, decide_true, decide_false, Bool.not_true, Bool.not_false, reduceIte, Nat.reduceEqDiff, Nat.reduceAdd, Nat.reduceMul, Nat.reduceSub, Nat.reduceLeDiff, Nat.reduceLT, Nat.not_lt_zero, false_implies, implies_true]
    trivial
  · rintro k f g m' hk ⟨rfl, rfl, f1, f7, f8, f9, hlt⟩
    have hk' : (k : Int) < (m : Int) := by omega
    have hw : wrapF .i64 ((k : Int) + 1) = ((k + 1 : Nat) : Int) := by rw [wrap_in (by omega) (by omega)]; rfl
    obtain ⟨b, hb, e⟩ := hok g Sub.refl (by omega) k hk
    cases b with
    | true =>
      have hp : p k := hb.1 rfl
      simp only [rn0, rn1, rn2, rn3, rn4, rn5, rn6, rn7, rn8, if_true, if_false, Nat.le_refl, true_and, and_true, decide_true, decide_false, Bool.not_true, Bool.not_false, reduceIte, Nat.reduceEqDiff, Nat.reduceAdd, Nat.reduceMul, Nat.reduceSub, Nat.reduceLeDiff, Nat.reduceLT, f1, f7, f8, f9, hk', hv.idx hk, hv.ld hk Nat.zero_lt_one, e, hw]
      intro j hj
      by_cases ej : j = k
      · subst ej; exact hp
      · exact hlt j (by omega)
    | false =>
      have hp : ¬ ∀ i, i < m → p i := fun h => by have := hb.2 (h k hk); cases this
      simp only [rn0, rn1, rn2, rn3, rn4, rn5, rn6, rn7, rn8, if_true, if_false, Nat.le_refl, true_and, and_true, decide_true, decide_false, Bool.not_true, Bool.not_false, reduceIte, Nat.reduceEqDiff, Nat.reduceAdd, Nat.reduceMul, Nat.reduceSub, Nat.reduceLeDiff, Nat.reduceLT, f1, f7, f8, f9, hk', hv.idx hk, hv.ld hk Nat.zero_lt_one, e, hw, hp]
  · rintro f g m' ⟨rfl, rfl, f1, f7, f8, f9, hlt⟩
    simp only [rn0, rn1, rn2, rn3, rn4, rn5, rn6, rn7, rn8, if_true, if_false, Nat.le_refl, true_and, and_true, decide_true, decide_false, Bool.not_true, Bool.not_false, reduceIte, Nat.reduceEqDiff, Nat.reduceAdd, Nat.reduceMul, Nat.reduceSub, Nat.reduceLeDiff, Nat.reduceLT, f1, f7, f8, f9, Int.lt_irrefl, eq_true hlt]

def s92 : SCode := (.seq (.ops [⟨(some 2), none, .box (T 0)⟩, ⟨(some 4), none, .mov (.const (.bool false))⟩]) (.seq (.ops [⟨(some 5), none, .mov (T 1)⟩, ⟨(some 6), none, .int2 .leq (.const (.int .i64 (0))) (T 5)⟩, ⟨(some 7), none, .mov (T 6)⟩, ⟨(some 8), (some (7, true)), .mov (T 1)⟩, ⟨(some 9), (some (7, true)), .fieldAddr 0 (T 2)⟩, ⟨(some 10), (some (7, true)), .fieldAddr 1 (T 9)⟩, ⟨(some 11), (some (7, true)), .load1 (T 10)⟩, ⟨(some 12), (some (7, true)), .len (T 11)⟩, ⟨(some 13), (some (7, true)), .int2 .lss (T 8) (T 12)⟩, ⟨(some 14), none, .pick (T 7) (T 13) (.const (.bool false))⟩, ⟨(some 4), none, .mov (T 14)⟩]) .ret))
theorem fok92 : FnOk Try.prog 92 15 s92 [.tmp 4] := ⟨Try.f92, _, Try.func92, rfl, Try.ntmps92, by kernel_rfl, by kernel_rfl⟩
theorem hasVat_c (hn : 1 ≤ n) (hr : h.next < far) {F V S T : Value} {m : Nat} {c : Nat → Nat → Value} (hv : Cells h V 1 m c) (h1 : allB oneCell [F, V, S, T] = true) (at_ : Int) :
    call n (.func (.func 92) #[] #[]) [.agg ⟨[F, V, S, T]⟩, .int .i64 at_] h = some (.bool (decide (0 ≤ at_ ∧ at_ ≤ (m : Int) - 1)), h) := by
  obtain ⟨n, rfl⟩ : ∃ p, n = p + 1 := ⟨n - 1, by omega⟩
  refine call_plain0 fok92 rfl rfl (by simp) rfl ?_
  have hv := Cells.shut hv
  have hr : h.shutAll.next < far := hr
  generalize h.shutAll = h at hv hr
  simp only [s92, W_seq, W_ops]
  refine ops_box (cs := [F, V, S, T]) hr rfl h1 fun h1 hx => ?_
  have hv := Cells.mono hv hx.sub
  have e : (at_ < (m : Int)) = (at_ ≤ (m : Int) - 1) := by simp only [eq_iff_iff]; omega
  by_cases c1 : 0 ≤ at_ <;> by_cases c2 : at_ ≤ (m : Int) - 1 <;> simp only [rn0, rn1, rn2, rn3, rn4, rn5, rn6, rn7, rn8, if_true, if_false, Nat.le_refl, true_and, and_true, decide_true, decide_false, Bool.not_true, Bool.not_false, reduceIte, Nat.reduceEqDiff, Nat.reduceAdd, Nat.reduceMul, Nat.reduceSub, Nat.reduceLeDiff, Nat.reduceLT, hx.ld, Nat.zero_add, List.getElem?_cons_zero, List.getElem?_cons_succ, Cells.len hv, e, c1, c2, and_self, and_false, false_and]

def s84 : SCode := (.seq (.ops [⟨(some 2), none, .box (T 0)⟩, ⟨(some 4), none, .mov (.const (.bool false))⟩]) (.seq (.ops [⟨(some 5), none, .mov (T 1)⟩, ⟨(some 6), none, .len (T 5)⟩, ⟨(some 7), none, .fieldAddr 0 (T 2)⟩, ⟨(some 8), none, .fieldAddr 0 (T 7)⟩, ⟨(some 9), none, .load1 (T 8)⟩, ⟨(some 10), none, .len (T 9)⟩, ⟨(some 11), none, .int2 .eql (T 6) (T 10)⟩, ⟨(some 12), none, .mov (T 11)⟩, ⟨(some 13), (some (12, true)), .mov (T 1)⟩, ⟨(some 14), (some (12, true)), .call (.func 103) [(T 13), (.func 118)]⟩, ⟨(some 15), none, .pick (T 12) (T 14) (.const (.bool false))⟩, ⟨(some 4), none, .mov (T 15)⟩]) .ret))
theorem fok84 : FnOk Try.prog 84 16 s84 [.tmp 4] := ⟨Try.f84, _, Try.func84, rfl, Try.ntmps84, by kernel_rfl, by kernel_rfl⟩
theorem isVat_c (hn : 10002 ≤ n) (hr : h.next + 1 < far) {F V S T v : Value} {nf m : Nat} {c : Nat → Nat → Value} {a : Nat → Int} (hF : Cells h F 2 nf c) (h1 : allB oneCell [F, V, S, T] = true) (hv : Ints h v m a) (hm : m ≤ 9000) :
    ∃ b, (b = true ↔ m = nf ∧ ∀ i, i < m → 0 ≤ a i ∧ a i ≤ 9) ∧ call n (.func (.func 84) ⟨[.agg ⟨[F, V, S, T]⟩]⟩ #[]) [v] h = some (.bool b, h) := by
  classical
  refine ⟨decide (m = nf ∧ ∀ i, i < m → 0 ≤ a i ∧ a i ≤ 9), by simp, ?_⟩
  obtain ⟨n, rfl⟩ : ∃ p, n = p + 1 := ⟨n - 1, by omega⟩
  refine call_plain (xs := [.agg ⟨[F, V, S, T]⟩]) (ys := []) fok84 rfl rfl (by simp) rfl ?_
  have hv := Cells.shut hv
  have hF := Cells.shut hF
  have hr : h.shutAll.next + 1 < far := hr
  generalize h.shutAll = h at hv hr hF
  simp only [s84, List.cons_append, List.nil_append, List.append_nil, W_seq, W_ops]
  refine ops_box (cs := [F, V, S, T]) (by omega) rfl h1 fun h1 hx => ?_
  have hv := Cells.mono hv hx.sub
  have hF := Cells.mono hF hx.sub
  by_cases c1 : m = nf
  · have c1' : (m : Int) = nf := by omega
    have he := everyInt_c (n := n) (h := h1) (ok := .func (.func 118) #[] #[]) (p := fun i => 0 ≤ a i ∧ a i ≤ 9) (by omega) hv hm fun g _ _ i hi => ⟨decide (0 ≤ a i ∧ a i ≤ 9), by simp, isBundles_c (by omega) (a i)⟩
    simp only [rn0, rn1, rn2, rn3, rn4, rn5, rn6, rn7, rn8, if_true, if_false, Nat.le_refl, true_and, and_true, decide_true, decide_false, Bool.not_true, Bool.not_false, reduceIte, Nat.reduceEqDiff, Nat.reduceAdd, Nat.reduceMul, Nat.reduceSub, Nat.reduceLeDiff, Nat.reduceLT, hx.ld, Nat.zero_add, List.getElem?_cons_zero, List.getElem?_cons_succ, Cells.len hv, Cells.len hF, c1', he, c1]
  · have c1' : ¬ (m : Int) = nf := by omega
    simp only [rn0, rn1, rn2, rn3, rn4, rn5, rn6, rn7, rn8, if_true, if_false, Nat.le_refl, true_and, and_true, decide_true, decide_false, Bool.not_true, Bool.not_false, reduceIte, Nat.reduceEqDiff, Nat.reduceAdd, Nat.reduceMul, Nat.reduceSub, Nat.reduceLeDiff, Nat.reduceLT, hx.ld, Nat.zero_add, List.getElem?_cons_zero, List.getElem?_cons_succ, Cells.len hv, Cells.len hF, c1', c1, false_and]

def s86 : SCode := (.seq (.ops [⟨(some 2), none, .box (T 0)⟩, ⟨(some 3), none, .box (T 1)⟩, ⟨(some 4), none, .mov (.const (.bool false))⟩]) (.seq (.ops [⟨(some 5), none, .loadN 4 (T 2)⟩, ⟨(some 6), none, .fieldAddr 0 (T 3)⟩, ⟨(some 7), none, .load1 (T 6)⟩, ⟨(some 8), none, .call (.func 92) [(T 5), (T 7)]⟩, ⟨(some 9), none, .mov (T 8)⟩, ⟨(some 10), (some (9, true)), .fieldAddr 1 (T 3)⟩, ⟨(some 11), (some (9, true)), .loadN 2 (T 10)⟩, ⟨(some 12), (some (9, true)), .call (.func 117) [(T 11), (.const (.int .i64 (999)))]⟩, ⟨(some 13), none, .pick (T 9) (T 12) (.const (.bool false))⟩, ⟨(some 4), none, .mov (T 13)⟩]) .ret))
theorem fok86 : FnOk Try.prog 86 14 s86 [.tmp 4] := ⟨Try.f86, _, Try.func86, rfl, Try.ntmps86, by kernel_rfl, by kernel_rfl⟩
theorem isSample_c (hn : 2 ≤ n) (hr : h.next + 3 < far) {F V S T : Value} {m : Nat} {c : Nat → Nat → Value} (hv : Cells h V 1 m c) (h1 : allB oneCell [F, V, S, T] = true) (at_ lo hi : Int) :
    ∃ b, (b = true ↔ (0 ≤ at_ ∧ at_ ≤ (m : Int) - 1) ∧ 0 ≤ lo ∧ lo ≤ hi ∧ hi ≤ 999) ∧ call n (.func (.func 86) ⟨[.agg ⟨[F, V, S, T]⟩]⟩ #[]) [.agg ⟨[.int .i64 at_, .int .i64 lo, .int .i64 hi]⟩] h = some (.bool b, h) := by
  classical
  refine ⟨decide ((0 ≤ at_ ∧ at_ ≤ (m : Int) - 1) ∧ 0 ≤ lo ∧ lo ≤ hi ∧ hi ≤ 999), by simp, ?_⟩
  obtain ⟨n, rfl⟩ : ∃ p, n = p + 1 := ⟨n - 1, by omega⟩
  refine call_plain (xs := [.agg ⟨[F, V, S, T]⟩]) (ys := []) fok86 rfl rfl (by simp) rfl ?_
  have hv := Cells.shut hv
  have hr : h.shutAll.next + 3 < far := hr
  generalize h.shutAll = h at hv hr
  simp only [s86, List.cons_append, List.nil_append, List.append_nil, W_seq, W_ops]
  refine ops_box (cs := [F, V, S, T]) (by omega) rfl h1 fun g1 hx => ?_
  refine ops_box (cs := [.int .i64 at_, .int .i64 lo, .int .i64 hi]) (by rw [hx.next]; omega) rfl rfl fun g2 hx2 => ?_
  have hr2 : g2.next < far := by rw [hx2.next, hx.next]; omega
  have hv := Cells.mono (Cells.mono hv hx.sub) hx2.sub
  have hrow := hx.row.mono hx2.sub
  by_cases c1 : 0 ≤ at_ ∧ at_ ≤ (m : Int) - 1 <;> simp only [rn0, rn1, rn2, rn3, rn4, rn5, rn6, rn7, rn8, if_true, if_false, Nat.le_refl, true_and, and_true, decide_true, decide_false, Bool.not_true, Bool.not_false, reduceIte, Nat.reduceEqDiff, Nat.reduceAdd, Nat.reduceMul, Nat.reduceSub, Nat.reduceLeDiff, Nat.reduceLT, hrow.ldN 0 4 (by simp) (by simp), hx2.ld, hx2.ldN 1 2 (by simp) (by simp), List.drop_succ_cons, List.drop_zero, List.take_succ_cons, List.take_zero, Nat.zero_add, List.getElem?_cons_zero, List.getElem?_cons_succ, hasVat_c (n := n) (by omega) hr2 hv h1, isUpTo_c (n := n) (by omega) hr2, c1, false_and]

/-- how many blues there are -/
def sizeN (lo hi : Nat → Int) : Nat → Int
  | 0 => 1
  | i + 1 => sizeN lo hi i * (hi i - lo i + 1)
theorem sizeN_bound {lo hi : Nat → Int} {m : Nat} (hm : m ≤ 5) (hv : ∀ k, k < m → 0 ≤ lo k ∧ lo k ≤ hi k ∧ hi k ≤ 20) : ∀ i, i ≤ m → 1 ≤ sizeN lo hi i ∧ sizeN lo hi i ≤ 21 ^ i := by
  intro i
  induction i with
  | zero => intro _; simp [sizeN]
  | succ i ih =>
    intro hi'
    obtain ⟨h1, h2⟩ := ih (by omega)
    obtain ⟨h3, h4, h5⟩ := hv i (by omega)
    have h6 : 1 * 1 ≤ sizeN lo hi i * (hi i - lo i + 1) := Int.mul_le_mul h1 (by omega) (by omega) (by omega)
    have h7 : sizeN lo hi i * (hi i - lo i + 1) ≤ 21 ^ i * 21 := Int.mul_le_mul h2 (by omega) (by omega) (by omega)
    simp only [sizeN]
    exact ⟨by omega, by rw [Int.pow_succ]; exact h7⟩
theorem sizeN_many {lo hi : Nat → Int} {m : Nat} (hm : m ≤ 5) (hv : ∀ k, k < m → 0 ≤ lo k ∧ lo k ≤ hi k ∧ hi k ≤ 20) : ∀ i, i ≤ m → manyN lo hi i = min 3000 (sizeN lo hi i) := by
  intro i
  induction i with
  | zero => intro _; rfl
  | succ i ih =>
    intro hi'
    have := ih (by omega)
    obtain ⟨h1, _⟩ := sizeN_bound hm hv i (by omega)
    obtain ⟨h3, h4, h5⟩ := hv i (by omega)
    simp only [sizeN, manyN, this]
    by_cases hb : sizeN lo hi i ≤ 3000
    · rw [Int.min_eq_right hb]
    · rw [Int.min_eq_left (show (3000 : Int) ≤ sizeN lo hi i by omega)]
      have h6 : 3000 * 1 ≤ 3000 * (hi i - lo i + 1) := Int.mul_le_mul (by omega) (by omega) (by omega) (by omega)
      have h7 : 3000 * 1 ≤ sizeN lo hi i * (hi i - lo i + 1) := Int.mul_le_mul (by omega) (by omega) (by omega) (by omega)
      omega
end Go.Vm.Vat

namespace Go.Vm.Vat
open Go.Proofs
set_option linter.unusedSimpArgs false
set_option linter.unusedVariables false
set_option maxRecDepth 10000
variable {n : Nat} {h : AHeap}

def s87 : SCode := (.seq (.ops [⟨(some 1), none, .box (T 0)⟩, ⟨(some 2), none, .mov (.const (.int .i64 (0)))⟩]) (.seq (.ops [⟨(some 3), none, .mov (.const (.int .i64 (1)))⟩]) (.seq (.seq (.ops [⟨(some 6), none, .fieldAddr 0 (T 1)⟩, ⟨(some 7), none, .fieldAddr 0 (T 6)⟩, ⟨(some 8), none, .load1 (T 7)⟩, ⟨(some 9), none, .len (T 8)⟩, ⟨(some 10), none, .mov (.const (.int .i64 (0)))⟩]) (.block 0 (.loop (.seq (.ops [⟨(some 11), none, .int2 .lss (T 10) (T 9)⟩]) (.seq (.cond (T 11) .skip (.exit 0)) (.seq (.block 1 (.seq (.ops [⟨(some 12), none, .idxSl 2 (T 8) (T 10)⟩, ⟨(some 13), none, .loadN 2 (T 12)⟩, ⟨(some 5), none, .alloc [(.int .i64 (0)), (.int .i64 (0))]⟩, ⟨none, none, .store 2 (T 5) (T 13)⟩]) (.ops [⟨(some 14), none, .mov (T 3)⟩, ⟨(some 15), none, .fieldAddr 1 (T 5)⟩, ⟨(some 16), none, .load1 (T 15)⟩, ⟨(some 17), none, .fieldAddr 0 (T 5)⟩, ⟨(some 18), none, .load1 (T 17)⟩, ⟨(some 19), none, .int2 .sub (T 16) (T 18)⟩, ⟨(some 20), none, .int2 .add (T 19) (.const (.int .i64 (1)))⟩, ⟨(some 21), none, .int2 .mul (T 14) (T 20)⟩, ⟨(some 3), none, .mov (T 21)⟩]))) (.ops [⟨(some 22), none, .int2 .add (T 10) (.const (.int .i64 (1)))⟩, ⟨(some 10), none, .mov (T 22)⟩]))))))) (.seq (.ops [⟨(some 23), none, .mov (T 3)⟩, ⟨(some 2), none, .mov (T 23)⟩]) .ret))))
theorem fok87 : FnOk Try.prog 87 24 s87 [.tmp 2] := ⟨Try.f87, _, Try.func87, rfl, Try.ntmps87, by kernel_rfl, by kernel_rfl⟩
theorem size4_c (hn : 10001 ≤ n) (hr : h.next + 10 < far) {F V S T : Value} {m : Nat} {lo hi : Nat → Int} (hF : Ranges h F m lo hi) (h1 : allB oneCell [F, V, S, T] = true) (hm : m ≤ 5) (hv : ∀ k, k < m → 0 ≤ lo k ∧ lo k ≤ hi k ∧ hi k ≤ 20) :
    call n (.func (.func 87) #[] #[]) [.agg ⟨[F, V, S, T]⟩] h = some (.int .i64 (sizeN lo hi m), h) := by
  obtain ⟨n, rfl⟩ : ∃ p, n = p + 1 := ⟨n - 1, by omega⟩
  refine call_plain0 fok87 rfl rfl (by simp) rfl ?_
  have hF := Cells.shut hF
  have hr : h.shutAll.next + 10 < far := hr
  have hfl : h.shutAll.floor ≤ h.shutAll.next := Nat.le_refl _
  generalize h.shutAll = h at hF hr hfl
  simp only [s87, W_seq, W_ops]
  refine ops_box (cs := [F, V, S, T]) (by omega) rfl h1 fun h1 hx => ?_
  have hF := Cells.mono hF hx.sub
  have hn1 := hx.next
  have hf1 := hx.floor
  simp only [rn0, rn1, rn2, rn3, rn4, rn5, rn6, rn7, rn8, if_true, if_false, Nat.le_refl, true_and, and_true, decide_true, decide_false, Bool.not_true, Bool.not_false, reduceIte, Nat.reduceEqDiff, Nat.reduceAdd, Nat.reduceMul, Nat.reduceSub, Nat.reduceLeDiff, Nat.reduceLT, hx.ld, Nat.zero_add, List.getElem?_cons_zero, List.getElem?_cons_succ, Cells.len hF]
  refine W_loop m (fun k f g m' => (Sub All h1 g ∧ g.next = h1.next + k ∧ g.floor = h1.floor) ∧ m' = [] ∧ f 3 = .int .i64 (sizeN lo hi k) ∧ f 8 = F ∧ f 9 = .int .i64 (m : Int) ∧ f 10 = .int .i64 (k : Int)) (by simp; omega) ?_ ?_ ?_
  · simp only [rn0, rn1, rn2, rn3, rn4, rn5, rn6, rn7, rn8, if_true, if_false, Nat.le_refl, true_and, and_true, decide_true, decide_false, Bool.not_true, Bool.not_false, reduceIte, Nat.reduceEqDiff, Nat.reduceAdd, Nat.reduceMul, Nat.reduceSub, Nat.reduceLeDiff, Nat.reduceLT, Nat.add_zero]
    simp [sizeN]
  · rintro k f g m' hk ⟨⟨g1, g2, g3⟩, rfl, f3, f8, f9, f10⟩
    have hk' : (k : Int) < (m : Int) := by omega
    have hFg := Cells.mono hF g1
    obtain ⟨q3, q4, q5⟩ := hv k hk
    obtain ⟨q6, q7⟩ := sizeN_bound hm hv k (by omega)
    have q8 : (21 : Int) ^ k ≤ 21 ^ 4 := by
      have := Nat.pow_le_pow_right (show 0 < 21 by omega) (show k ≤ 4 by omega)
      exact_mod_cast this
    have q9 : 1 * 1 ≤ sizeN lo hi k * (hi k - lo k + 1) := Int.mul_le_mul q6 (by omega) (by omega) (by omega)
    have q10 : sizeN lo hi k * (hi k - lo k + 1) ≤ 21 ^ 4 * 21 := Int.mul_le_mul (by omega) (by omega) (by omega) (by omega)
    have hw : wrapF .i64 ((k : Int) + 1) = ((k + 1 : Nat) : Int) := by rw [wrap_in (by omega) (by omega)]; rfl
    have hw1 : wrapF .i64 (hi k - lo k) = hi k - lo k := wrap_in (by omega) (by omega)
    have hw2 : wrapF .i64 (hi k - lo k + 1) = hi k - lo k + 1 := wrap_in (by omega) (by omega)
    have hw3 : wrapF .i64 (sizeN lo hi k * (hi k - lo k + 1)) = sizeN lo hi (k + 1) := by rw [wrap_in (by omega) (by omega)]; rfl
    simp only [rn0, rn1, rn2, rn3, rn4, rn5, rn6, rn7, rn8, if_true, if_false, Nat.le_refl, true_and, and_true, decide_true, decide_false, Bool.not_true, Bool.not_false, reduceIte, Nat.reduceEqDiff, Nat.reduceAdd, Nat.reduceMul, Nat.reduceSub, Nat.reduceLeDiff, Nat.reduceLT, f3, f8, f9, f10, hk', Cells.idx hFg hk, ranges_ld hFg hk]
    refine step_new (vs := [.int .i64 (lo k), .int .i64 (hi k)]) (by omega) (by omega) rfl (by simp only [rn0, rn1, rn2, rn3, rn4, rn5, rn6, rn7, rn8, if_true, if_false, Nat.le_refl, true_and, and_true, decide_true, decide_false, Bool.not_true, Bool.not_false, reduceIte, Nat.reduceEqDiff, Nat.reduceAdd, Nat.reduceMul, Nat.reduceSub, Nat.reduceLeDiff, Nat.reduceLT]; rfl) rfl rfl rfl fun g' hg' => ?_
    have hin : (Sub All h1 g' ∧ g'.next = h1.next + (k + 1) ∧ g'.floor = h1.floor) = True := eq_true ⟨g1.trans hg'.sub, by rw [hg'.next, g2]; omega, by rw [hg'.floor, g3]⟩
    simp only [rn0, rn1, rn2, rn3, rn4, rn5, rn6, rn7, rn8, if_true, if_false, Nat.le_refl, true_and, and_true, decide_true, decide_false, Bool.not_true, Bool.not_false, reduceIte, Nat.reduceEqDiff, Nat.reduceAdd, Nat.reduceMul, Nat.reduceSub, Nat.reduceLeDiff, Nat.reduceLT, f3, f8, f9, f10, hg'.ld, Nat.zero_add, List.getElem?_cons_zero, List.getElem?_cons_succ, hw, hw1, hw2, hw3, hin]
  · rintro f g m' ⟨⟨g1, g2, g3⟩, rfl, f3, f8, f9, f10⟩
    simp only [rn0, rn1, rn2, rn3, rn4, rn5, rn6, rn7, rn8, if_true, if_false, Nat.le_refl, true_and, and_true, decide_true, decide_false, Bool.not_true, Bool.not_false, reduceIte, Nat.reduceEqDiff, Nat.reduceAdd, Nat.reduceMul, Nat.reduceSub, Nat.reduceLeDiff, Nat.reduceLT, f3, f8, f9, f10, Int.lt_irrefl]

theorem build_work {F V S : Value} : buildA (fun x => (#[(0, 3), (3, 1)] : Array (Nat × Nat))[x]?) ⟨[.slice none 0 0, .slice none 0 0, .slice none 0 0, .slice none 0 0]⟩ [0] h [.agg ⟨[F, V, S]⟩] = some (.agg ⟨[F, V, S, .slice none 0 0]⟩, h) := id rfl
def s30 : SCode := (.seq (.ops [⟨(some 1), none, .box (T 0)⟩, ⟨(some 2), none, .mov (.const (.int .i64 (0)))⟩]) (.seq (.ops [⟨(some 4), none, .loadN 3 (T 1)⟩, ⟨(some 5), none, .build #[(0, 3), (3, 1)] [(.slice none 0 0), (.slice none 0 0), (.slice none 0 0), (.slice none 0 0)] [0] [(T 4)]⟩, ⟨(some 3), none, .alloc [(.slice none 0 0), (.slice none 0 0), (.slice none 0 0), (.slice none 0 0)]⟩, ⟨none, none, .store 4 (T 3) (T 5)⟩]) (.seq (.block 0 (.seq (.ops [⟨(some 7), none, .fieldAddr 0 (T 1)⟩, ⟨(some 8), none, .load1 (T 7)⟩, ⟨(some 9), none, .len (T 8)⟩, ⟨(some 10), none, .int2 .gtr (T 9) (.const (.int .i64 (5)))⟩, ⟨(some 11), none, .mov (T 10)⟩, ⟨(some 12), (some (11, false)), .fieldAddr 1 (T 1)⟩, ⟨(some 13), (some (11, false)), .load1 (T 12)⟩, ⟨(some 14), (some (11, false)), .len (T 13)⟩, ⟨(some 15), (some (11, false)), .int2 .gtr (T 14) (.const (.int .i64 (4)))⟩, ⟨(some 16), none, .pick (T 11) (.const (.bool true)) (T 15)⟩, ⟨(some 17), none, .mov (T 16)⟩, ⟨(some 18), (some (17, false)), .fieldAddr 2 (T 1)⟩, ⟨(some 19), (some (17, false)), .load1 (T 18)⟩, ⟨(some 20), (some (17, false)), .len (T 19)⟩, ⟨(some 21), (some (17, false)), .int2 .gtr (T 20) (.const (.int .i64 (5)))⟩, ⟨(some 22), none, .pick (T 17) (.const (.bool true)) (T 21)⟩, ⟨(some 6), none, .mov (T 22)⟩]) (.cond (T 6) (.seq (.ops [⟨(some 2), none, .mov (.const (.int .i64 (3)))⟩]) .ret) (.seq (.ops [⟨(some 24), none, .fieldAddr 0 (T 1)⟩, ⟨(some 25), none, .load1 (T 24)⟩, ⟨(some 26), none, .call (.func 81) [(T 25), (.func 82)]⟩, ⟨(some 27), none, .not (T 26)⟩, ⟨(some 28), none, .mov (T 27)⟩, ⟨(some 29), (some (28, false)), .fieldAddr 1 (T 1)⟩, ⟨(some 30), (some (28, false)), .load1 (T 29)⟩, ⟨(some 31), (some (28, false)), .loadN 4 (T 3)⟩, ⟨(some 32), (some (28, false)), .mkfunc 84 [(T 31)] []⟩, ⟨(some 33), (some (28, false)), .call (.func 83) [(T 30), (T 32)]⟩, ⟨(some 34), (some (28, false)), .not (T 33)⟩, ⟨(some 35), none, .pick (T 28) (.const (.bool true)) (T 34)⟩, ⟨(some 36), none, .mov (T 35)⟩, ⟨(some 37), (some (36, false)), .fieldAddr 2 (T 1)⟩, ⟨(some 38), (some (36, false)), .load1 (T 37)⟩, ⟨(some 39), (some (36, false)), .loadN 4 (T 3)⟩, ⟨(some 40), (some (36, false)), .mkfunc 86 [(T 39)] []⟩, ⟨(some 41), (some (36, false)), .call (.func 85) [(T 38), (T 40)]⟩, ⟨(some 42), (some (36, false)), .not (T 41)⟩, ⟨(some 43), none, .pick (T 36) (.const (.bool true)) (T 42)⟩, ⟨(some 23), none, .mov (T 43)⟩]) (.cond (T 23) (.seq (.ops [⟨(some 2), none, .mov (.const (.int .i64 (1)))⟩]) .ret) (.seq (.ops [⟨(some 45), none, .loadN 4 (T 3)⟩, ⟨(some 46), none, .call (.func 87) [(T 45)]⟩, ⟨(some 47), none, .int2 .gtr (T 46) (.const (.int .i64 (2000)))⟩, ⟨(some 44), none, .mov (T 47)⟩]) (.cond (T 44) (.seq (.ops [⟨(some 2), none, .mov (.const (.int .i64 (3)))⟩]) .ret) .skip))))))) (.seq (.ops [⟨(some 2), none, .mov (.const (.int .i64 (0)))⟩]) .ret))))
theorem fok30 : FnOk Try.prog 30 48 s30 [.tmp 2] := ⟨Try.f30, _, Try.func30, rfl, Try.ntmps30, by kernel_rfl, by kernel_rfl⟩
theorem checkYard_c (hn : 10004 ≤ n) (hr : h.next + 110 < far) {F V S : Value} {Y : MY} (hy : YardR h F V S Y) (hY : Thin Y) :
    call n (.func (.func 30) #[] #[]) [.agg ⟨[F, V, S]⟩] h = some (.int .i64 (faultN Y), h) := by
  obtain ⟨n, rfl⟩ : ∃ p, n = p + 1 := ⟨n - 1, by omega⟩
  refine call_plain0 fok30 rfl rfl (by simp) rfl ?_
  have hy := hy.shut
  have hr : h.shutAll.next + 110 < far := hr
  have hfl : h.shutAll.floor ≤ h.shutAll.next := Nat.le_refl _
  generalize h.shutAll = h at hy hr hfl
  obtain ⟨t1, t2, t3, t4⟩ := hY
  simp only [s30, W_seq, W_ops]
  refine ops_box (cs := [F, V, S]) (by omega) rfl hy.one fun h1 hx => ?_
  have hn1 := hx.next
  have hf1 := hx.floor
  have ho4 : allB oneCell [F, V, S, .slice none 0 0] = true := by have := hy.one; simp [allB] at this ⊢; simp [this]; rfl
  simp only [rn0, rn1, rn2, rn3, rn4, rn5, rn6, rn7, rn8, if_true, if_false, Nat.le_refl, true_and, and_true, decide_true, decide_false, Bool.not_true, Bool.not_false, reduceIte, Nat.reduceEqDiff, Nat.reduceAdd, Nat.reduceMul, Nat.reduceSub, Nat.reduceLeDiff, Nat.reduceLT, hx.ldN 0 3 (by simp) (by simp), List.drop_zero, List.take_succ_cons, List.take_zero, build_work]
  refine step_new (vs := [F, V, S, .slice none 0 0]) (by omega) (by omega) rfl (by simp only [rn0, rn1, rn2, rn3, rn4, rn5, rn6, rn7, rn8, if_true, if_false, Nat.le_refl, true_and, and_true, decide_true, decide_false, Bool.not_true, Bool.not_false, reduceIte, Nat.reduceEqDiff, Nat.reduceAdd, Nat.reduceMul, Nat.reduceSub, Nat.reduceLeDiff, Nat.reduceLT]; rfl) ho4 rfl rfl fun h2 hx2 => ?_
  have hn2 := hx2.next
  have hbx := hx.row.mono hx2.sub
  have hy := (hy.mono hx.sub).mono hx2.sub
  obtain ⟨r, hrw, hq⟩ := hy.v
  by_cases c1 : 5 < Y.nf
  · have c1' : (5 : Int) < Y.nf := by omega
    have : faultN Y = 3 := by unfold faultN SizesOk; rw [if_pos (by omega)]
    simp only [rn0, rn1, rn2, rn3, rn4, rn5, rn6, rn7, rn8, if_true, if_false, Nat.le_refl, true_and, and_true, decide_true, decide_false, Bool.not_true, Bool.not_false, reduceIte, Nat.reduceEqDiff, Nat.reduceAdd, Nat.reduceMul, Nat.reduceSub, Nat.reduceLeDiff, Nat.reduceLT, hbx.ld, Nat.zero_add, List.getElem?_cons_zero, List.getElem?_cons_succ, Cells.len hy.f, Cells.len hrw, Cells.len hy.s, c1', this]
  have c1' : ¬ (5 : Int) < Y.nf := by omega
  by_cases c2 : 4 < Y.nv
  · have c2' : (4 : Int) < Y.nv := by omega
    have : faultN Y = 3 := by unfold faultN SizesOk; rw [if_pos (by omega)]
    simp only [rn0, rn1, rn2, rn3, rn4, rn5, rn6, rn7, rn8, if_true, if_false, Nat.le_refl, true_and, and_true, decide_true, decide_false, Bool.not_true, Bool.not_false, reduceIte, Nat.reduceEqDiff, Nat.reduceAdd, Nat.reduceMul, Nat.reduceSub, Nat.reduceLeDiff, Nat.reduceLT, hbx.ld, Nat.zero_add, List.getElem?_cons_zero, List.getElem?_cons_succ, Cells.len hy.f, Cells.len hrw, Cells.len hy.s, c1', c2', this]
  have c2' : ¬ (4 : Int) < Y.nv := by omega
  by_cases c3 : 5 < Y.ns
  · have c3' : (5 : Int) < Y.ns := by omega
    have : faultN Y = 3 := by unfold faultN SizesOk; rw [if_pos (by omega)]
    simp only [rn0, rn1, rn2, rn3, rn4, rn5, rn6, rn7, rn8, if_true, if_false, Nat.le_refl, true_and, and_true, decide_true, decide_false, Bool.not_true, Bool.not_false, reduceIte, Nat.reduceEqDiff, Nat.reduceAdd, Nat.reduceMul, Nat.reduceSub, Nat.reduceLeDiff, Nat.reduceLT, hbx.ld, Nat.zero_add, List.getElem?_cons_zero, List.getElem?_cons_succ, Cells.len hy.f, Cells.len hrw, Cells.len hy.s, c1', c2', c3', this]
  have c3' : ¬ (5 : Int) < Y.ns := by omega
  have hsz : ¬ ¬ SizesOk Y := by unfold SizesOk; omega
  have bad : ¬ (FieldsOk Y ∧ VatsOk Y ∧ SampsOk Y) → faultN Y = 1 := fun hb => by unfold faultN; rw [if_neg hsz, if_neg hb]
  have w4 := hx2.ldN 0 4 (by simp) (by simp)
  have eF := everyRange_c (n := n) (h := h2) (ok := .func (.func 82) #[] #[]) (p := fun i => 0 ≤ Y.lo i ∧ Y.lo i ≤ Y.hi i ∧ Y.hi i ≤ 20) (by omega) (by omega) hy.f t1 fun g _ (hg : g.next ≤ h2.next + 40) i hi => ⟨decide (0 ≤ Y.lo i ∧ Y.lo i ≤ Y.hi i ∧ Y.hi i ≤ 20), by simp, isField_c (by omega) (by omega) _ _⟩
  have eV := everyRows_c (n := n) (h := h2) (ok := .func (.func 84) ⟨[.agg ⟨[F, V, S, .slice none 0 0]⟩]⟩ ⟨[]⟩) (p := fun i => Y.cnt i = Y.nf ∧ ∀ j, j < Y.cnt i → 0 ≤ Y.q i j ∧ Y.q i j ≤ 9) (by omega) hrw (by omega) fun g hs (hg : g.next ≤ h2.next + 0) i hi => isVat_c (by omega) (by omega) (Cells.mono (Cells.shut hy.f) hs) ho4 (Cells.mono (Cells.shut (hq i hi)) hs) (by have := t4 i hi; omega)
  have eS := everySamp_c (n := n) (h := h2) (ok := .func (.func 86) ⟨[.agg ⟨[F, V, S, .slice none 0 0]⟩]⟩ ⟨[]⟩) (p := fun i => (0 ≤ Y.sv i ∧ Y.sv i ≤ (Y.nv : Int) - 1) ∧ 0 ≤ Y.slo i ∧ Y.slo i ≤ Y.shi i ∧ Y.shi i ≤ 999) (by omega) (by omega) hy.s t3 fun g hs (hg : g.next ≤ h2.next + 40) i hi => isSample_c (by omega) (by omega) (Cells.mono (Cells.shut hrw) hs) ho4 _ _ _
  by_cases hF : FieldsOk Y
  · have hF' : (∀ i, i < Y.nf → 0 ≤ Y.lo i ∧ Y.lo i ≤ Y.hi i ∧ Y.hi i ≤ 20) = True := eq_true hF
    by_cases hV : VatsOk Y
    · have hV' : (∀ i, i < Y.nv → Y.cnt i = Y.nf ∧ ∀ j, j < Y.cnt i → 0 ≤ Y.q i j ∧ Y.q i j ≤ 9) = True := eq_true hV
      by_cases hS : SampsOk Y
      · have hS' : (∀ i, i < Y.ns → (0 ≤ Y.sv i ∧ Y.sv i ≤ (Y.nv : Int) - 1) ∧ 0 ≤ Y.slo i ∧ Y.slo i ≤ Y.shi i ∧ Y.shi i ≤ 999) = True := eq_true hS
        have hfa : faultN Y = if 2000 < manyN Y.lo Y.hi Y.nf then 3 else 0 := by unfold faultN; rw [if_neg hsz, if_pos ⟨hF, hV, hS⟩]
        have hsm := sizeN_many (by omega) hF Y.nf (Nat.le_refl _)
        have eZ := size4_c (n := n) (h := h2) (by omega) (by omega) hy.f ho4 (by omega) hF
        by_cases hm : 2000 < sizeN Y.lo Y.hi Y.nf
        · rw [if_pos (by omega)] at hfa
          simp only [rn0, rn1, rn2, rn3, rn4, rn5, rn6, rn7, rn8, if_true, if_false, Nat.le_refl, true_and, and_true, decide_true, decide_false, Bool.not_true, Bool.not_false, reduceIte, Nat.reduceEqDiff, Nat.reduceAdd, Nat.reduceMul, Nat.reduceSub, Nat.reduceLeDiff, Nat.reduceLT, hbx.ld, Nat.zero_add, List.getElem?_cons_zero, List.getElem?_cons_succ, Cells.len hy.f, Cells.len hrw, Cells.len hy.s, c1', c2', c3', w4, List.drop_zero, List.take_succ_cons, List.take_zero, eF, eV, eS, hF', hV', hS', eZ, hm, hfa]
        · rw [if_neg (by omega)] at hfa
          simp only [rn0, rn1, rn2, rn3, rn4, rn5, rn6, rn7, rn8, if_true, if_false, Nat.le_refl, true_and, and_true, decide_true, decide_false, Bool.not_true, Bool.not_false, reduceIte, Nat.reduceEqDiff, Nat.reduceAdd, Nat.reduceMul, Nat.reduceSub, Nat.reduceLeDiff, Nat.reduceLT, hbx.ld, Nat.zero_add, List.getElem?_cons_zero, List.getElem?_cons_succ, Cells.len hy.f, Cells.len hrw, Cells.len hy.s, c1', c2', c3', w4, List.drop_zero, List.take_succ_cons, List.take_zero, eF, eV, eS, hF', hV', hS', eZ, hm, hfa]
      · have hS' : (∀ i, i < Y.ns → (0 ≤ Y.sv i ∧ Y.sv i ≤ (Y.nv : Int) - 1) ∧ 0 ≤ Y.slo i ∧ Y.slo i ≤ Y.shi i ∧ Y.shi i ≤ 999) = False := eq_false hS
        have hfa := bad fun hb => hS hb.2.2
        simp only [rn0, rn1, rn2, rn3, rn4, rn5, rn6, rn7, rn8, if_true, if_false, Nat.le_refl, true_and, and_true, decide_true, decide_false, Bool.not_true, Bool.not_false, reduceIte, Nat.reduceEqDiff, Nat.reduceAdd, Nat.reduceMul, Nat.reduceSub, Nat.reduceLeDiff, Nat.reduceLT, hbx.ld, Nat.zero_add, List.getElem?_cons_zero, List.getElem?_cons_succ, Cells.len hy.f, Cells.len hrw, Cells.len hy.s, c1', c2', c3', w4, List.drop_zero, List.take_succ_cons, List.take_zero, eF, eV, eS, hF', hV', hS', hfa]
    · have hV' : (∀ i, i < Y.nv → Y.cnt i = Y.nf ∧ ∀ j, j < Y.cnt i → 0 ≤ Y.q i j ∧ Y.q i j ≤ 9) = False := eq_false hV
      have hfa := bad fun hb => hV hb.2.1
      simp only [rn0, rn1, rn2, rn3, rn4, rn5, rn6, rn7, rn8, if_true, if_false, Nat.le_refl, true_and, and_true, decide_true, decide_false, Bool.not_true, Bool.not_false, reduceIte, Nat.reduceEqDiff, Nat.reduceAdd, Nat.reduceMul, Nat.reduceSub, Nat.reduceLeDiff, Nat.reduceLT, hbx.ld, Nat.zero_add, List.getElem?_cons_zero, List.getElem?_cons_succ, Cells.len hy.f, Cells.len hrw, Cells.len hy.s, c1', c2', c3', w4, List.drop_zero, List.take_succ_cons, List.take_zero, eF, eV, hF', hV', hfa]
  · have hF' : (∀ i, i < Y.nf → 0 ≤ Y.lo i ∧ Y.lo i ≤ Y.hi i ∧ Y.hi i ≤ 20) = False := eq_false hF
    have hfa := bad fun hb => hF hb.1
    simp only [rn0, rn1, rn2, rn3, rn4, rn5, rn6, rn7, rn8, if_true, if_false, Nat.le_refl, true_and, and_true, decide_true, decide_false, Bool.not_true, Bool.not_false, reduceIte, Nat.reduceEqDiff, Nat.reduceAdd, Nat.reduceMul, Nat.reduceSub, Nat.reduceLeDiff, Nat.reduceLT, hbx.ld, Nat.zero_add, List.getElem?_cons_zero, List.getElem?_cons_succ, Cells.len hy.f, Cells.len hrw, Cells.len hy.s, c1', c2', c3', w4, List.drop_zero, List.take_succ_cons, List.take_zero, eF, hF', hfa]
end Go.Vm.Vat

namespace Go.Vm.Vat
open Go.Proofs
set_option linter.unusedSimpArgs false
set_option linter.unusedVariables false
set_option maxRecDepth 10000
variable {n : Nat} {h : AHeap}

theorem idxArr_p {l k b o : Nat} (hk : k < l) : indexArr l 1 (.pointer (some ⟨b, o, none⟩)) (.int .i64 (k : Int)) = some (.pointer (some ⟨b, o + k, none⟩)) := by
  show placeAt ⟨b, o, none⟩ (Int.ofNat k) l 1 = _
  unfold placeAt
  simp only [blt_iff.2 hk, cond_true, Nat.mul_one]
/-- an array of blues -/
def arr (b : Nat → Int) : List Value := (List.range 5).map fun i => .int .i64 (b i)
theorem arr_get {b : Nat → Int} {k : Nat} (hk : k < 5) : (arr b)[k]? = some (.int .i64 (b k)) := by
  rw [arr, List.getElem?_map, List.getElem?_range hk]; rfl

def s77 : SCode := (.seq (.ops [⟨(some 3), none, .box (T 0)⟩, ⟨(some 4), none, .box (T 1)⟩, ⟨(some 6), none, .mov (.const (.int .i64 (0)))⟩]) (.seq (.ops [⟨(some 7), none, .mov (.const (.int .i64 (0)))⟩]) (.seq (.seq (.ops [⟨(some 10), none, .fieldAddr 0 (T 3)⟩, ⟨(some 11), none, .fieldAddr 1 (T 10)⟩, ⟨(some 12), none, .load1 (T 11)⟩, ⟨(some 13), none, .mov (T 2)⟩, ⟨(some 14), none, .idxSl 1 (T 12) (T 13)⟩, ⟨(some 15), none, .load1 (T 14)⟩, ⟨(some 16), none, .len (T 15)⟩, ⟨(some 17), none, .mov (.const (.int .i64 (0)))⟩]) (.block 0 (.loop (.seq (.ops [⟨(some 18), none, .int2 .lss (T 17) (T 16)⟩]) (.seq (.cond (T 18) .skip (.exit 0)) (.seq (.block 1 (.seq (.ops [⟨(some 19), none, .mov (T 17)⟩, ⟨(some 20), none, .idxSl 1 (T 15) (T 17)⟩, ⟨(some 21), none, .load1 (T 20)⟩, ⟨(some 8), none, .mov (T 19)⟩, ⟨(some 9), none, .mov (T 21)⟩]) (.ops [⟨(some 22), none, .mov (T 7)⟩, ⟨(some 23), none, .mov (T 9)⟩, ⟨(some 24), none, .mov (T 8)⟩, ⟨(some 25), none, .idxArr 5 1 (T 4) (T 24)⟩, ⟨(some 26), none, .load1 (T 25)⟩, ⟨(some 27), none, .int2 .mul (T 23) (T 26)⟩, ⟨(some 28), none, .int2 .add (T 22) (T 27)⟩, ⟨(some 7), none, .mov (T 28)⟩]))) (.ops [⟨(some 29), none, .int2 .add (T 17) (.const (.int .i64 (1)))⟩, ⟨(some 17), none, .mov (T 29)⟩]))))))) (.seq (.ops [⟨(some 30), none, .mov (T 7)⟩, ⟨(some 6), none, .mov (T 30)⟩]) .ret))))
theorem fok77 : FnOk Try.prog 77 31 s77 [.tmp 6] := ⟨Try.f77, _, Try.func77, rfl, Try.ntmps77, by kernel_rfl, by kernel_rfl⟩
theorem inVat_c (hn : 10001 ≤ n) (hr : h.next + 2 < far) {F V S T : Value} {nv nf at_ : Nat} {cnt : Nat → Nat} {q : Nat → Nat → Int} {b : Nat → Int} (hV : Rows h V nv cnt q) (h1 : allB oneCell [F, V, S, T] = true)
    (hat : at_ < nv) (hc : cnt at_ = nf) (hnf : nf ≤ 5) (hb1 : ∀ k, k < nf → 0 ≤ b k ∧ b k ≤ 20) (hq1 : ∀ k, k < nf → 0 ≤ q at_ k ∧ q at_ k ≤ 9) :
    call n (.func (.func 77) #[] #[]) [.agg ⟨[F, V, S, T]⟩, .agg ⟨arr b⟩, .int .i64 (at_ : Int)] h = some (.int .i64 (blueN b (q at_) nf), h) := by
  obtain ⟨n, rfl⟩ : ∃ p, n = p + 1 := ⟨n - 1, by omega⟩
  refine call_plain0 fok77 rfl rfl (by simp) rfl ?_
  have hV := hV.mono (g := h.shutAll) fun _ _ _ _ _ h => h
  have hr : h.shutAll.next + 2 < far := hr
  generalize h.shutAll = h at hV hr
  simp only [s77, W_seq, W_ops]
  refine ops_box (cs := [F, V, S, T]) (by omega) rfl h1 fun g1 hx => ?_
  refine ops_box (cs := arr b) (by rw [hx.next]; omega) rfl (by rw [allB_iff]; intro v hv; obtain ⟨i, _, rfl⟩ := List.mem_map.1 hv; rfl) fun g2 hx2 => ?_
  have hrow := hx.row.mono hx2.sub
  obtain ⟨r, hrw, hq⟩ := (hV.mono hx.sub).mono hx2.sub
  subst hc
  have hqa := hq at_ hat
  simp only [rn0, rn1, rn2, rn3, rn4, rn5, rn6, rn7, rn8, if_true, if_false, Nat.le_refl, true_and, and_true, decide_true, decide_false, Bool.not_true, Bool.not_false, reduceIte, Nat.reduceEqDiff, Nat.reduceAdd, Nat.reduceMul, Nat.reduceSub, Nat.reduceLeDiff, Nat.reduceLT, hrow.ld, Nat.zero_add, List.getElem?_cons_zero, List.getElem?_cons_succ, Cells.idx hrw hat, Cells.ld hrw hat Nat.zero_lt_one, Cells.len hqa]
  refine W_loop (cnt at_) (fun k f g m => g = g2 ∧ m = [] ∧ f 4 = .pointer (some ⟨g1.next, 0, none⟩) ∧ f 7 = .int .i64 (blueN b (q at_) k) ∧ f 15 = r at_ ∧ f 16 = .int .i64 (cnt at_ : Int) ∧ f 17 = .int .i64 (k : Int)) (by simp; omega) ?_ ?_ ?_
  · simp only [rn0, rn1, rn2, rn3, rn4, rn5, rn6, rn7, rn8, if_true, if_false, Nat.le_refl, true_and, and_true, decide_true, decide_false, Bool.not_true, Bool.not_false, reduceIte, Nat.reduceEqDiff, Nat.reduceAdd, Nat.reduceMul, Nat.reduceSub, Nat.reduceLeDiff, Nat.reduceLT]
    simp [blueN]
  · rintro k f g m hk ⟨rfl, rfl, f4, f7, f15, f16, f17⟩
    have hk' : (k : Int) < (cnt at_ : Int) := by omega
    obtain ⟨h3, h4⟩ := hb1 k hk
    obtain ⟨h5, h6⟩ := hq1 k hk
    have h7 : 0 ≤ b k * q at_ k := Int.mul_nonneg h3 h5
    have h8 : b k * q at_ k ≤ 20 * 9 := Int.mul_le_mul h4 h6 h5 (by omega)
    obtain ⟨h9, h10⟩ := blueN_bound (by omega) hb1 hq1 k (by omega)
    have hw : wrapF .i64 ((k : Int) + 1) = ((k + 1 : Nat) : Int) := by rw [wrap_in (by omega) (by omega)]; rfl
    have hw2 : wrapF .i64 (q at_ k * b k) = b k * q at_ k := by rw [Int.mul_comm]; exact wrap_in (by omega) (by omega)
    have hw3 : wrapF .i64 (blueN b (q at_) k + b k * q at_ k) = blueN b (q at_) (k + 1) := by rw [wrap_in (by omega) (by omega)]; rfl
    have hld : loadCell g (.pointer (some ⟨g1.next, k, none⟩)) = some (.int .i64 (b k)) := by rw [hx2.row.ld, arr_get (by omega)]
    simp only [rn0, rn1, rn2, rn3, rn4, rn5, rn6, rn7, rn8, if_true, if_false, Nat.le_refl, true_and, and_true, decide_true, decide_false, Bool.not_true, Bool.not_false, reduceIte, Nat.reduceEqDiff, Nat.reduceAdd, Nat.reduceMul, Nat.reduceSub, Nat.reduceLeDiff, Nat.reduceLT, f4, f7, f15, f16, f17, hk', Cells.idx hqa hk, Cells.ld hqa hk Nat.zero_lt_one, idxArr_p (l := 5) (k := k) (by omega), Nat.zero_add, hld, hw, hw2, hw3]
  · rintro f g m ⟨rfl, rfl, f4, f7, f15, f16, f17⟩
    simp only [rn0, rn1, rn2, rn3, rn4, rn5, rn6, rn7, rn8, if_true, if_false, Nat.le_refl, true_and, and_true, decide_true, decide_false, Bool.not_true, Bool.not_false, reduceIte, Nat.reduceEqDiff, Nat.reduceAdd, Nat.reduceMul, Nat.reduceSub, Nat.reduceLeDiff, Nat.reduceLT, f4, f7, f15, f16, f17, Int.lt_irrefl]
end Go.Vm.Vat

namespace Go.Vm.Vat
open Go.Proofs
set_option linter.unusedSimpArgs false
set_option linter.unusedVariables false
set_option maxRecDepth 10000
variable {n : Nat} {h : AHeap}

theorem arr_one {b : Nat → Int} : allB oneCell (arr b) = true := by rw [allB_iff]; intro v hv; obtain ⟨i, _, rfl⟩ := List.mem_map.1 hv; rfl
theorem arr_len {b : Nat → Int} : (arr b).length = 5 := by simp [arr]
theorem _root_.Go.Vm.Row.whole {b n : Nat} {cs : List Value} (hr : Row h b cs) (hl : cs.length = n) : loadAgg n h (.pointer (some ⟨b, 0, none⟩)) = some (.agg ⟨cs⟩) := by
  rw [hr.ldN 0 n (by omega) (by simp [hl]), List.drop_zero, ← hl, List.take_length]
/-- what is asked of a yard at work for the blue of one of its vats -/
structure AtVat (h : AHeap) (V : Value) (Y : MY) (b : Nat → Int) : Prop where
  v : Rows h V Y.nv Y.cnt Y.q
  sz : Y.nf ≤ 5
  ok : VatsOk Y
  b : ∀ k, k < Y.nf → 0 ≤ b k ∧ b k ≤ 20
theorem AtVat.mono {g : AHeap} {V : Value} {Y : MY} {b : Nat → Int} (ha : AtVat h V Y b) (hs : Sub All h g) : AtVat g V Y b := ⟨ha.v.mono hs, ha.sz, ha.ok, ha.b⟩

def s123 : SCode := (.seq (.ops [⟨(some 3), none, .box (T 0)⟩, ⟨(some 4), none, .box (T 1)⟩, ⟨(some 5), none, .box (T 2)⟩, ⟨(some 6), none, .mov (.const (.bool false))⟩]) (.seq (.draw [⟨.free, ⟨(some 7), none, .fieldAddr 1 (T 5)⟩⟩, ⟨.rd, ⟨(some 8), none, .loadN 2 (T 7)⟩⟩, ⟨.rd1, ⟨(some 9), none, .loadN 4 (T 3)⟩⟩, ⟨.rd1, ⟨(some 10), none, .loadN 5 (T 4)⟩⟩, ⟨.free, ⟨(some 11), none, .fieldAddr 0 (T 5)⟩⟩, ⟨.rd1, ⟨(some 12), none, .load1 (T 11)⟩⟩, ⟨.up, ⟨(some 13), none, .call (.func 77) [(T 9), (T 10), (T 12)]⟩⟩, ⟨.any, ⟨(some 14), none, .call (.func 113) [(T 8), (T 13)]⟩⟩, ⟨.free, ⟨(some 6), none, .mov (T 14)⟩⟩]) .ret))
theorem fok123 : FnOk Try.prog 123 15 s123 [.tmp 6] := ⟨Try.f123, _, Try.func123, rfl, Try.ntmps123, by kernel_rfl, by kernel_rfl⟩
theorem isRight_c (hn : 10002 ≤ n) (hr : h.next + 5 < far) {F V S T : Value} {Y : MY} {b : Nat → Int} (ha : AtVat h V Y b) (h1 : allB oneCell [F, V, S, T] = true) {at_ lo hi : Int} (hat : 0 ≤ at_ ∧ at_ ≤ (Y.nv : Int) - 1) :
    call n (.func (.func 123) #[] #[]) [.agg ⟨[F, V, S, T]⟩, .agg ⟨arr b⟩, .agg ⟨[.int .i64 at_, .int .i64 lo, .int .i64 hi]⟩] h = some (.bool (decide (lo ≤ blueN b (Y.q at_.toNat) Y.nf ∧ blueN b (Y.q at_.toNat) Y.nf ≤ hi)), h) := by
  obtain ⟨n, rfl⟩ : ∃ p, n = p + 1 := ⟨n - 1, by omega⟩
  refine call_plain0 fok123 rfl rfl (by simp) rfl ?_
  have ha := ha.mono (g := h.shutAll) fun _ _ _ _ _ h => h
  have hr : h.shutAll.next + 5 < far := hr
  generalize h.shutAll = h at ha hr
  simp only [s123, W_seq, W_ops]
  refine ops_box (cs := [F, V, S, T]) (by omega) rfl h1 fun g1 hx1 => ?_
  refine ops_box (cs := arr b) (by rw [hx1.next]; omega) rfl arr_one fun g2 hx2 => ?_
  refine ops_box (cs := [.int .i64 at_, .int .i64 lo, .int .i64 hi]) (by rw [hx2.next, hx1.next]; omega) rfl rfl fun g3 hx3 => ?_
  have w1 := ((hx1.row.mono hx2.sub).mono hx3.sub).whole (n := 4) rfl
  have w2 := (hx2.row.mono hx3.sub).whole arr_len
  have w3 := hx3.row
  have ha := ((ha.mono hx1.sub).mono hx2.sub).mono hx3.sub
  obtain ⟨k, rfl⟩ : ∃ k : Nat, at_ = k := ⟨at_.toNat, by omega⟩
  obtain ⟨v1, v2⟩ := ha.ok k (by omega)
  have hb := inVat_c (n := n) (h := g3) (b := b) (F := F) (S := S) (T := T) (at_ := k) (by omega) (by rw [hx3.next, hx2.next, hx1.next]; omega) ha.v h1 (by omega) v1 ha.sz ha.b (fun i hi => v2 i (by omega))
  have hh := has_c (n := n) (h := g3) (by omega) (by rw [hx3.next, hx2.next, hx1.next]; omega) lo hi (blueN b (Y.q k) Y.nf)
  have e2 : eqV (.agg ⟨[.int .i64 lo, .int .i64 hi]⟩) (.agg ⟨[.int .i64 lo, .int .i64 hi]⟩) = true := by simp [eqV, eqCells, eqCell, sameK, eqI_eq]
  simp only [rn0, rn1, rn2, rn3, rn4, rn5, rn6, rn7, rn8, if_true, if_false, Nat.le_refl, true_and, and_true, decide_true, decide_false, Bool.not_true, Bool.not_false, reduceIte, Nat.reduceEqDiff, Nat.reduceAdd, Nat.reduceMul, Nat.reduceSub, Nat.reduceLeDiff, Nat.reduceLT]
  refine W_draw All ?_
  simp only [rn0, rn1, rn2, rn3, rn4, rn5, rn6, rn7, rn8, if_true, if_false, Nat.le_refl, true_and, and_true, decide_true, decide_false, Bool.not_true, Bool.not_false, reduceIte, Nat.reduceEqDiff, Nat.reduceAdd, Nat.reduceMul, Nat.reduceSub, Nat.reduceLeDiff, Nat.reduceLT, w1, w2, w3.ld, w3.ldN 1 2 (by simp) (by simp), List.drop_succ_cons, List.drop_zero, List.take_succ_cons, List.take_zero, Nat.zero_add, List.getElem?_cons_zero, List.getElem?_cons_succ, hb, hh, e2, Int.toNat_natCast]

def s126 : SCode := (.seq (.ops [⟨(some 3), none, .box (T 0)⟩, ⟨(some 4), none, .mov (.const (.bool false))⟩]) (.seq (.ops [⟨(some 5), none, .loadN 4 (T 1)⟩, ⟨(some 6), none, .loadN 5 (T 2)⟩, ⟨(some 7), none, .loadN 3 (T 3)⟩, ⟨(some 8), none, .call (.func 123) [(T 5), (T 6), (T 7)]⟩, ⟨(some 4), none, .mov (T 8)⟩]) .ret))
theorem fok126 : FnOk Try.prog 126 9 s126 [.tmp 4] := ⟨Try.f126, _, Try.func126, rfl, Try.ntmps126, by kernel_rfl, by kernel_rfl⟩
theorem isTruth1_c (hn : 10003 ≤ n) (hr : h.next + 6 < far) {F V S T : Value} {Y : MY} {b : Nat → Int} (ha : AtVat h V Y b) (h1 : allB oneCell [F, V, S, T] = true) {at_ lo hi : Int} (hat : 0 ≤ at_ ∧ at_ ≤ (Y.nv : Int) - 1) {p q : Nat} (hp : Row h p [F, V, S, T]) (hq : Row h q (arr b)) :
    call n (.func (.func 126) ⟨[]⟩ ⟨[.pointer (some ⟨p, 0, none⟩), .pointer (some ⟨q, 0, none⟩)]⟩) [.agg ⟨[.int .i64 at_, .int .i64 lo, .int .i64 hi]⟩] h = some (.bool (decide (lo ≤ blueN b (Y.q at_.toNat) Y.nf ∧ blueN b (Y.q at_.toNat) Y.nf ≤ hi)), h) := by
  obtain ⟨n, rfl⟩ : ∃ p, n = p + 1 := ⟨n - 1, by omega⟩
  refine call_plain (xs := []) (ys := [.pointer (some ⟨p, 0, none⟩), .pointer (some ⟨q, 0, none⟩)]) fok126 rfl rfl (by simp) rfl ?_
  have ha := ha.mono (g := h.shutAll) fun _ _ _ _ _ h => h
  have hp := hp.mono (g := h.shutAll) fun _ _ _ _ _ h => h
  have hq := hq.mono (g := h.shutAll) fun _ _ _ _ _ h => h
  have hr : h.shutAll.next + 6 < far := hr
  generalize h.shutAll = h at ha hr hp hq
  simp only [s126, List.cons_append, List.nil_append, W_seq, W_ops]
  refine ops_box (cs := [.int .i64 at_, .int .i64 lo, .int .i64 hi]) (by omega) rfl rfl fun g1 hx1 => ?_
  have hi := isRight_c (n := n) (h := g1) (b := b) (F := F) (S := S) (T := T) (lo := lo) (hi := hi) (by omega) (by rw [hx1.next]; omega) (ha.mono hx1.sub) h1 hat
  simp only [rn0, rn1, rn2, rn3, rn4, rn5, rn6, rn7, rn8, if_true, if_false, Nat.le_refl, true_and, and_true, decide_true, decide_false, Bool.not_true, Bool.not_false, reduceIte, Nat.reduceEqDiff, Nat.reduceAdd, Nat.reduceMul, Nat.reduceSub, Nat.reduceLeDiff, Nat.reduceLT, (hp.mono hx1.sub).whole (n := 4) rfl, (hq.mono hx1.sub).whole arr_len, hx1.row.whole (n := 3) rfl, hi]

def s114 : SCode := (.seq (.ops [⟨(some 2), none, .box (T 0)⟩, ⟨(some 3), none, .box (T 1)⟩, ⟨(some 4), none, .mov (.const (.bool false))⟩]) (.seq (.ops [⟨(some 5), none, .fieldAddr 0 (T 2)⟩, ⟨(some 6), none, .fieldAddr 2 (T 5)⟩, ⟨(some 7), none, .load1 (T 6)⟩, ⟨(some 8), none, .mkfunc 126 [] [(T 2), (T 3)]⟩, ⟨(some 9), none, .call (.func 85) [(T 7), (T 8)]⟩, ⟨(some 4), none, .mov (T 9)⟩]) .ret))
theorem fok114 : FnOk Try.prog 114 10 s114 [.tmp 4] := ⟨Try.f114, _, Try.func114, rfl, Try.ntmps114, by kernel_rfl, by kernel_rfl⟩
open Classical in
theorem isTruthW_c (hn : 10005 ≤ n) (hr : h.next + 100 < far) {F V S T : Value} {Y : MY} {b : Nat → Int} (hS : Samps h S Y.ns Y.sv Y.slo Y.shi) (hsn : Y.ns ≤ 5) (hso : SampsOk Y) (ha : AtVat h V Y b) (h1 : allB oneCell [F, V, S, T] = true) :
    call n (.func (.func 114) #[] #[]) [.agg ⟨[F, V, S, T]⟩, .agg ⟨arr b⟩] h = some (.bool (decide (∀ k, k < Y.ns → RightB Y b k)), h) := by
  obtain ⟨n, rfl⟩ : ∃ p, n = p + 1 := ⟨n - 1, by omega⟩
  refine call_plain0 fok114 rfl rfl (by simp) rfl ?_
  have hS := Cells.shut hS
  have ha := ha.mono (g := h.shutAll) fun _ _ _ _ _ h => h
  have hr : h.shutAll.next + 100 < far := hr
  generalize h.shutAll = h at ha hr hS
  simp only [s114, W_seq, W_ops]
  refine ops_box (cs := [F, V, S, T]) (by omega) rfl h1 fun g1 hx1 => ?_
  refine ops_box (cs := arr b) (by rw [hx1.next]; omega) rfl arr_one fun g2 hx2 => ?_
  have n2 : g2.next = h.next + 2 := by rw [hx2.next, hx1.next]
  have hS := Cells.mono (Cells.mono hS hx1.sub) hx2.sub
  have ha := (ha.mono hx1.sub).mono hx2.sub
  have hp := hx1.row.mono hx2.sub
  have hq := hx2.row
  have he := everySamp_c (n := n) (h := g2) (ok := .func (.func 126) ⟨[]⟩ ⟨[.pointer (some ⟨h.next, 0, none⟩), .pointer (some ⟨g1.next, 0, none⟩)]⟩) (p := fun k => RightB Y b k) (by omega) (by omega) hS (by omega)
    fun g hs (hg : g.next ≤ g2.next + 40) i hi => by
      have hs' : Sub All g2 g := fun i cs w gr t hg => hs i cs w gr t hg
      exact ⟨_, (by rw [decide_eq_true_eq]; exact Iff.rfl), isTruth1_c (lo := Y.slo i) (hi := Y.shi i) (n := n - 1) (h := g) (by omega) (by omega) (ha.mono hs') h1 (hso i hi).1 (hp.mono hs') (hq.mono hs')⟩
  simp only [rn0, rn1, rn2, rn3, rn4, rn5, rn6, rn7, rn8, if_true, if_false, Nat.le_refl, true_and, and_true, decide_true, decide_false, Bool.not_true, Bool.not_false, reduceIte, Nat.reduceEqDiff, Nat.reduceAdd, Nat.reduceMul, Nat.reduceSub, Nat.reduceLeDiff, Nat.reduceLT, hp.ld, Nat.zero_add, List.getElem?_cons_zero, List.getElem?_cons_succ, he]
end Go.Vm.Vat

namespace Go.Vm.Vat
open Go.Proofs
set_option linter.unusedSimpArgs false
set_option linter.unusedVariables false
set_option maxRecDepth 10000
variable {n : Nat} {h : AHeap}

/-- the first of the blues, 0 behind them -/
def upto (k : Nat) (b : Nat → Int) (i : Nat) : Int := if i < k then b i else 0
theorem splice_arr {k : Nat} {b : Nat → Int} (hk : k < 5) : splice (arr (upto k b)) k [.int .i64 (b k)] = arr (upto (k + 1) b) := by
  obtain rfl | rfl | rfl | rfl | rfl : k = 0 ∨ k = 1 ∨ k = 2 ∨ k = 3 ∨ k = 4 := by omega
  all_goals simp [splice, arr, upto, List.range_succ]
theorem x_buildArr {P : Program} {cf : CallF} {N : Nat} {f : Fr} {s : Nat} {zc : List Value} {is : List Nat} {vs : List Operand} : sem P cf N f h (.buildArr s zc is vs) = buildA (fun i => some (i * s, s)) ⟨zc⟩ is h (vals f vs) := id rfl
theorem build_zero {zc : List Value} {pl : Nat → Option (Nat × Nat)} : buildA pl ⟨zc⟩ [] h [] = some (.agg ⟨zc⟩, h) := id rfl
theorem res_two {a n t : Nat} {f : Fr} : resV f h [.cellN a n, .tmp t] = match loadAgg n h (f a) with
  | some v => some (.tuple ⟨[v, f t]⟩)
  | none => none := by
  simp only [resV, resL, res1]
  cases loadAgg n h (f a) <;> rfl
theorem splice_all {cs vs : List Value} (hl : cs.length = vs.length) : splice cs 0 vs = vs := by simp [splice, hl]
theorem arr_zero {b : Nat → Int} : arr (upto 0 b) = [.int .i64 0, .int .i64 0, .int .i64 0, .int .i64 0, .int .i64 0] := rfl

def s76 : SCode := (.seq (.ops [⟨(some 2), none, .box (T 0)⟩, ⟨(some 4), none, .alloc [(.int .i64 (0)), (.int .i64 (0)), (.int .i64 (0)), (.int .i64 (0)), (.int .i64 (0))]⟩, ⟨(some 5), none, .mov (.const (.bool false))⟩]) (.seq (.seq (.ops [⟨(some 8), none, .mov (T 1)⟩, ⟨(some 9), none, .len (T 8)⟩, ⟨(some 10), none, .fieldAddr 0 (T 2)⟩, ⟨(some 11), none, .fieldAddr 0 (T 10)⟩, ⟨(some 12), none, .load1 (T 11)⟩, ⟨(some 13), none, .len (T 12)⟩, ⟨(some 14), none, .int2 .neq (T 9) (T 13)⟩]) (.cond (T 14) (.seq (.ops [⟨(some 15), none, .buildArr 1 [(.int .i64 (0)), (.int .i64 (0)), (.int .i64 (0)), (.int .i64 (0)), (.int .i64 (0))] [] []⟩, ⟨none, none, .store 5 (T 4) (T 15)⟩, ⟨(some 5), none, .mov (.const (.bool false))⟩]) .ret) .skip)) (.seq (.seq (.ops [⟨(some 16), none, .fieldAddr 0 (T 2)⟩, ⟨(some 17), none, .fieldAddr 0 (T 16)⟩, ⟨(some 18), none, .load1 (T 17)⟩, ⟨(some 19), none, .len (T 18)⟩, ⟨(some 20), none, .mov (.const (.int .i64 (0)))⟩]) (.block 0 (.loop (.seq (.ops [⟨(some 21), none, .int2 .lss (T 20) (T 19)⟩]) (.seq (.cond (T 21) .skip (.exit 0)) (.seq (.block 1 (.seq (.ops [⟨(some 22), none, .mov (T 20)⟩, ⟨(some 23), none, .idxSl 2 (T 18) (T 20)⟩, ⟨(some 24), none, .loadN 2 (T 23)⟩, ⟨(some 7), none, .alloc [(.int .i64 (0)), (.int .i64 (0))]⟩, ⟨(some 6), none, .mov (T 22)⟩, ⟨none, none, .store 2 (T 7) (T 24)⟩]) (.seq (.seq (.draw [⟨.rd1, ⟨(some 25), none, .loadN 2 (T 7)⟩⟩, ⟨.free, ⟨(some 26), none, .mov (T 1)⟩⟩, ⟨.free, ⟨(some 27), none, .mov (T 6)⟩⟩, ⟨.free, ⟨(some 28), none, .idxSl 1 (T 26) (T 27)⟩⟩, ⟨.rd1, ⟨(some 29), none, .load1 (T 28)⟩⟩, ⟨.any, ⟨(some 30), none, .call (.func 113) [(T 25), (T 29)]⟩⟩, ⟨.free, ⟨(some 31), none, .not (T 30)⟩⟩]) (.cond (T 31) (.seq (.ops [⟨(some 32), none, .buildArr 1 [(.int .i64 (0)), (.int .i64 (0)), (.int .i64 (0)), (.int .i64 (0)), (.int .i64 (0))] [] []⟩, ⟨none, none, .store 5 (T 4) (T 32)⟩, ⟨(some 5), none, .mov (.const (.bool false))⟩]) .ret) .skip)) (.ops [⟨(some 33), none, .mov (T 6)⟩, ⟨(some 34), none, .mov (T 1)⟩, ⟨(some 35), none, .mov (T 6)⟩, ⟨(some 36), none, .idxSl 1 (T 34) (T 35)⟩, ⟨(some 37), none, .load1 (T 36)⟩, ⟨(some 38), none, .idxArr 5 1 (T 4) (T 33)⟩, ⟨none, none, .store 1 (T 38) (T 37)⟩])))) (.ops [⟨(some 39), none, .int2 .add (T 20) (.const (.int .i64 (1)))⟩, ⟨(some 20), none, .mov (T 39)⟩]))))))) (.seq (.ops [⟨(some 40), none, .loadN 5 (T 4)⟩, ⟨none, none, .store 5 (T 4) (T 40)⟩, ⟨(some 5), none, .mov (.const (.bool true))⟩]) .ret))))
theorem fok76 : FnOk Try.prog 76 41 s76 [.cellN 4 5, .tmp 5] := ⟨Try.f76, _, Try.func76, rfl, Try.ntmps76, by kernel_rfl, by kernel_rfl⟩
theorem toBlues_c (hn : 10002 ≤ n) (hr : h.next + 20 < far) {F V S T vb : Value} {nf nb : Nat} {lo hi b : Nat → Int} (hF : Ranges h F nf lo hi) (h1 : allB oneCell [F, V, S, T] = true) (hb : Ints h vb nb b) (hl : nb ≤ 30) (hm : nf ≤ 5) :
    (¬ (nb = nf ∧ ∀ k, k < nf → lo k ≤ b k ∧ b k ≤ hi k) → call n (.func (.func 76) #[] #[]) [.agg ⟨[F, V, S, T]⟩, vb] h = some (.tuple ⟨[.agg ⟨arr (upto 0 b)⟩, .bool false]⟩, h)) ∧
    (nb = nf ∧ (∀ k, k < nf → lo k ≤ b k ∧ b k ≤ hi k) → call n (.func (.func 76) #[] #[]) [.agg ⟨[F, V, S, T]⟩, vb] h = some (.tuple ⟨[.agg ⟨arr (upto nf b)⟩, .bool true]⟩, h)) := by
  suffices hs : ∀ (R : Value), (¬ (nb = nf ∧ ∀ k, k < nf → lo k ≤ b k ∧ b k ≤ hi k) → R = .tuple ⟨[.agg ⟨arr (upto 0 b)⟩, .bool false]⟩) → (nb = nf ∧ (∀ k, k < nf → lo k ≤ b k ∧ b k ≤ hi k) → R = .tuple ⟨[.agg ⟨arr (upto nf b)⟩, .bool true]⟩) → plainV R = true → call n (.func (.func 76) #[] #[]) [.agg ⟨[F, V, S, T]⟩, vb] h = some (R, h) by
    constructor
    · intro hb
      exact hs _ (fun _ => rfl) (fun h => absurd h hb) rfl
    · intro hb
      exact hs _ (fun h => absurd hb h) (fun _ => rfl) rfl
  intro R hR0 hR1 hpl
  obtain ⟨n, rfl⟩ : ∃ p, n = p + 1 := ⟨n - 1, by omega⟩
  refine call_plain0 fok76 rfl rfl (by simp) hpl ?_
  have hF := Cells.shut hF
  have hb := Cells.shut hb
  have hr : h.shutAll.next + 20 < far := hr
  have hfl : h.shutAll.floor ≤ h.shutAll.next := Nat.le_refl _
  generalize h.shutAll = h at hF hb hr hfl
  simp only [s76, W_seq, W_ops]
  refine ops_box (cs := [F, V, S, T]) (by omega) rfl h1 fun g1 hx1 => ?_
  have n1 := hx1.next
  have f1 := hx1.floor
  refine ops_alloc (by omega) rfl fun g2 hx2 => ?_
  have n2 := hx2.next
  have f2 := hx2.floor
  have hbx := hx1.row.mono hx2.sub
  have hall : ∀ {g : AHeap}, Keep g1.next g2 g → Sub All h g := fun st i cs w gr _ hg => st.sub i cs w gr (by have := AHeap.lt_of_get hg; omega) (hx2.sub _ _ _ _ trivial (hx1.sub _ _ _ _ trivial hg))
  have hF2 := Cells.mono hF (hall Keep.refl)
  have hb2 := Cells.mono hb (hall Keep.refl)
  have hg2 := hx2.get
  by_cases hab : nb = nf
  · subst hab
    simp only [rn0, rn1, rn2, rn3, rn4, rn5, rn6, rn7, rn8, if_true, if_false, Nat.le_refl, true_and, and_true, decide_true, decide_false, Bool.not_true, Bool.not_false, reduceIte, Nat.reduceEqDiff, Nat.reduceAdd, Nat.reduceMul, Nat.reduceSub, Nat.reduceLeDiff, Nat.reduceLT, hbx.ld, Nat.zero_add, List.getElem?_cons_zero, List.getElem?_cons_succ, Cells.len hF2, Cells.len hb2]
    refine W_loop nb (fun k f g m => (Keep g1.next g2 g ∧ g.get g1.next = some (.row (arr (upto k b)) true 0) ∧ g.next = g2.next + k) ∧ m = [] ∧ f 1 = vb ∧ f 4 = .pointer (some ⟨g1.next, 0, none⟩) ∧ f 18 = F ∧ f 19 = .int .i64 (nb : Int) ∧ f 20 = .int .i64 (k : Int) ∧ ∀ j, j < k → lo j ≤ b j ∧ b j ≤ hi j) (by simp; omega) ?_ ?_ ?_
    · simp only [rn0, rn1, rn2, rn3, rn4, rn5, rn6, rn7, rn8, if_true, if_false, Nat.le_refl, true_and, and_true, decide_true, decide_false, Bool.not_true, Bool.not_false, reduceIte, Nat.reduceEqDiff, Nat.reduceAdd, Nat.reduceMul, Nat.reduceSub, Nat.reduceLeDiff, Nat.reduceLT, Nat.not_lt_zero, false_implies, implies_true, Nat.add_zero]
      exact ⟨⟨Keep.refl, hg2⟩, rfl⟩
    · rintro k f g m hk ⟨⟨st, go, gn⟩, rfl, f1', f4, f18, f19, f20, hlt⟩
      have hk' : (k : Int) < (nb : Int) := by omega
      have hw : wrapF .i64 ((k : Int) + 1) = ((k + 1 : Nat) : Int) := by rw [wrap_in (by omega) (by omega)]; rfl
      have hfg := st.floor
      have hFg := Cells.mono hF (hall st)
      have hbg := Cells.mono hb (hall st)
      simp only [rn0, rn1, rn2, rn3, rn4, rn5, rn6, rn7, rn8, if_true, if_false, Nat.le_refl, true_and, and_true, decide_true, decide_false, Bool.not_true, Bool.not_false, reduceIte, Nat.reduceEqDiff, Nat.reduceAdd, Nat.reduceMul, Nat.reduceSub, Nat.reduceLeDiff, Nat.reduceLT, f1', f4, f18, f19, f20, hk', Cells.idx hFg hk, ranges_ld hFg hk]
      refine step_row (by omega) rfl rfl fun g' hg' => ?_
      simp only [rn0, rn1, rn2, rn3, rn4, rn5, rn6, rn7, rn8, if_true, if_false, Nat.le_refl, true_and, and_true, decide_true, decide_false, Bool.not_true, Bool.not_false, reduceIte, Nat.reduceEqDiff, Nat.reduceAdd, Nat.reduceMul, Nat.reduceSub, Nat.reduceLeDiff, Nat.reduceLT]
      refine step_store (vs := [.int .i64 (lo k), .int .i64 (hi k)]) rfl hg'.get (by have := hg'.floor; omega) (by have := hg'.next; omega) rfl rfl rfl (by simp) fun g3 hs => ?_
      have n3 : g3.next = g.next + 1 := by rw [hs.next, hg'.next]
      have k3 : Sub All g g3 := fun i cs w gr t hg => by rw [hs.old i (by have := AHeap.lt_of_get hg; omega)]; exact hg'.sub _ _ _ _ t hg
      have st3 : Keep g1.next g2 g3 := ⟨fun i cs w gr hi hg => k3 _ _ _ _ trivial (st.sub _ _ _ _ hi hg), by have := st.up; omega, by rw [hs.floor, hg'.floor, hfg]⟩
      have go3 := k3 _ _ _ _ trivial go
      have hbg := Cells.mono hbg k3
      have w3 := hs.row.ldN 0 2 (by simp [splice]) (by simp [splice])
      have w3' : loadAgg 2 g3 (.pointer (some ⟨g.next, 0, none⟩)) = some (.agg ⟨[.int .i64 (lo k), .int .i64 (hi k)]⟩) := by rw [w3]; simp [splice]
      simp only [rn0, rn1, rn2, rn3, rn4, rn5, rn6, rn7, rn8, if_true, if_false, Nat.le_refl, true_and, and_true, decide_true, decide_false, Bool.not_true, Bool.not_false, reduceIte, Nat.reduceEqDiff, Nat.reduceAdd, Nat.reduceMul, Nat.reduceSub, Nat.reduceLeDiff, Nat.reduceLT, f1', f4, f18, f19, f20]
      refine W_draw All ?_
      by_cases hkk : lo k ≤ b k ∧ b k ≤ hi k
      · simp only [rn0, rn1, rn2, rn3, rn4, rn5, rn6, rn7, rn8, if_true, if_false, Nat.le_refl, true_and, and_true, decide_true, decide_false, Bool.not_true, Bool.not_false, reduceIte, Nat.reduceEqDiff, Nat.reduceAdd, Nat.reduceMul, Nat.reduceSub, Nat.reduceLeDiff, Nat.reduceLT, f1', f4, f18, f19, f20, w3', Cells.idx hbg hk, Cells.ld hbg hk Nat.zero_lt_one, has_c (n := n) (h := g3) (by omega) (by omega), hkk, idxArr_p (l := 5) (k := k) (by omega), Nat.zero_add]
        refine step_store (vs := [.int .i64 (b k)]) rfl go3 (by have := st3.floor; omega) (by omega) rfl rfl rfl (by rw [arr_len]; omega) fun g4 hs4 => ?_
        simp only [rn0, rn1, rn2, rn3, rn4, rn5, rn6, rn7, rn8, if_true, if_false, Nat.le_refl, true_and, and_true, decide_true, decide_false, Bool.not_true, Bool.not_false, reduceIte, Nat.reduceEqDiff, Nat.reduceAdd, Nat.reduceMul, Nat.reduceSub, Nat.reduceLeDiff, Nat.reduceLT, f1', f4, f18, f19, f20, hw]
        refine ⟨⟨set_keep st3 hs4, ?_, by have := hs4.next; omega⟩, ?_⟩
        · have := hs4.get
          rw [splice_arr (by omega)] at this
          exact this
        · intro j hj
          by_cases e : j = k
          · subst e; exact hkk
          · exact hlt j (by omega)
      · have hR := hR0 fun h => hkk (h.2 k hk)
        simp only [rn0, rn1, rn2, rn3, rn4, rn5, rn6, rn7, rn8, if_true, if_false, Nat.le_refl, true_and, and_true, decide_true, decide_false, Bool.not_true, Bool.not_false, reduceIte, Nat.reduceEqDiff, Nat.reduceAdd, Nat.reduceMul, Nat.reduceSub, Nat.reduceLeDiff, Nat.reduceLT, f1', f4, f18, f19, f20, w3', Cells.idx hbg hk, Cells.ld hbg hk Nat.zero_lt_one, has_c (n := n) (h := g3) (by omega) (by omega), hkk, x_buildArr, build_zero]
        refine step_store (vs := arr (upto 0 b)) rfl go3 (by have := st3.floor; omega) (by omega) rfl arr_one arr_len (by rw [arr_len]; omega) fun g4 hs4 => ?_
        rw [splice_all (by rw [arr_len, arr_len])] at hs4
        simp only [rn0, rn1, rn2, rn3, rn4, rn5, rn6, rn7, rn8, if_true, if_false, Nat.le_refl, true_and, and_true, decide_true, decide_false, Bool.not_true, Bool.not_false, reduceIte, Nat.reduceEqDiff, Nat.reduceAdd, Nat.reduceMul, Nat.reduceSub, Nat.reduceLeDiff, Nat.reduceLT, f1', f4, f18, f19, f20, res_two, hs4.row.whole arr_len, hR]
    · rintro f g m ⟨⟨st, go, gn⟩, rfl, f1', f4, f18, f19, f20, hlt⟩
      have hR := hR1 ⟨rfl, hlt⟩
      have hgr : Row g g1.next (arr (upto nb b)) := ⟨_, _, go⟩
      have hw := hgr.whole arr_len
      simp only [rn0, rn1, rn2, rn3, rn4, rn5, rn6, rn7, rn8, if_true, if_false, Nat.le_refl, true_and, and_true, decide_true, decide_false, Bool.not_true, Bool.not_false, reduceIte, Nat.reduceEqDiff, Nat.reduceAdd, Nat.reduceMul, Nat.reduceSub, Nat.reduceLeDiff, Nat.reduceLT, f1', f4, f18, f19, f20, Int.lt_irrefl, hw]
      refine step_store (vs := arr (upto nb b)) rfl go (by have := st.floor; omega) (by omega) rfl arr_one arr_len (by rw [arr_len]; omega) fun g4 hs4 => ?_
      rw [splice_all rfl] at hs4
      simp only [rn0, rn1, rn2, rn3, rn4, rn5, rn6, rn7, rn8, if_true, if_false, Nat.le_refl, true_and, and_true, decide_true, decide_false, Bool.not_true, Bool.not_false, reduceIte, Nat.reduceEqDiff, Nat.reduceAdd, Nat.reduceMul, Nat.reduceSub, Nat.reduceLeDiff, Nat.reduceLT, f1', f4, f18, f19, f20, res_two, hs4.row.whole arr_len, hR]
  · have h1 : ¬ (nb : Int) = nf := by omega
    have hR := hR0 fun h => hab h.1
    simp only [rn0, rn1, rn2, rn3, rn4, rn5, rn6, rn7, rn8, if_true, if_false, Nat.le_refl, true_and, and_true, decide_true, decide_false, Bool.not_true, Bool.not_false, reduceIte, Nat.reduceEqDiff, Nat.reduceAdd, Nat.reduceMul, Nat.reduceSub, Nat.reduceLeDiff, Nat.reduceLT, hbx.ld, Nat.zero_add, List.getElem?_cons_zero, List.getElem?_cons_succ, Cells.len hF2, Cells.len hb2, h1, x_buildArr, build_zero]
    refine step_store (vs := arr (upto 0 b)) rfl hg2 (by omega) (by omega) rfl arr_one arr_len (by simp) fun g4 hs4 => ?_
    rw [splice_all (by rw [arr_len]; rfl)] at hs4
    simp only [rn0, rn1, rn2, rn3, rn4, rn5, rn6, rn7, rn8, if_true, if_false, Nat.le_refl, true_and, and_true, decide_true, decide_false, Bool.not_true, Bool.not_false, reduceIte, Nat.reduceEqDiff, Nat.reduceAdd, Nat.reduceMul, Nat.reduceSub, Nat.reduceLeDiff, Nat.reduceLT, res_two, hs4.row.whole arr_len, hR]
end Go.Vm.Vat

namespace Go.Vm.Vat
open Go.Proofs
set_option linter.unusedSimpArgs false
set_option linter.unusedVariables false
set_option maxRecDepth 10000
variable {n : Nat} {h : AHeap}

theorem blueN_congr {b c q : Nat → Int} : ∀ i, (∀ k, k < i → b k = c k) → blueN b q i = blueN c q i
  | 0, _ => rfl
  | i + 1, hc => by simp only [blueN]; rw [blueN_congr i fun k hk => hc k (by omega), hc i (by omega)]
theorem blueN_upto {b q : Nat → Int} {nf : Nat} : blueN (upto nf b) q nf = blueN b q nf := blueN_congr nf fun k hk => by simp [upto, hk]
/-- a list of n numbers of which the first k are there -/
def mix (n k : Nat) (a : Nat → Int) : List Value := (List.range n).map fun i => .int .i64 (if i < k then a i else 0)
theorem mix_len {n k : Nat} {a : Nat → Int} : (mix n k a).length = n := by simp [mix]
theorem mix_get {n k i : Nat} {a : Nat → Int} (hi : i < n) : (mix n k a)[i]? = some (.int .i64 (if i < k then a i else 0)) := by
  rw [mix, List.getElem?_map, List.getElem?_range hi]; rfl
theorem mix_one {n k : Nat} {a : Nat → Int} : allB oneCell (mix n k a) = true := by rw [allB_iff]; intro v hv; obtain ⟨i, _, rfl⟩ := List.mem_map.1 hv; rfl
theorem mix_splice {n k : Nat} {a : Nat → Int} (hk : k < n) : splice (mix n k a) k [.int .i64 (a k)] = mix n (k + 1) a := by
  apply List.ext_getElem?
  intro i
  by_cases hi : i < n
  · rw [mix_get hi]
    simp only [splice]
    by_cases h1 : i < k
    · rw [List.getElem?_append_left (by simp [mix_len]; omega), List.getElem?_take, if_pos h1, mix_get hi, if_pos h1, if_pos (by omega)]
    · rw [List.getElem?_append_right (by simp [mix_len]; omega)]
      have e : (List.take k (mix n k a)).length = k := by simp [mix_len]; omega
      rw [e]
      by_cases h2 : i = k
      · subst h2
        simp
      · rw [List.getElem?_append_right (by simp; omega), List.getElem?_drop]
        simp only [List.length_cons, List.length_nil]
        rw [show k + (0 + 1) + (i - k - (0 + 1)) = i by omega, mix_get hi, if_neg h1, if_neg (by omega)]
  · rw [List.getElem?_eq_none (by simp [splice, mix_len]; omega), List.getElem?_eq_none (by rw [mix_len]; omega)]
theorem repl_mix {n : Nat} {a : Nat → Int} : repl [.int .i64 0] n = mix n 0 a := by
  have : ∀ n, repl [(.int .i64 0 : Value)] n = List.replicate n (.int .i64 0) := by
    intro n
    induction n with
    | zero => rfl
    | succ n ih => simp [repl, ih, List.replicate_succ]
  rw [this, mix]
  apply List.ext_getElem?
  intro i
  by_cases hi : i < n
  · rw [List.getElem?_replicate, if_pos hi, List.getElem?_map, List.getElem?_range hi]; simp
  · rw [List.getElem?_eq_none (by simp; omega), List.getElem?_eq_none (by simp; omega)]
theorem make_ints {s : Nat} {z : List Value} {m : Nat} (hm : m ≤ 1000) : makeSl s 8 z h (.int .i64 (m : Int)) (.int .i64 (m : Int)) = newSlice h (repl z m) m m 0 := by
  show (bif Nat.ble m m && Nat.ble (m * 8) maxBytes && Nat.ble m maxBytes then newSlice h (repl z m) m m 0 else none) = _
  have e1 : Nat.ble m m = true := ble_iff.2 (Nat.le_refl _)
  have e2 : Nat.ble (m * 8) maxBytes = true := ble_iff.2 (by simp [maxBytes]; omega)
  have e3 : Nat.ble m maxBytes = true := ble_iff.2 (by simp [maxBytes]; omega)
  rw [e1, e2, e3]; rfl
theorem idxSl_p {k m c o : Nat} (hk : k < m) : indexSl 1 (.slice (some ⟨o, 0, none⟩) m c) (.int .i64 (k : Int)) = some (.pointer (some ⟨o, k, none⟩)) := by
  show placeAt ⟨o, 0, none⟩ (Int.ofNat k) m 1 = _
  unfold placeAt
  simp only [blt_iff.2 hk, cond_true, Nat.mul_one, Nat.zero_add]
theorem ex0 {x y : Value} : extractA 0 (.tuple ⟨[x, y]⟩) h = some (x, h) := id rfl
theorem ex1 {x y : Value} : extractA 1 (.tuple ⟨[x, y]⟩) h = some (y, h) := id rfl
theorem ret_tt {a b : Nat} {f : Fr} : resV f h [.tmp a, .tmp b] = some (.tuple ⟨[f a, f b]⟩) := id rfl

/-- what Play answers -/
def PlayR (h : AHeap) (Y : MY) (nb : Nat) (b : Nat → Int) (v : Value) (h' : AHeap) : Prop := Made h h' 50 ∧
      ((faultN Y ≠ 0 ∧ v = .tuple ⟨[nilS, .int .i64 (faultN Y)]⟩) ∨ (faultN Y = 0 ∧ ¬ AreB Y nb b ∧ v = .tuple ⟨[nilS, .int .i64 2]⟩) ∨
        (faultN Y = 0 ∧ AreB Y nb b ∧ ∃ l, v = .tuple ⟨[l, .int .i64 0]⟩ ∧ Ints h' l Y.nv fun k => blueN b (Y.q k) Y.nf))
theorem good_of {Y : MY} (hf : faultN Y = 0) : Good Y := by
  unfold faultN at hf
  by_cases h1 : SizesOk Y
  · rw [if_neg (by simpa using h1)] at hf
    by_cases h2 : FieldsOk Y ∧ VatsOk Y ∧ SampsOk Y
    · exact ⟨h1, h2.1, h2.2.1, h2.2.2⟩
    · rw [if_neg h2] at hf; cases hf
  · rw [if_pos h1] at hf; cases hf
def s25 : SCode := (.seq (.ops [⟨(some 2), none, .box (T 0)⟩, ⟨(some 4), none, .mov (.const (.slice none 0 0))⟩, ⟨(some 5), none, .mov (.const (.int .i64 (0)))⟩]) (.seq (.seq (.ops [⟨(some 12), none, .loadN 3 (T 2)⟩, ⟨(some 13), none, .call (.func 30) [(T 12)]⟩, ⟨(some 6), none, .mov (T 13)⟩]) (.seq (.ops [⟨(some 14), none, .mov (T 6)⟩, ⟨(some 15), none, .int2 .neq (T 14) (.const (.int .i64 (0)))⟩]) (.cond (T 15) (.seq (.ops [⟨(some 16), none, .mov (T 6)⟩, ⟨(some 4), none, .mov (.const (.slice none 0 0))⟩, ⟨(some 5), none, .mov (T 16)⟩]) .ret) .skip))) (.seq (.ops [⟨(some 17), none, .loadN 3 (T 2)⟩, ⟨(some 18), none, .build #[(0, 3), (3, 1)] [(.slice none 0 0), (.slice none 0 0), (.slice none 0 0), (.slice none 0 0)] [0] [(T 17)]⟩, ⟨(some 7), none, .alloc [(.slice none 0 0), (.slice none 0 0), (.slice none 0 0), (.slice none 0 0)]⟩, ⟨none, none, .store 4 (T 7) (T 18)⟩]) (.seq (.ops [⟨(some 20), none, .loadN 4 (T 7)⟩, ⟨(some 21), none, .mov (T 1)⟩, ⟨(some 22), none, .call (.func 76) [(T 20), (T 21)]⟩, ⟨(some 19), none, .mov (T 22)⟩, ⟨(some 23), none, .extract 0 (T 19)⟩, ⟨(some 24), none, .extract 1 (T 19)⟩, ⟨(some 8), none, .alloc [(.int .i64 (0)), (.int .i64 (0)), (.int .i64 (0)), (.int .i64 (0)), (.int .i64 (0))]⟩, ⟨none, none, .store 5 (T 8) (T 23)⟩, ⟨(some 9), none, .mov (T 24)⟩]) (.seq (.seq (.ops [⟨(some 25), none, .mov (T 9)⟩, ⟨(some 26), none, .not (T 25)⟩]) (.cond (T 26) (.seq (.ops [⟨(some 4), none, .mov (.const (.slice none 0 0))⟩, ⟨(some 5), none, .mov (.const (.int .i64 (2)))⟩]) .ret) .skip)) (.seq (.ops [⟨(some 27), none, .fieldAddr 0 (T 7)⟩, ⟨(some 28), none, .fieldAddr 1 (T 27)⟩, ⟨(some 29), none, .load1 (T 28)⟩, ⟨(some 30), none, .len (T 29)⟩, ⟨(some 31), none, .mkslice 1 8 [(.int .i64 (0))] (T 30) (T 30)⟩, ⟨(some 10), none, .mov (T 31)⟩]) (.seq (.seq (.ops [⟨(some 32), none, .fieldAddr 0 (T 7)⟩, ⟨(some 33), none, .fieldAddr 1 (T 32)⟩, ⟨(some 34), none, .load1 (T 33)⟩, ⟨(some 35), none, .len (T 34)⟩, ⟨(some 36), none, .mov (.const (.int .i64 (0)))⟩]) (.block 0 (.loop (.seq (.ops [⟨(some 37), none, .int2 .lss (T 36) (T 35)⟩]) (.seq (.cond (T 37) .skip (.exit 0)) (.seq (.block 1 (.seq (.ops [⟨(some 38), none, .mov (T 36)⟩, ⟨(some 11), none, .mov (T 38)⟩]) (.ops [⟨(some 39), none, .mov (T 10)⟩, ⟨(some 40), none, .mov (T 11)⟩, ⟨(some 41), none, .loadN 4 (T 7)⟩, ⟨(some 42), none, .loadN 5 (T 8)⟩, ⟨(some 43), none, .mov (T 11)⟩, ⟨(some 44), none, .call (.func 77) [(T 41), (T 42), (T 43)]⟩, ⟨(some 45), none, .idxSl 1 (T 39) (T 40)⟩, ⟨none, none, .store 1 (T 45) (T 44)⟩]))) (.ops [⟨(some 46), none, .int2 .add (T 36) (.const (.int .i64 (1)))⟩, ⟨(some 36), none, .mov (T 46)⟩]))))))) (.seq (.ops [⟨(some 47), none, .mov (T 10)⟩, ⟨(some 4), none, .mov (T 47)⟩, ⟨(some 5), none, .mov (.const (.int .i64 (0)))⟩]) .ret))))))))
theorem fok25 : FnOk Try.prog 25 48 s25 [.tmp 4, .tmp 5] := ⟨Try.f25, _, Try.func25, rfl, Try.ntmps25, by kernel_rfl, by kernel_rfl⟩
theorem play_c (hn : 10005 ≤ n) (hr : h.next + 200 < far) (hfl : h.floor ≤ h.next) {F V S vb : Value} {Y : MY} {nb : Nat} {b : Nat → Int} (hy : YardR h F V S Y) (hY : Thin Y) (hb : Ints h vb nb b) (hl : nb ≤ 30) :
    ∃ v h', call n (.func (.func 25) #[] #[]) [.agg ⟨[F, V, S]⟩, vb] h = some (v, h') ∧ PlayR h Y nb b v h' := by
  obtain ⟨n, rfl⟩ : ∃ p, n = p + 1 := ⟨n - 1, by omega⟩
  refine call_any0 fok25 rfl rfl (by simp) ?_
  simp only [s25, W_seq, W_ops]
  refine ops_box (cs := [F, V, S]) (by omega) rfl hy.one fun g1 hx1 => ?_
  have n1 := hx1.next
  have f1 := hx1.floor
  have hy1 := hy.mono hx1.sub
  have w1 := hx1.row.whole (n := 3) rfl
  have ec := checkYard_c (n := n) (h := g1) (by omega) (by omega) hy1 hY
  by_cases hf : faultN Y = 0
  case neg =>
    simp only [rn0, rn1, rn2, rn3, rn4, rn5, rn6, rn7, rn8, if_true, if_false, Nat.le_refl, true_and, and_true, decide_true, decide_false, Bool.not_true, Bool.not_false, reduceIte, Nat.reduceEqDiff, Nat.reduceAdd, Nat.reduceMul, Nat.reduceSub, Nat.reduceLeDiff, Nat.reduceLT, w1, ec, hf, ret_tt]
    exact ⟨⟨hx1.sub, by omega, by omega, f1⟩, .inl ⟨hf, rfl⟩⟩
  have hG := good_of hf
  obtain ⟨z1, z2, z3⟩ := hG.sz
  have ho4 : allB oneCell [F, V, S, .slice none 0 0] = true := by have := hy.one; simp [allB] at this ⊢; simp [this]; rfl
  simp only [rn0, rn1, rn2, rn3, rn4, rn5, rn6, rn7, rn8, if_true, if_false, Nat.le_refl, true_and, and_true, decide_true, decide_false, Bool.not_true, Bool.not_false, reduceIte, Nat.reduceEqDiff, Nat.reduceAdd, Nat.reduceMul, Nat.reduceSub, Nat.reduceLeDiff, Nat.reduceLT, w1, ec, hf, build_work]
  refine step_new (vs := [F, V, S, .slice none 0 0]) (by omega) (by omega) rfl (by simp only [rn0, rn1, rn2, rn3, rn4, rn5, rn6, rn7, rn8, if_true, if_false, Nat.le_refl, true_and, and_true, decide_true, decide_false, Bool.not_true, Bool.not_false, reduceIte, Nat.reduceEqDiff, Nat.reduceAdd, Nat.reduceMul, Nat.reduceSub, Nat.reduceLeDiff, Nat.reduceLT]; rfl) ho4 rfl rfl fun g2 hx2 => ?_
  have n2 := hx2.next
  have f2 := hx2.floor
  have hy2 := hy1.mono hx2.sub
  have hb2 := Cells.mono (Cells.mono hb hx1.sub) hx2.sub
  have w2 := hx2.row.whole (n := 4) rfl
  have hs2 : Sub All h g2 := hx1.sub.trans hx2.sub
  obtain ⟨t0, t1⟩ := toBlues_c (n := n) (h := g2) (by omega) (by omega) hy2.f ho4 hb2 hl z1
  by_cases hB : AreB Y nb b
  case neg =>
    have e := t0 fun h => hB ⟨h.1, fun k hk => h.2 k (by rw [← h.1]; exact hk)⟩
    simp only [rn0, rn1, rn2, rn3, rn4, rn5, rn6, rn7, rn8, if_true, if_false, Nat.le_refl, true_and, and_true, decide_true, decide_false, Bool.not_true, Bool.not_false, reduceIte, Nat.reduceEqDiff, Nat.reduceAdd, Nat.reduceMul, Nat.reduceSub, Nat.reduceLeDiff, Nat.reduceLT, w2, e, ex0, ex1]
    refine step_new (vs := arr (upto 0 b)) (by omega) (by omega) rfl (by simp only [rn0, rn1, rn2, rn3, rn4, rn5, rn6, rn7, rn8, if_true, if_false, Nat.le_refl, true_and, and_true, decide_true, decide_false, Bool.not_true, Bool.not_false, reduceIte, Nat.reduceEqDiff, Nat.reduceAdd, Nat.reduceMul, Nat.reduceSub, Nat.reduceLeDiff, Nat.reduceLT]; rfl) arr_one arr_len rfl fun g3 hx3 => ?_
    have n3 := hx3.next
    have f3 := hx3.floor
    simp only [rn0, rn1, rn2, rn3, rn4, rn5, rn6, rn7, rn8, if_true, if_false, Nat.le_refl, true_and, and_true, decide_true, decide_false, Bool.not_true, Bool.not_false, reduceIte, Nat.reduceEqDiff, Nat.reduceAdd, Nat.reduceMul, Nat.reduceSub, Nat.reduceLeDiff, Nat.reduceLT, ret_tt]
    exact ⟨⟨hs2.trans hx3.sub, by omega, by omega, by omega⟩, .inr (.inl ⟨hf, hB, rfl⟩)⟩
  have e := t1 ⟨hB.1, fun k hk => hB.2 k (by rw [hB.1]; exact hk)⟩
  simp only [rn0, rn1, rn2, rn3, rn4, rn5, rn6, rn7, rn8, if_true, if_false, Nat.le_refl, true_and, and_true, decide_true, decide_false, Bool.not_true, Bool.not_false, reduceIte, Nat.reduceEqDiff, Nat.reduceAdd, Nat.reduceMul, Nat.reduceSub, Nat.reduceLeDiff, Nat.reduceLT, w2, e, ex0, ex1]
  refine step_new (vs := arr (upto Y.nf b)) (by omega) (by omega) rfl (by simp only [rn0, rn1, rn2, rn3, rn4, rn5, rn6, rn7, rn8, if_true, if_false, Nat.le_refl, true_and, and_true, decide_true, decide_false, Bool.not_true, Bool.not_false, reduceIte, Nat.reduceEqDiff, Nat.reduceAdd, Nat.reduceMul, Nat.reduceSub, Nat.reduceLeDiff, Nat.reduceLT]; rfl) arr_one arr_len rfl fun g3 hx3 => ?_
  have n3 := hx3.next
  have f3 := hx3.floor
  have hy3 := hy2.mono hx3.sub
  have r2 := hx2.row.mono hx3.sub
  obtain ⟨rr, hrw, hq⟩ := hy3.v
  simp only [rn0, rn1, rn2, rn3, rn4, rn5, rn6, rn7, rn8, if_true, if_false, Nat.le_refl, true_and, and_true, decide_true, decide_false, Bool.not_true, Bool.not_false, reduceIte, Nat.reduceEqDiff, Nat.reduceAdd, Nat.reduceMul, Nat.reduceSub, Nat.reduceLeDiff, Nat.reduceLT, r2.ld, Nat.zero_add, List.getElem?_cons_zero, List.getElem?_cons_succ, Cells.len hrw, make_ints (m := Y.nv) (by omega), repl_mix (n := Y.nv) (a := fun k => blueN b (Y.q k) Y.nf)]
  refine step_slice (by omega) mix_one fun g4 hx4 => ?_
  have n4 := hx4.next
  have f4 := hx4.floor
  have hy4 := hy3.mono hx4.sub
  have r24 := r2.mono hx4.sub
  have r34 := hx3.row.mono hx4.sub
  simp only [rn0, rn1, rn2, rn3, rn4, rn5, rn6, rn7, rn8, if_true, if_false, Nat.le_refl, true_and, and_true, decide_true, decide_false, Bool.not_true, Bool.not_false, reduceIte, Nat.reduceEqDiff, Nat.reduceAdd, Nat.reduceMul, Nat.reduceSub, Nat.reduceLeDiff, Nat.reduceLT, r24.ld, Nat.zero_add, List.getElem?_cons_zero, List.getElem?_cons_succ, Cells.len (Cells.mono hrw hx4.sub)]
  refine W_loop Y.nv (fun k f g m => (Keep g3.next g4 g ∧ g.get g3.next = some (.row (mix Y.nv k fun k => blueN b (Y.q k) Y.nf) true 0) ∧ g.next = g4.next) ∧ m = [] ∧ f 7 = .pointer (some ⟨g1.next, 0, none⟩) ∧ f 8 = .pointer (some ⟨g2.next, 0, none⟩) ∧ f 10 = .slice (some ⟨g3.next, 0, none⟩) Y.nv Y.nv ∧ f 35 = .int .i64 (Y.nv : Int) ∧ f 36 = .int .i64 (k : Int)) (by simp; omega) ?_ ?_ ?_
  · simp only [rn0, rn1, rn2, rn3, rn4, rn5, rn6, rn7, rn8, if_true, if_false, Nat.le_refl, true_and, and_true, decide_true, decide_false, Bool.not_true, Bool.not_false, reduceIte, Nat.reduceEqDiff, Nat.reduceAdd, Nat.reduceMul, Nat.reduceSub, Nat.reduceLeDiff, Nat.reduceLT]
    exact ⟨⟨Keep.refl, hx4.get⟩, rfl⟩
  · rintro k f g m hk ⟨⟨st, go, gn⟩, rfl, f7, f8, f10, f35, f36⟩
    have hk' : (k : Int) < (Y.nv : Int) := by omega
    have hw : wrapF .i64 ((k : Int) + 1) = ((k + 1 : Nat) : Int) := by rw [wrap_in (by omega) (by omega)]; rfl
    have hfg := st.floor
    have s34 : Sub All g3 g := fun i cs w gr _ hg => st.sub _ _ _ _ (by have := AHeap.lt_of_get hg; omega) (hx4.sub _ _ _ _ trivial hg)
    have hyg := hy3.mono s34
    have q7 := (r2.mono s34).whole (n := 4) rfl
    have q8 := (hx3.row.mono s34).whole arr_len
    obtain ⟨v1, v2⟩ := hG.v k hk
    have ei := inVat_c (n := n) (h := g) (b := upto Y.nf b) (F := F) (S := S) (T := .slice none 0 0) (at_ := k) (by omega) (by omega) hyg.v ho4 hk v1 z1 (fun i hi => by simp only [upto, hi, if_true]; exact hB.range hG.f i (by rw [hB.1]; exact hi)) (fun i hi => v2 i (by rw [v1]; exact hi))
    rw [blueN_upto] at ei
    simp only [rn0, rn1, rn2, rn3, rn4, rn5, rn6, rn7, rn8, if_true, if_false, Nat.le_refl, true_and, and_true, decide_true, decide_false, Bool.not_true, Bool.not_false, reduceIte, Nat.reduceEqDiff, Nat.reduceAdd, Nat.reduceMul, Nat.reduceSub, Nat.reduceLeDiff, Nat.reduceLT, f7, f8, f10, f35, f36, hk', q7, q8, ei, idxSl_p hk]
    refine step_store (vs := [.int .i64 (blueN b (Y.q k) Y.nf)]) rfl go (by omega) (by omega) rfl rfl rfl (by rw [mix_len]; omega) fun g5 hs => ?_
    have h5 := hs.get
    rw [mix_splice (a := fun k => blueN b (Y.q k) Y.nf) hk] at h5
    simp only [rn0, rn1, rn2, rn3, rn4, rn5, rn6, rn7, rn8, if_true, if_false, Nat.le_refl, true_and, and_true, decide_true, decide_false, Bool.not_true, Bool.not_false, reduceIte, Nat.reduceEqDiff, Nat.reduceAdd, Nat.reduceMul, Nat.reduceSub, Nat.reduceLeDiff, Nat.reduceLT, f7, f8, f10, f35, f36, hw]
    exact ⟨set_keep st hs, h5, by rw [hs.next, gn]⟩
  · rintro f g m ⟨⟨st, go, gn⟩, rfl, f7, f8, f10, f35, f36⟩
    simp only [rn0, rn1, rn2, rn3, rn4, rn5, rn6, rn7, rn8, if_true, if_false, Nat.le_refl, true_and, and_true, decide_true, decide_false, Bool.not_true, Bool.not_false, reduceIte, Nat.reduceEqDiff, Nat.reduceAdd, Nat.reduceMul, Nat.reduceSub, Nat.reduceLeDiff, Nat.reduceLT, f7, f8, f10, f35, f36, Int.lt_irrefl, ret_tt]
    refine ⟨⟨fun i cs w gr _ hg => st.sub _ _ _ _ (by have := AHeap.lt_of_get hg; omega) (hx4.sub _ _ _ _ trivial (hx3.sub _ _ _ _ trivial (hs2 _ _ _ _ trivial hg))), by omega, by omega, by have := st.floor; omega⟩, .inr (.inr ⟨hf, hB, _, rfl, ?_⟩)⟩
    refine ⟨_, _, rfl, fun x e => by cases e; rfl, .inr ⟨_, 0, _, _, _, rfl, go, fun k j hk hj => ?_⟩⟩
    rw [show 0 + k * 1 + j = k by omega, mix_get hk, if_pos hk]
end Go.Vm.Vat
