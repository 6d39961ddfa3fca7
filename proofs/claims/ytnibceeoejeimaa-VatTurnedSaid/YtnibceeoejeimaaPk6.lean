/- Texts of the proofs of this seat, put together: VatBounds, VmEq2, VatBounds2, VatReady, VatEnds, VatEnds2, VatSIter, VatIter2, VatWrong, VatFirst, VatSpread, VatMore, VatSpread2, VatSpread3, VatBefore, VatLeave, VatSome, VatFirstL, VatShort, VatSpPure, VatSpPut, VatNeeds2, VatNeeds3, VatNeeded, VatNoBetter, VatCloser, VatLeftA, VatWiderP, VatWiderL, VatBounds3, VatBundleP, VatTurnedP. -/
import Derived.Test.YtnibceeoejeimaaPk5
import Derived.Laws.Entries

namespace Go.Vm.Vat
open Go.Proofs
set_option linter.unusedSimpArgs false
set_option linter.unusedVariables false
set_option maxRecDepth 10000
variable {n : Nat} {h : AHeap}
/-! ### Bounds in all truths -/
def maxN (x : Int) (a : Nat → Int) : Nat → Int
  | 0 => x
  | i + 1 => max (maxN x a i) (a i)
theorem map_splice {F F' : Nat → Value} {m off : Nat} {vs : List Value} (hl : off + vs.length ≤ m) (h1 : ∀ i, i < m → (i < off ∨ off + vs.length ≤ i) → F' i = F i) (h2 : ∀ j, j < vs.length → vs[j]? = some (F' (off + j))) :
    splice ((List.range m).map F) off vs = (List.range m).map F' := by
  apply List.ext_getElem?
  intro i
  have hlen : ((List.range m).map F).length = m := by simp
  simp only [splice]
  by_cases hi : i < m
  · rw [List.getElem?_map, List.getElem?_range hi]
    by_cases c1 : i < off
    · rw [List.getElem?_append_left (by simp [hlen]; omega), List.getElem?_take, if_pos c1, List.getElem?_map, List.getElem?_range hi]
      simp [h1 i hi (.inl c1)]
    · rw [List.getElem?_append_right (by simp [hlen]; omega)]
      have e : (List.take off ((List.range m).map F)).length = off := by simp [hlen]; omega
      rw [e]
      by_cases c2 : i < off + vs.length
      · rw [List.getElem?_append_left (by omega), h2 (i - off) (by omega)]
        simp [show off + (i - off) = i by omega]
      · rw [List.getElem?_append_right (by omega), List.getElem?_drop, show off + vs.length + (i - off - vs.length) = i by omega, List.getElem?_map, List.getElem?_range hi]
        simp [h1 i hi (.inr (by omega))]
  · rw [List.getElem?_eq_none (by simp; omega), List.getElem?_eq_none (by simp [hlen]; omega)]
theorem splice2 {a b c d : Value} : splice [a, b] 0 [c, d] = [c, d] := rfl
/-- so many ranges of which the first k are there -/
def mixR (k : Nat) (lo hi : Nat → Int) (i : Nat) : Value := .int .i64 (if i < 2 * k then (if i % 2 = 0 then lo (i / 2) else hi (i / 2)) else 0)
theorem mixR_one {m k : Nat} {lo hi : Nat → Int} : allB oneCell ((List.range m).map (mixR k lo hi)) = true := by rw [allB_iff]; intro v hv; obtain ⟨i, _, rfl⟩ := List.mem_map.1 hv; rfl
theorem mixR_splice {m k : Nat} {lo hi : Nat → Int} (hk : k < m) : splice ((List.range (2 * m)).map (mixR k lo hi)) (k * 2) [.int .i64 (lo k), .int .i64 (hi k)] = (List.range (2 * m)).map (mixR (k + 1) lo hi) := by
  refine map_splice (by simp; omega) (fun i hi hc => ?_) (fun j hj => ?_)
  · simp only [List.length_cons, List.length_nil] at hc
    simp only [mixR]
    congr 1
    by_cases c : i < 2 * k
    · rw [if_pos c, if_pos (by omega)]
    · rw [if_neg c, if_neg (by omega)]
  · simp only [List.length_cons, List.length_nil] at hj
    rcases j with _ | _ | j
    · simp only [mixR, Nat.add_zero, List.getElem?_cons_zero]
      rw [if_pos (by omega), if_pos (by omega), show k * 2 / 2 = k by omega]
    · simp only [mixR, List.getElem?_cons_succ, List.getElem?_cons_zero]
      rw [if_pos (by omega), if_neg (by omega), show (k * 2 + (0 + 1)) / 2 = k by omega]
    · omega
theorem repl_mixR {m : Nat} {lo hi : Nat → Int} : repl [.int .i64 0, .int .i64 0] m = (List.range (2 * m)).map (mixR 0 lo hi) := by
  have h0 : ∀ i, mixR 0 lo hi i = .int .i64 0 := fun i => by simp [mixR]
  have : ∀ m, repl [(.int .i64 0 : Value), .int .i64 0] m = List.replicate (2 * m) (.int .i64 0) := by
    intro m
    induction m with
    | zero => rfl
    | succ m ih => rw [repl, ih, show 2 * (m + 1) = 2 * m + 1 + 1 by omega, List.replicate_succ, List.replicate_succ]; rfl
  rw [this]
  apply List.ext_getElem?
  intro i
  by_cases hi : i < 2 * m
  · rw [List.getElem?_replicate, if_pos hi, List.getElem?_map, List.getElem?_range hi]; simp [h0]
  · rw [List.getElem?_eq_none (by simp; omega), List.getElem?_eq_none (by simp; omega)]
theorem make_ranges {z : List Value} {m : Nat} (hm : m ≤ 1000) : makeSl 2 16 z h (.int .i64 (m : Int)) (.int .i64 (m : Int)) = newSlice h (repl z m) m m 0 := by
  show (bif Nat.ble m m && Nat.ble (m * 16) maxBytes && Nat.ble m maxBytes then newSlice h (repl z m) m m 0 else none) = _
  have e1 : Nat.ble m m = true := ble_iff.2 (Nat.le_refl _)
  have e2 : Nat.ble (m * 16) maxBytes = true := ble_iff.2 (by simp [maxBytes]; omega)
  have e3 : Nat.ble m maxBytes = true := ble_iff.2 (by simp [maxBytes]; omega)
  rw [e1, e2, e3]; rfl
theorem idxSl_s {s k m c o : Nat} (hk : k < m) : indexSl s (.slice (some ⟨o, 0, none⟩) m c) (.int .i64 (k : Int)) = some (.pointer (some ⟨o, k * s, none⟩)) := by
  show placeAt ⟨o, 0, none⟩ (Int.ofNat k) m s = _
  unfold placeAt
  simp only [blt_iff.2 hk, cond_true, Nat.zero_add]
/-- the bounds of what is measured -/
def loN (val : (Nat → Int) → Int) (L : List (Nat → Int)) : Int := minN (val (L.getD 0 fun _ => 0)) (fun i => val (L.getD (i + 1) fun _ => 0)) (L.length - 1)
def hiN (val : (Nat → Int) → Int) (L : List (Nat → Int)) : Int := maxN (val (L.getD 0 fun _ => 0)) (fun i => val (L.getD (i + 1) fun _ => 0)) (L.length - 1)
theorem maxN_le {x : Int} {a : Nat → Int} {b : Int} : ∀ m, maxN x a m ≤ b ↔ x ≤ b ∧ ∀ i, i < m → a i ≤ b
  | 0 => by simp [maxN]
  | m + 1 => by
    simp only [maxN]
    rw [Int.max_le, maxN_le m]
    constructor
    · rintro ⟨⟨h1, h2⟩, h3⟩
      refine ⟨h1, fun i hi => ?_⟩
      by_cases e : i = m
      · subst e; exact h3
      · exact h2 i (by omega)
    · rintro ⟨h1, h2⟩
      exact ⟨⟨h1, fun i hi => h2 i (by omega)⟩, h2 m (by omega)⟩
theorem all_getD {L : List (Nat → Int)} (hL : L ≠ []) {p : (Nat → Int) → Prop} : (p (L.getD 0 fun _ => 0) ∧ ∀ i, i < L.length - 1 → p (L.getD (i + 1) fun _ => 0)) ↔ ∀ t, t ∈ L → p t := by
  have hpos : 0 < L.length := List.length_pos_iff.2 hL
  have hget : ∀ i, (hi : i < L.length) → L.getD i (fun _ => 0) = L[i] := fun i hi => by rw [List.getD_eq_getElem?_getD, List.getElem?_eq_getElem hi]; rfl
  constructor
  · rintro ⟨h1, h2⟩ t ht
    obtain ⟨i, hi, rfl⟩ := List.getElem_of_mem ht
    cases i with
    | zero => rw [← hget 0 hi]; exact h1
    | succ i => rw [← hget (i + 1) hi]; exact h2 i (by omega)
  · intro ht
    refine ⟨ht _ (by rw [hget 0 hpos]; exact List.getElem_mem hpos), fun i hi => ?_⟩
    have hi' : i + 1 < L.length := by omega
    exact ht _ (by rw [hget (i + 1) hi']; exact List.getElem_mem hi')
theorem le_loN {val : (Nat → Int) → Int} {L : List (Nat → Int)} (hL : L ≠ []) {b : Int} : b ≤ loN val L ↔ ∀ t, t ∈ L → b ≤ val t := by
  unfold loN; rw [le_minN]; exact all_getD hL (p := fun t => b ≤ val t)
theorem hiN_le {val : (Nat → Int) → Int} {L : List (Nat → Int)} (hL : L ≠ []) {b : Int} : hiN val L ≤ b ↔ ∀ t, t ∈ L → val t ≤ b := by
  unfold hiN; rw [maxN_le]; exact all_getD hL (p := fun t => val t ≤ b)
def s90 : SCode := (.seq (.ops [⟨(some 3), none, .box (T 0)⟩, ⟨(some 4), none, .box (T 1)⟩, ⟨(some 6), none, .mov (.const (.slice none 0 0))⟩]) (.seq (.ops [⟨(some 14), none, .mov (T 2)⟩, ⟨(some 15), none, .mkslice 2 16 [(.int .i64 (0)), (.int .i64 (0))] (T 14) (T 14)⟩, ⟨(some 7), none, .mov (T 15)⟩]) (.seq (.seq (.ops [⟨(some 16), none, .mov (T 2)⟩, ⟨(some 17), none, .mov (.const (.int .i64 (0)))⟩]) (.block 0 (.loop (.seq (.ops [⟨(some 18), none, .int2 .lss (T 17) (T 16)⟩]) (.seq (.cond (T 18) .skip (.exit 0)) (.seq (.block 1 (.seq (.ops [⟨(some 19), none, .mov (T 17)⟩, ⟨(some 8), none, .mov (T 19)⟩]) (.seq (.draw [⟨.free, ⟨(some 20), none, .fieldAddr 0 (T 3)⟩⟩, ⟨.rd1, ⟨(some 21), none, .load1 (T 20)⟩⟩, ⟨.rd1, ⟨(some 22), none, .loadN 4 (T 4)⟩⟩, ⟨.free, ⟨(some 23), none, .fieldAddr 3 (T 4)⟩⟩, ⟨.rd1, ⟨(some 24), none, .load1 (T 23)⟩⟩, ⟨.free, ⟨(some 25), none, .idxSl 5 (T 24) (.const (.int .i64 (0)))⟩⟩, ⟨.rd1, ⟨(some 26), none, .loadN 5 (T 25)⟩⟩, ⟨.free, ⟨(some 27), none, .mov (T 8)⟩⟩, ⟨.any, ⟨(some 28), none, .call (T 21) [(T 22), (T 26), (T 27)]⟩⟩, ⟨.free, ⟨(some 9), none, .mov (T 28)⟩⟩]) (.seq (.ops [⟨(some 29), none, .mov (T 9)⟩, ⟨(some 30), none, .mov (T 9)⟩, ⟨(some 31), none, .build #[(0, 1), (1, 1)] [(.int .i64 (0)), (.int .i64 (0))] [0, 1] [(T 29), (T 30)]⟩, ⟨(some 10), none, .alloc [(.int .i64 (0)), (.int .i64 (0))]⟩, ⟨none, none, .store 2 (T 10) (T 31)⟩]) (.seq (.seq (.ops [⟨(some 32), none, .fieldAddr 3 (T 4)⟩, ⟨(some 33), none, .load1 (T 32)⟩, ⟨(some 34), none, .slice 5 (T 33) (some (.const (.int .i64 (1)))) none none⟩, ⟨(some 35), none, .len (T 34)⟩, ⟨(some 36), none, .mov (.const (.int .i64 (0)))⟩]) (.block 2 (.loop (.seq (.ops [⟨(some 37), none, .int2 .lss (T 36) (T 35)⟩]) (.seq (.cond (T 37) .skip (.exit 2)) (.seq (.block 3 (.seq (.ops [⟨(some 38), none, .idxSl 5 (T 34) (T 36)⟩, ⟨(some 39), none, .loadN 5 (T 38)⟩, ⟨(some 12), none, .alloc [(.int .i64 (0)), (.int .i64 (0)), (.int .i64 (0)), (.int .i64 (0)), (.int .i64 (0))]⟩, ⟨none, none, .store 5 (T 12) (T 39)⟩]) (.seq (.ops [⟨(some 40), none, .fieldAddr 0 (T 3)⟩, ⟨(some 41), none, .load1 (T 40)⟩, ⟨(some 42), none, .loadN 4 (T 4)⟩, ⟨(some 43), none, .loadN 5 (T 12)⟩, ⟨(some 44), none, .mov (T 8)⟩, ⟨(some 45), none, .call (T 41) [(T 42), (T 43), (T 44)]⟩, ⟨(some 13), none, .mov (T 45)⟩]) (.draw [⟨.free, ⟨(some 46), none, .fieldAddr 0 (T 10)⟩⟩, ⟨.rd, ⟨(some 47), none, .load1 (T 46)⟩⟩, ⟨.free, ⟨(some 48), none, .mov (T 13)⟩⟩, ⟨.up, ⟨(some 49), none, .bslice 1 1 [(.int .i64 (0))] [0] [(T 48)]⟩⟩, ⟨.up, ⟨(some 50), none, .call (.func 94) [(T 47), (T 49)]⟩⟩, ⟨.free, ⟨(some 51), none, .fieldAddr 1 (T 10)⟩⟩, ⟨.rd, ⟨(some 52), none, .load1 (T 51)⟩⟩, ⟨.free, ⟨(some 53), none, .mov (T 13)⟩⟩, ⟨.free, ⟨(some 54), none, .plain (.call { callee := .builtin .max, args := #[(T 52), (T 53)], argTypes := #[3, 3] }) 3⟩⟩, ⟨.free, ⟨(some 55), none, .build #[(0, 1), (1, 1)] [(.int .i64 (0)), (.int .i64 (0))] [0, 1] [(T 50), (T 54)]⟩⟩, ⟨.any, ⟨none, none, .store 2 (T 10) (T 55)⟩⟩])))) (.ops [⟨(some 56), none, .int2 .add (T 36) (.const (.int .i64 (1)))⟩, ⟨(some 36), none, .mov (T 56)⟩]))))))) (.ops [⟨(some 57), none, .mov (T 7)⟩, ⟨(some 58), none, .mov (T 8)⟩, ⟨(some 59), none, .loadN 2 (T 10)⟩, ⟨(some 60), none, .idxSl 2 (T 57) (T 58)⟩, ⟨none, none, .store 2 (T 60) (T 59)⟩])))))) (.ops [⟨(some 61), none, .int2 .add (T 17) (.const (.int .i64 (1)))⟩, ⟨(some 17), none, .mov (T 61)⟩]))))))) (.seq (.ops [⟨(some 62), none, .mov (T 7)⟩, ⟨(some 6), none, .mov (T 62)⟩]) .ret))))
theorem fok90 : FnOk Try.prog 90 63 s90 [.tmp 6] := ⟨Try.f90, _, Try.func90, rfl, Try.ntmps90, by kernel_rfl, by kernel_rfl⟩
theorem bounds_c (hn : 10020 ≤ n) (hr : h.next + 200000 < far) (hfl : h.floor ≤ h.next) {F V S tv : Value} {L : List (Nat → Int)} {G m : Nat} {val : Nat → (Nat → Int) → Int} (ho4 : allB oneCell [F, V, S, tv] = true) (hL : L ≠ []) (hlen : L.length ≤ 2000) (htr : TruthsR h tv L) (hlong : Long tv) (hm : m ≤ 5)
    (hG : ∀ g, Sub All h g → g.next + 100 < far → ∀ k, k < m → ∀ t, t ∈ L → call (n - 1) (.func (.func G) #[] #[]) [.agg ⟨[F, V, S, tv]⟩, .agg ⟨arr t⟩, .int .i64 (k : Int)] g = some (.int .i64 (val k t), g)) :
    ∃ v h', call n (.func (.func 90) #[] #[]) [.agg ⟨[.func (.func G) #[] #[]]⟩, .agg ⟨[F, V, S, tv]⟩, .int .i64 (m : Int)] h = some (v, h') ∧ Ranges h' v m (fun k => loN (val k) L) (fun k => hiN (val k) L) ∧ Made h h' 100000 := by
  obtain ⟨n, rfl⟩ : ∃ p, n = p + 1 := ⟨n - 1, by omega⟩
  rw [Nat.add_sub_cancel] at hG
  have hpos : 0 < L.length := List.length_pos_iff.2 hL
  have hat : ∀ i, i < L.length → L.getD i (fun _ => 0) ∈ L := fun i hi => by rw [List.getD_eq_getElem?_getD, List.getElem?_eq_getElem hi]; exact List.getElem_mem hi
  refine call_any0 fok90 rfl rfl (by simp) ?_
  simp only [s90, W_seq, W_ops]
  refine ops_box (cs := [.func (.func G) #[] #[]]) (by omega) rfl rfl fun g1 hx1 => ?_
  refine ops_box (cs := [F, V, S, tv]) (by rw [hx1.next]; omega) rfl ho4 fun g2 hx2 => ?_
  have n1 := hx1.next
  have n2 := hx2.next
  have f1 := hx1.floor
  have f2 := hx2.floor
  simp only [rn0, rn1, rn2, rn3, rn4, rn5, rn6, rn7, rn8, if_true, if_false, Nat.le_refl, true_and, and_true, decide_true, decide_false, Bool.not_true, Bool.not_false, reduceIte, Nat.reduceEqDiff, Nat.reduceAdd, Nat.reduceMul, Nat.reduceSub, Nat.reduceLeDiff, Nat.reduceLT, make_ranges (m := m) (by omega), repl_mixR (m := m) (lo := fun k => loN (val k) L) (hi := fun k => hiN (val k) L)]
  refine step_slice (by omega) mixR_one fun g3 hx3 => ?_
  have n3 := hx3.next
  have f3 := hx3.floor
  have r1 := (hx1.row.mono hx2.sub).mono hx3.sub
  have r2 := hx2.row.mono hx3.sub
  have s3 : Sub All h g3 := hx1.sub.trans (hx2.sub.trans hx3.sub)
  have hro : g3.get g2.next = some (.row ((List.range (2 * m)).map (mixR 0 (fun k => loN (val k) L) (fun k => hiN (val k) L))) true 0) := hx3.get
  simp only [rn0, rn1, rn2, rn3, rn4, rn5, rn6, rn7, rn8, if_true, if_false, Nat.le_refl, true_and, and_true, decide_true, decide_false, Bool.not_true, Bool.not_false, reduceIte, Nat.reduceEqDiff, Nat.reduceAdd, Nat.reduceMul, Nat.reduceSub, Nat.reduceLeDiff, Nat.reduceLT]
  refine W_loop m (fun k f g ms => (Keep g2.next g3 g ∧ g.get g2.next = some (.row ((List.range (2 * m)).map (mixR k (fun k => loN (val k) L) (fun k => hiN (val k) L))) true 0) ∧ g.next ≤ g3.next + 5000 * k) ∧ ms = [] ∧ f 3 = .pointer (some ⟨h.next, 0, none⟩) ∧ f 4 = .pointer (some ⟨g1.next, 0, none⟩) ∧
    f 7 = .slice (some ⟨g2.next, 0, none⟩) m m ∧ f 16 = .int .i64 (m : Int) ∧ f 17 = .int .i64 (k : Int)) (by simp; omega) ?_ ?_ ?_
  · simp only [rn0, rn1, rn2, rn3, rn4, rn5, rn6, rn7, rn8, if_true, if_false, Nat.le_refl, true_and, and_true, decide_true, decide_false, Bool.not_true, Bool.not_false, reduceIte, Nat.reduceEqDiff, Nat.reduceAdd, Nat.reduceMul, Nat.reduceSub, Nat.reduceLeDiff, Nat.reduceLT]
    exact ⟨⟨Keep.refl, hro, by omega⟩, rfl⟩
  · rintro k f g ms hk ⟨⟨st, go, gn⟩, rfl, p3, p4, p7, p16, p17⟩
    have hk' : (k : Int) < (m : Int) := by omega
    have hw : wrapF .i64 ((k : Int) + 1) = ((k + 1 : Nat) : Int) := by rw [wrap_in (by omega) (by omega)]; rfl
    have hup := st.up
    have hfg := st.floor
    have sg : Sub All h g := fun i cs w gr t hg => st.sub _ _ _ _ (by have := AHeap.lt_of_get hg; omega) (s3 _ _ _ _ t hg)
    have r1g := r1.keep st (by omega)
    have r2g := r2.keep st (by omega)
    have htg : TruthsR g tv L := Cells.mono htr sg
    have i0 : indexSl 5 tv (.int .i64 0) = some (ptrO tv 5 0 0) := Cells.idx htg hpos
    have e0 := hG g sg (by omega) k hk _ (hat 0 hpos)
    simp only [rn0, rn1, rn2, rn3, rn4, rn5, rn6, rn7, rn8, if_true, if_false, Nat.le_refl, true_and, and_true, decide_true, decide_false, Bool.not_true, Bool.not_false, reduceIte, Nat.reduceEqDiff, Nat.reduceAdd, Nat.reduceMul, Nat.reduceSub, Nat.reduceLeDiff, Nat.reduceLT, p3, p4, p7, p16, p17, hk']
    refine W_draw All ?_
    simp only [rn0, rn1, rn2, rn3, rn4, rn5, rn6, rn7, rn8, if_true, if_false, Nat.le_refl, true_and, and_true, decide_true, decide_false, Bool.not_true, Bool.not_false, reduceIte, Nat.reduceEqDiff, Nat.reduceAdd, Nat.reduceMul, Nat.reduceSub, Nat.reduceLeDiff, Nat.reduceLT, p3, p4, p7, p16, p17, r1g.ld, r2g.whole (n := 4) rfl, r2g.ld, Nat.zero_add, List.getElem?_cons_zero, List.getElem?_cons_succ, i0, truths_ld htg hpos, e0, build_range]
    generalize hv0 : val k (L.getD 0 fun _ => 0) = v0
    refine step_new (vs := [.int .i64 v0, .int .i64 v0]) (by omega) (by omega) rfl (by simp only [rn0, rn1, rn2, rn3, rn4, rn5, rn6, rn7, rn8, if_true, if_false, Nat.le_refl, true_and, and_true, decide_true, decide_false, Bool.not_true, Bool.not_false, reduceIte, Nat.reduceEqDiff, Nat.reduceAdd, Nat.reduceMul, Nat.reduceSub, Nat.reduceLeDiff, Nat.reduceLT]; rfl) rfl rfl rfl fun g4 hx4 => ?_
    have n4 := hx4.next
    have f4 := hx4.floor
    have r2g4 := r2g.mono hx4.sub
    obtain ⟨tl, g5, et, _, s5, u5, b5, f5, o5, htl⟩ := tail_c (Cells.mono htg hx4.sub) hpos hlong (by omega)
    have ht5 := htl g5 (Cells.mono (Cells.mono htg hx4.sub) s5)
    simp only [rn0, rn1, rn2, rn3, rn4, rn5, rn6, rn7, rn8, if_true, if_false, Nat.le_refl, true_and, and_true, decide_true, decide_false, Bool.not_true, Bool.not_false, reduceIte, Nat.reduceEqDiff, Nat.reduceAdd, Nat.reduceMul, Nat.reduceSub, Nat.reduceLeDiff, Nat.reduceLT, p3, p4, p7, p16, p17, r2g4.ld, Nat.zero_add, List.getElem?_cons_zero, List.getElem?_cons_succ, Option.isSome_none, Option.map_some, Option.map_none, et, Cells.len ht5]
    have r10 : g5.get g.next = some (.row [.int .i64 v0, .int .i64 v0] true 0) := s5 _ _ _ _ trivial hx4.get
    refine W_loop (L.length - 1) (fun i f g' ms => (Keep g.next g5 g' ∧ g'.get g.next = some (.row [.int .i64 (minN v0 (fun i => val k (L.getD (i + 1) fun _ => 0)) i), .int .i64 (maxN v0 (fun i => val k (L.getD (i + 1) fun _ => 0)) i)] true 0) ∧ g'.next ≤ g5.next + 2 * i) ∧ ms = [] ∧
      f 3 = .pointer (some ⟨h.next, 0, none⟩) ∧ f 4 = .pointer (some ⟨g1.next, 0, none⟩) ∧ f 7 = .slice (some ⟨g2.next, 0, none⟩) m m ∧ f 16 = .int .i64 (m : Int) ∧ f 17 = .int .i64 (k : Int) ∧ f 8 = .int .i64 (k : Int) ∧ f 10 = .pointer (some ⟨g.next, 0, none⟩) ∧
      f 34 = tl ∧ f 35 = .int .i64 ((L.length - 1 : Nat) : Int) ∧ f 36 = .int .i64 (i : Int)) (by simp; omega) ?_ ?_ ?_
    · simp only [rn0, rn1, rn2, rn3, rn4, rn5, rn6, rn7, rn8, if_true, if_false, Nat.le_refl, true_and, and_true, decide_true, decide_false, Bool.not_true, Bool.not_false, reduceIte, Nat.reduceEqDiff, Nat.reduceAdd, Nat.reduceMul, Nat.reduceSub, Nat.reduceLeDiff, Nat.reduceLT, p3, p4, p7, p16, p17]
      exact ⟨⟨Keep.refl, r10, by omega⟩, rfl⟩
    · rintro i f g' ms hi ⟨⟨kin, gi, gin⟩, rfl, p3, p4, p7, p16, p17, p8, p10, p34, p35, p36⟩
      have hi' : (i : Int) < ((L.length - 1 : Nat) : Int) := by omega
      have hwi : wrapF .i64 ((i : Int) + 1) = ((i + 1 : Nat) : Int) := by rw [wrap_in (by omega) (by omega)]; rfl
      have kup := kin.up
      have kfl := kin.floor
      have sg5 : Sub All h g5 := sg.trans (hx4.sub.trans s5)
      have sg' : Sub All h g' := fun j cs w gr t hg => kin.sub _ _ _ _ (by have := AHeap.lt_of_get hg; omega) (sg5 _ _ _ _ t hg)
      have ht' := htl g' (Cells.mono htr sg')
      have hld : loadAgg 5 g' (ptrO tl 5 i 0) = some (.agg ⟨arr (L.getD (i + 1) fun _ => 0)⟩) := by
        rw [Cells.ldN ht' hi (by omega) (by omega)]; simp [arr, List.range_succ]
      have r1' := ((r1g.mono hx4.sub).mono s5).keep kin (by omega)
      have r2' := ((r2g.mono hx4.sub).mono s5).keep kin (by omega)
      simp only [rn0, rn1, rn2, rn3, rn4, rn5, rn6, rn7, rn8, if_true, if_false, Nat.le_refl, true_and, and_true, decide_true, decide_false, Bool.not_true, Bool.not_false, reduceIte, Nat.reduceEqDiff, Nat.reduceAdd, Nat.reduceMul, Nat.reduceSub, Nat.reduceLeDiff, Nat.reduceLT, p3, p4, p7, p8, p10, p16, p17, p34, p35, p36, hi', Cells.idx ht' hi, hld]
      refine step_new (vs := arr (L.getD (i + 1) fun _ => 0)) (by omega) (by omega) rfl (by simp only [rn0, rn1, rn2, rn3, rn4, rn5, rn6, rn7, rn8, if_true, if_false, Nat.le_refl, true_and, and_true, decide_true, decide_false, Bool.not_true, Bool.not_false, reduceIte, Nat.reduceEqDiff, Nat.reduceAdd, Nat.reduceMul, Nat.reduceSub, Nat.reduceLeDiff, Nat.reduceLT]; rfl) arr_one arr_len rfl fun g6 hx6 => ?_
      have n6 := hx6.next
      have f6 := hx6.floor
      have e6 := hG g6 (sg'.trans hx6.sub) (by omega) k hk _ (hat (i + 1) (by omega))
      have r16 := r1'.mono hx6.sub
      have r26 := r2'.mono hx6.sub
      have r106 : Row g6 g.next _ := ⟨_, _, hx6.sub _ _ _ _ trivial gi⟩
      simp only [rn0, rn1, rn2, rn3, rn4, rn5, rn6, rn7, rn8, if_true, if_false, Nat.le_refl, true_and, and_true, decide_true, decide_false, Bool.not_true, Bool.not_false, reduceIte, Nat.reduceEqDiff, Nat.reduceAdd, Nat.reduceMul, Nat.reduceSub, Nat.reduceLeDiff, Nat.reduceLT, p3, p4, p7, p8, p10, p16, p17, p34, p35, p36, r16.ld, r26.whole (n := 4) rfl, hx6.row.whole arr_len, Nat.zero_add, List.getElem?_cons_zero, List.getElem?_cons_succ, e6]
      refine W_draw All ?_
      simp only [rn0, rn1, rn2, rn3, rn4, rn5, rn6, rn7, rn8, if_true, if_false, Nat.le_refl, true_and, and_true, decide_true, decide_false, Bool.not_true, Bool.not_false, reduceIte, Nat.reduceEqDiff, Nat.reduceAdd, Nat.reduceMul, Nat.reduceSub, Nat.reduceLeDiff, Nat.reduceLT, p3, p4, p7, p8, p10, p16, p17, p34, p35, p36, r106.ld, Nat.zero_add, List.getElem?_cons_zero, List.getElem?_cons_succ, sl_int]
      generalize hv1 : val k (L.getD (i + 1) fun _ => 0) = v1
      refine up_slice (by omega) rfl (fun g7 hx => hx.sub) fun g7 hx7 => ?_
      have n7 := hx7.next
      have f7 := hx7.floor
      have hone : Ints g7 (.slice (some ⟨g6.next, 0, none⟩) 1 1) 1 (fun _ => v1) := ⟨_, _, rfl, fun x e => by cases e; rfl, .inr ⟨_, 0, _, _, _, rfl, hx7.get, fun i j hi hj => by
        have hi : i = 0 := by omega
        have hj : j = 0 := by omega
        subst hi hj; rfl⟩⟩
      have em := minimum_c (n := n) (h := g7) (m := 1) (by omega) (by omega) hone (minN v0 (fun i => val k (L.getD (i + 1) fun _ => 0)) i)
      have hmin : minN (minN v0 (fun i => val k (L.getD (i + 1) fun _ => 0)) i) (fun _ => v1) 1 = minN v0 (fun i => val k (L.getD (i + 1) fun _ => 0)) (i + 1) := by simp only [minN, hv1]
      have hmax : max (maxN v0 (fun i => val k (L.getD (i + 1) fun _ => 0)) i) v1 = maxN v0 (fun i => val k (L.getD (i + 1) fun _ => 0)) (i + 1) := by simp only [maxN, hv1]
      rw [hmin] at em
      simp only [rn0, rn1, rn2, rn3, rn4, rn5, rn6, rn7, rn8, if_true, if_false, Nat.le_refl, true_and, and_true, decide_true, decide_false, Bool.not_true, Bool.not_false, reduceIte, Nat.reduceEqDiff, Nat.reduceAdd, Nat.reduceMul, Nat.reduceSub, Nat.reduceLeDiff, Nat.reduceLT, p3, p4, p7, p8, p10, p16, p17, p34, p35, p36, em, r106.ld, Nat.zero_add, List.getElem?_cons_zero, List.getElem?_cons_succ, valN_tmp, Nat.reduceLT, hmax, build_range]
      refine ⟨hx7.sub, ?_⟩
      refine up_store (b := g.next) (off := 0) (vs := [.int .i64 (minN v0 (fun i => val k (L.getD (i + 1) fun _ => 0)) (i + 1)), .int .i64 (maxN v0 (fun i => val k (L.getD (i + 1) fun _ => 0)) (i + 1))]) rfl (hx7.sub _ _ _ _ trivial (hx6.sub _ _ _ _ trivial gi)) (by omega) (by omega) rfl rfl rfl (by simp) (fun _ _ => trivial) fun g8 hs8 => ?_
      rw [splice2] at hs8
      have n8 := hs8.next
      have f8 := hs8.floor
      simp only [rn0, rn1, rn2, rn3, rn4, rn5, rn6, rn7, rn8, if_true, if_false, Nat.le_refl, true_and, and_true, decide_true, decide_false, Bool.not_true, Bool.not_false, reduceIte, Nat.reduceEqDiff, Nat.reduceAdd, Nat.reduceMul, Nat.reduceSub, Nat.reduceLeDiff, Nat.reduceLT, p3, p4, p7, p8, p10, p16, p17, p34, p35, p36, hwi]
      exact ⟨(kin.trans ⟨fun j cs w gr hj hg => hx7.sub _ _ _ _ trivial (hx6.sub _ _ _ _ trivial hg), by omega, by omega⟩).trans hs8.keep, hs8.get, by omega⟩
    · rintro f g' ms ⟨⟨kin, gi, gin⟩, rfl, p3, p4, p7, p16, p17, p8, p10, p34, p35, p36⟩
      have kup := kin.up
      have kfl := kin.floor
      have w10 := (show Row g' g.next _ from ⟨_, _, gi⟩).whole (n := 2) rfl
      have hlo : minN v0 (fun i => val k (L.getD (i + 1) fun _ => 0)) (L.length - 1) = loN (val k) L := by unfold loN; rw [hv0]
      have hhi : maxN v0 (fun i => val k (L.getD (i + 1) fun _ => 0)) (L.length - 1) = hiN (val k) L := by unfold hiN; rw [hv0]
      rw [hlo, hhi] at w10
      have go' : g'.get g2.next = some (.row ((List.range (2 * m)).map (mixR k (fun k => loN (val k) L) (fun k => hiN (val k) L))) true 0) := kin.sub _ _ _ _ (by omega) (s5 _ _ _ _ trivial (hx4.sub _ _ _ _ trivial go))
      simp only [rn0, rn1, rn2, rn3, rn4, rn5, rn6, rn7, rn8, if_true, if_false, Nat.le_refl, true_and, and_true, decide_true, decide_false, Bool.not_true, Bool.not_false, reduceIte, Nat.reduceEqDiff, Nat.reduceAdd, Nat.reduceMul, Nat.reduceSub, Nat.reduceLeDiff, Nat.reduceLT, p3, p4, p7, p8, p10, p16, p17, p34, p35, p36, Int.lt_irrefl, w10, idxSl_s hk]
      refine step_store (b := g2.next) (off := k * 2) (vs := [.int .i64 (loN (val k) L), .int .i64 (hiN (val k) L)]) rfl go' (by omega) (by omega) rfl rfl rfl (by simp; omega) fun g8 hs8 => ?_
      have h8 := hs8.get
      rw [mixR_splice (lo := fun k => loN (val k) L) (hi := fun k => hiN (val k) L) hk] at h8
      have n8 := hs8.next
      have f8 := hs8.floor
      simp only [rn0, rn1, rn2, rn3, rn4, rn5, rn6, rn7, rn8, if_true, if_false, Nat.le_refl, true_and, and_true, decide_true, decide_false, Bool.not_true, Bool.not_false, reduceIte, Nat.reduceEqDiff, Nat.reduceAdd, Nat.reduceMul, Nat.reduceSub, Nat.reduceLeDiff, Nat.reduceLT, p3, p4, p7, p8, p10, p16, p17, p34, p35, p36, hw]
      refine ⟨⟨fun j cs w gr hj hg => ?_, by omega, by omega⟩, h8, by omega⟩
      have hlt := AHeap.lt_of_get hg
      rw [hs8.old j hj]
      exact kin.sub _ _ _ _ (by omega) (s5 _ _ _ _ trivial (hx4.sub _ _ _ _ trivial (st.sub _ _ _ _ hj hg)))
  · rintro f g ms ⟨⟨st, go, gn⟩, rfl, p3, p4, p7, p16, p17⟩
    have hup := st.up
    have hfg := st.floor
    simp only [rn0, rn1, rn2, rn3, rn4, rn5, rn6, rn7, rn8, if_true, if_false, Nat.le_refl, true_and, and_true, decide_true, decide_false, Bool.not_true, Bool.not_false, reduceIte, Nat.reduceEqDiff, Nat.reduceAdd, Nat.reduceMul, Nat.reduceSub, Nat.reduceLeDiff, Nat.reduceLT, p3, p4, p7, p16, p17, Int.lt_irrefl]
    refine ⟨⟨_, _, rfl, fun x e => by cases e; rfl, ?_⟩, ⟨fun i cs w gr t hg => st.sub _ _ _ _ (by have := AHeap.lt_of_get hg; omega) (s3 _ _ _ _ t hg), by omega, by omega, by omega⟩⟩
    refine .inr ⟨_, 0, _, _, _, rfl, go, fun k j hk hj => ?_⟩
    rw [Nat.zero_add, List.getElem?_map, List.getElem?_range (by omega)]
    simp only [Option.map_some, mixR]
    rw [if_pos (by omega)]
    rcases j with _ | _ | j
    · rw [if_pos (by omega), show (k * 2 + 0) / 2 = k by omega]; rfl
    · rw [if_neg (by omega), show (k * 2 + (0 + 1)) / 2 = k by omega]; rfl
    · omega
end Go.Vm.Vat

namespace Go.Vm
variable {P : Program} {N : Nat} {f : Fr} {h : AHeap} {ty t u e : TypeId} {x y : Operand}
/-! ### Structs of two integers, compared -/
theorem pr_eqTwo {d : Nat} {f0 f1 : Field} {a0 a1 b0 b1 : Int} (ht : P.underlying t = some (.struct #[f0, f1])) (hp : P.stoodInHeld t = false) (n0 : f0.name ≠ "_") (n1 : f1.name ≠ "_") (o0 : f0.offset = 0) (o1 : f1.offset = 1)
    (e0 : P.underlying f0.type = some (.int .i64)) (e1 : P.underlying f1.type = some (.int .i64)) :
    pureRun P (Op.equalIn (d + 2) t (.agg ⟨[.int .i64 a0, .int .i64 a1]⟩) (.agg ⟨[.int .i64 b0, .int .i64 b1]⟩)) = some (decide (a0 = b0 ∧ a1 = b1)) := by
  have x0 : ∀ (p q : Int), pureRun P (part f0.type ⟨[.int .i64 p, .int .i64 q]⟩ f0.offset) = some (.int .i64 p) := fun p q => pr_part e0 (by rw [o0]; rfl)
  have x1 : ∀ (p q : Int), pureRun P (part f1.type ⟨[.int .i64 p, .int .i64 q]⟩ f1.offset) = some (.int .i64 q) := fun p q => pr_part e1 (by rw [o1]; rfl)
  rw [Op.equalIn]
  simp only [pureRun_bind, pr_under ht, Option.bind_some, pr_program, hp, Bool.false_eq_true, if_false]
  rw [← Array.forIn_toList]
  simp only [List.forIn_cons, List.forIn_nil, pureRun_bind, n0, n1, ne_eq, not_false_eq_true, if_true, x0, pr_eqInt e0, Option.bind_some]
  by_cases c0 : a0 = b0 <;> by_cases c1 : a1 = b1 <;> simp [c0, c1, pr_pure, pureRun_bind, x1, pr_eqInt e1]
theorem plainF_neqTwo {f0 f1 : Field} {a0 a1 b0 b1 : Int} (hx : valN N f x = .agg ⟨[.int .i64 a0, .int .i64 a1]⟩) (hy : valN N f y = .agg ⟨[.int .i64 b0, .int .i64 b1]⟩) (hg : P.eqGuardType P.depth t = false)
    (ht : P.underlying t = some (.struct #[f0, f1])) (hp : P.stoodInHeld t = false) (n0 : f0.name ≠ "_") (n1 : f1.name ≠ "_") (o0 : f0.offset = 0) (o1 : f1.offset = 1)
    (e0 : P.underlying f0.type = some (.int .i64)) (e1 : P.underlying f1.type = some (.int .i64)) :
    plainF P N (.binOp .neq t x y u) ty f h = some (.bool (!(decide (a0 = b0 ∧ a1 = b1))), h) := by
  unfold plainF
  have : allB (fun x => plainV (valN N f x)) (Op.binOp .neq t x y u).operands.toList = true := by simp [Op.operands, allB, hx, hy, plainV, plainE, plainCell]
  rw [this]
  have e : pureRun P (execOp (valN N f) (bare (.binOp .neq t x y u) ty)) = some (.value (.bool (!(decide (a0 = b0 ∧ a1 = b1))))) := by
    simp only [execOp, bare, hx, hy, pureRun_bind, pr_guard hg, Option.bind_some, binOp, Op.equal, Op.maxDepth, pr_eqTwo ht hp n0 n1 o0 o1 e0 e1, pr_pure]
  rw [e]
  rfl
theorem binA_neqAgg {op : Op} {l r : Array Value} : binA P N .neq op ty (.agg l) (.agg r) f h = plainF P N op ty f h := id rfl
end Go.Vm

namespace Go.Vm.Vat
open Go.Proofs
set_option linter.unusedSimpArgs false
set_option linter.unusedVariables false
set_option maxRecDepth 10000
variable {n : Nat} {h : AHeap}
theorem build_fn {G : Nat} : buildA (fun x => (#[(0, 1)] : Array (Nat × Nat))[x]?) ⟨[.nilFunc]⟩ [0] h [.func (.func G) #[] #[]] = some (.agg ⟨[.func (.func G) #[] #[]]⟩, h) := id rfl
/-- what Bounds and Fields answer -/
def RangesR (h : AHeap) (Y : MY) (m : Nat) (val : Nat → (Nat → Int) → Int) (v : Value) (h' : AHeap) : Prop := Made h h' 400000 ∧
  ((faultN Y ≠ 0 ∧ v = .tuple ⟨[nilS, .int .i64 (faultN Y)]⟩) ∨ (faultN Y = 0 ∧ truths Y = [] ∧ v = .tuple ⟨[nilS, .int .i64 11]⟩) ∨
    (faultN Y = 0 ∧ truths Y ≠ [] ∧ ∃ l, v = .tuple ⟨[l, .int .i64 0]⟩ ∧ Ranges h' l m (fun k => loN (val k) (truths Y)) (fun k => hiN (val k) (truths Y))))
def s34 : SCode := (.seq (.ops [⟨(some 1), none, .box (T 0)⟩, ⟨(some 2), none, .mov (.const (.slice none 0 0))⟩, ⟨(some 3), none, .mov (.const (.int .i64 (0)))⟩]) (.seq (.ops [⟨(some 7), none, .loadN 3 (T 1)⟩, ⟨(some 8), none, .call (.func 89) [(T 7)]⟩, ⟨(some 6), none, .mov (T 8)⟩, ⟨(some 9), none, .extract 0 (T 6)⟩, ⟨(some 10), none, .extract 1 (T 6)⟩, ⟨(some 4), none, .alloc [(.slice none 0 0), (.slice none 0 0), (.slice none 0 0), (.slice none 0 0)]⟩, ⟨none, none, .store 4 (T 4) (T 9)⟩, ⟨(some 5), none, .mov (T 10)⟩]) (.seq (.seq (.ops [⟨(some 11), none, .mov (T 5)⟩, ⟨(some 12), none, .int2 .neq (T 11) (.const (.int .i64 (0)))⟩]) (.cond (T 12) (.seq (.ops [⟨(some 13), none, .mov (T 5)⟩, ⟨(some 2), none, .mov (.const (.slice none 0 0))⟩, ⟨(some 3), none, .mov (T 13)⟩]) .ret) .skip)) (.seq (.ops [⟨(some 14), none, .build #[(0, 1)] [.nilFunc] [0] [(.func 77)]⟩, ⟨(some 15), none, .loadN 4 (T 4)⟩, ⟨(some 16), none, .fieldAddr 0 (T 4)⟩, ⟨(some 17), none, .fieldAddr 1 (T 16)⟩, ⟨(some 18), none, .load1 (T 17)⟩, ⟨(some 19), none, .len (T 18)⟩, ⟨(some 20), none, .call (.func 90) [(T 14), (T 15), (T 19)]⟩, ⟨(some 2), none, .mov (T 20)⟩, ⟨(some 3), none, .mov (.const (.int .i64 (0)))⟩]) .ret))))
theorem fok34 : FnOk Try.prog 34 21 s34 [.tmp 2, .tmp 3] := ⟨Try.f34, _, Try.func34, rfl, Try.ntmps34, by kernel_rfl, by kernel_rfl⟩
theorem boundsV_c (hn : 10060 ≤ n) (hr : h.next + 900000 < far) (hfl : h.floor ≤ h.next) {F V S : Value} {Y : MY} (hy : YardR h F V S Y) (hY : Thin Y) :
    ∃ v h', call n (.func (.func 34) #[] #[]) [.agg ⟨[F, V, S]⟩] h = some (v, h') ∧ RangesR h Y Y.nv (fun k t => blueN t (Y.q k) Y.nf) v h' := by
  obtain ⟨n, rfl⟩ : ∃ p, n = p + 1 := ⟨n - 1, by omega⟩
  refine call_any0 fok34 rfl rfl (by simp) ?_
  simp only [s34, W_seq, W_ops]
  refine ops_box (cs := [F, V, S]) (by omega) rfl hy.one fun g1 hx1 => ?_
  have n1 := hx1.next
  have f1 := hx1.floor
  have w1 := hx1.row.whole (n := 3) rfl
  obtain ⟨v, g2, eo, hm, ho⟩ := openTrue_c (n := n) (h := g1) (by omega) (by omega) (by omega) (hy.mono hx1.sub) hY
  have n2 := hm.next
  have u2 := hm.up
  have f2 := hm.floor
  rcases ho with ⟨hf, rfl⟩ | ⟨hf, he, rfl⟩ | ⟨hf, he, tv, rfl, htr, hlong⟩
  · simp only [rn0, rn1, rn2, rn3, rn4, rn5, rn6, rn7, rn8, if_true, if_false, Nat.le_refl, true_and, and_true, decide_true, decide_false, Bool.not_true, Bool.not_false, reduceIte, Nat.reduceEqDiff, Nat.reduceAdd, Nat.reduceMul, Nat.reduceSub, Nat.reduceLeDiff, Nat.reduceLT, w1, eo, ex0, ex1]
    refine step_new (vs := [nilS, nilS, nilS, nilS]) (by omega) (by omega) rfl (by simp only [rn0, rn1, rn2, rn3, rn4, rn5, rn6, rn7, rn8, if_true, if_false, Nat.le_refl, true_and, and_true, decide_true, decide_false, Bool.not_true, Bool.not_false, reduceIte, Nat.reduceEqDiff, Nat.reduceAdd, Nat.reduceMul, Nat.reduceSub, Nat.reduceLeDiff, Nat.reduceLT]; rfl) rfl rfl rfl fun g3 hx3 => ?_
    have n3 := hx3.next
    have f3 := hx3.floor
    simp only [rn0, rn1, rn2, rn3, rn4, rn5, rn6, rn7, rn8, if_true, if_false, Nat.le_refl, true_and, and_true, decide_true, decide_false, Bool.not_true, Bool.not_false, reduceIte, Nat.reduceEqDiff, Nat.reduceAdd, Nat.reduceMul, Nat.reduceSub, Nat.reduceLeDiff, Nat.reduceLT, hf, ret_tt]
    exact ⟨⟨hx1.sub.trans (hm.sub.trans hx3.sub), by omega, by omega, by omega⟩, .inl ⟨hf, rfl⟩⟩
  · simp only [rn0, rn1, rn2, rn3, rn4, rn5, rn6, rn7, rn8, if_true, if_false, Nat.le_refl, true_and, and_true, decide_true, decide_false, Bool.not_true, Bool.not_false, reduceIte, Nat.reduceEqDiff, Nat.reduceAdd, Nat.reduceMul, Nat.reduceSub, Nat.reduceLeDiff, Nat.reduceLT, w1, eo, ex0, ex1]
    refine step_new (vs := [nilS, nilS, nilS, nilS]) (by omega) (by omega) rfl (by simp only [rn0, rn1, rn2, rn3, rn4, rn5, rn6, rn7, rn8, if_true, if_false, Nat.le_refl, true_and, and_true, decide_true, decide_false, Bool.not_true, Bool.not_false, reduceIte, Nat.reduceEqDiff, Nat.reduceAdd, Nat.reduceMul, Nat.reduceSub, Nat.reduceLeDiff, Nat.reduceLT]; rfl) rfl rfl rfl fun g3 hx3 => ?_
    have n3 := hx3.next
    have f3 := hx3.floor
    simp only [rn0, rn1, rn2, rn3, rn4, rn5, rn6, rn7, rn8, if_true, if_false, Nat.le_refl, true_and, and_true, decide_true, decide_false, Bool.not_true, Bool.not_false, reduceIte, Nat.reduceEqDiff, Nat.reduceAdd, Nat.reduceMul, Nat.reduceSub, Nat.reduceLeDiff, Nat.reduceLT, ret_tt, Int.reduceEq]
    exact ⟨⟨hx1.sub.trans (hm.sub.trans hx3.sub), by omega, by omega, by omega⟩, .inr (.inl ⟨hf, he, rfl⟩)⟩
  · have hG := good_of hf
    obtain ⟨z1, z2, z3⟩ := hG.sz
    have ho4 : allB oneCell [F, V, S, tv] = true := by have h1 := hy.one; have h2 := Cells.one htr; simp [allB] at h1 ⊢; simp [h1, h2]
    simp only [rn0, rn1, rn2, rn3, rn4, rn5, rn6, rn7, rn8, if_true, if_false, Nat.le_refl, true_and, and_true, decide_true, decide_false, Bool.not_true, Bool.not_false, reduceIte, Nat.reduceEqDiff, Nat.reduceAdd, Nat.reduceMul, Nat.reduceSub, Nat.reduceLeDiff, Nat.reduceLT, w1, eo, ex0, ex1]
    refine step_new (vs := [F, V, S, tv]) (by omega) (by omega) rfl (by simp only [rn0, rn1, rn2, rn3, rn4, rn5, rn6, rn7, rn8, if_true, if_false, Nat.le_refl, true_and, and_true, decide_true, decide_false, Bool.not_true, Bool.not_false, reduceIte, Nat.reduceEqDiff, Nat.reduceAdd, Nat.reduceMul, Nat.reduceSub, Nat.reduceLeDiff, Nat.reduceLT]; rfl) ho4 rfl rfl fun g3 hx3 => ?_
    have n3 := hx3.next
    have f3 := hx3.floor
    have w3 := hx3.row.whole (n := 4) rfl
    have s3 : Sub All h g3 := hx1.sub.trans (hm.sub.trans hx3.sub)
    have hy3 := hy.mono s3
    obtain ⟨rr, hrw, hq⟩ := hy3.v
    obtain ⟨l, g4, e4, hl4, m4⟩ := bounds_c (n := n) (h := g3) (F := F) (V := V) (S := S) (tv := tv) (L := truths Y) (G := 77) (m := Y.nv) (val := fun k t => blueN t (Y.q k) Y.nf) (by omega) (by omega) (by omega) ho4 he (truths_len hf) (Cells.mono htr hx3.sub) hlong (by omega) fun g hs hg k hk t ht => by
      obtain ⟨v1, v2⟩ := hG.v k hk
      exact inVat_c (n := n - 1) (h := g) (by omega) (by omega) (hy3.mono hs).v ho4 hk v1 z1 (truths_range hf ht) fun i hi => v2 i (by omega)
    have n4 := m4.next
    have u4 := m4.up
    have f4 := m4.floor
    simp only [rn0, rn1, rn2, rn3, rn4, rn5, rn6, rn7, rn8, if_true, if_false, Nat.le_refl, true_and, and_true, decide_true, decide_false, Bool.not_true, Bool.not_false, reduceIte, Nat.reduceEqDiff, Nat.reduceAdd, Nat.reduceMul, Nat.reduceSub, Nat.reduceLeDiff, Nat.reduceLT, build_fn, w3, hx3.row.ld, Nat.zero_add, List.getElem?_cons_zero, List.getElem?_cons_succ, Cells.len hrw, e4, ret_tt]
    exact ⟨⟨s3.trans m4.sub, by omega, by omega, by omega⟩, .inr (.inr ⟨hf, he, _, rfl, hl4⟩)⟩
end Go.Vm.Vat

namespace Go.Vm.Vat
open Go.Proofs
set_option linter.unusedSimpArgs false
set_option linter.unusedVariables false
set_option maxRecDepth 10000
variable {n : Nat} {h : AHeap}
def s62 : SCode := (.seq (.ops [⟨(some 1), none, .box (T 0)⟩, ⟨(some 2), none, .mov (.const (.bool false))⟩]) (.seq (.ops [⟨(some 3), none, .loadN 3 (T 1)⟩, ⟨(some 4), none, .call (.func 23) [(T 3)]⟩, ⟨(some 5), none, .mov (T 4)⟩, ⟨(some 6), (some (5, true)), .loadN 3 (T 1)⟩, ⟨(some 7), (some (5, true)), .call (.func 29) [(T 6)]⟩, ⟨(some 8), (some (5, true)), .int2 .eql (T 7) (.const (.int .i64 (0)))⟩, ⟨(some 9), none, .pick (T 5) (T 8) (.const (.bool false))⟩, ⟨(some 2), none, .mov (T 9)⟩]) .ret))
theorem fok62 : FnOk Try.prog 62 10 s62 [.tmp 2] := ⟨Try.f62, _, Try.func62, rfl, Try.ntmps62, by kernel_rfl, by kernel_rfl⟩
theorem ready_c (hn : 10010 ≤ n) (hr : h.next + 100 < far) {fv vv sv : Value} {Y : MY} (hy : YardR h fv vv sv Y) :
    call n (.func (.func 62) #[] #[]) [.agg ⟨[fv, vv, sv]⟩] h = some (.bool (decide (Thin Y ∧ faultN Y = 0)), h) := by
  obtain ⟨n, rfl⟩ : ∃ p, n = p + 1 := ⟨n - 1, by omega⟩
  refine call_plain0 fok62 rfl rfl (by simp) rfl ?_
  have hy := hy.shut
  have hr : h.shutAll.next + 100 < far := hr
  generalize h.shutAll = h at hy hr
  simp only [s62, W_seq, W_ops]
  refine ops_box (cs := [fv, vv, sv]) (by omega) rfl hy.one fun g1 hx1 => ?_
  have n1 := hx1.next
  have hy1 := hy.mono hx1.sub
  have w1 := hx1.row.whole (n := 3) rfl
  have ht := thin_c (n := n) (h := g1) (by omega) (by omega) hy1
  have ef := faultL_c (n := n) (h := g1) (by omega) (by omega) hy1
  by_cases hT : Thin Y
  · by_cases hf : faultN Y = 0
    · simp only [rn0, rn1, rn2, rn3, rn4, rn5, rn6, rn7, rn8, if_true, if_false, Nat.le_refl, true_and, and_true, decide_true, decide_false, Bool.not_true, Bool.not_false, reduceIte, Nat.reduceEqDiff, Nat.reduceAdd, Nat.reduceMul, Nat.reduceSub, Nat.reduceLeDiff, Nat.reduceLT, w1, ht, hT, ef, hf, and_self]
    · simp only [rn0, rn1, rn2, rn3, rn4, rn5, rn6, rn7, rn8, if_true, if_false, Nat.le_refl, true_and, and_true, decide_true, decide_false, Bool.not_true, Bool.not_false, reduceIte, Nat.reduceEqDiff, Nat.reduceAdd, Nat.reduceMul, Nat.reduceSub, Nat.reduceLeDiff, Nat.reduceLT, w1, ht, hT, ef, hf, and_false]
  · simp only [rn0, rn1, rn2, rn3, rn4, rn5, rn6, rn7, rn8, if_true, if_false, Nat.le_refl, true_and, and_true, decide_true, decide_false, Bool.not_true, Bool.not_false, reduceIte, Nat.reduceEqDiff, Nat.reduceAdd, Nat.reduceMul, Nat.reduceSub, Nat.reduceLeDiff, Nat.reduceLT, w1, ht, hT, false_and]
/-- an unsigned byte, as an integer -/
def run8 (other : AHeap → Option (Value × AHeap)) (a : Value) (h : AHeap) : Option (Value × AHeap) :=
  match a with
  | .int .u8 a => some (.int .i64 (IntKind.wrap .i64 a), h)
  | _ => other h
theorem p_conv8 {N : Nat} {f : Fr} {x : Operand} {ty : TypeId} : plainF Try.prog N (.convert 5 3 x) ty f h = run8 (plainF Try.prog N (.convert 5 3 x) ty f) (valN N f x) h := by
  unfold run8
  split
  · rename_i a e1
    unfold plainF
    have : allB (fun x => plainV (valN N f x)) (Op.convert 5 3 x).operands.toList = true := by simp [Op.operands, allB, e1, plainV, plainE, plainCell]
    rw [this]
    have e : pureRun Try.prog (execOp (valN N f) (bare (.convert 5 3 x) ty)) = some (.value (.int .i64 (IntKind.wrap .i64 a))) := by
      show pureRun Try.prog (convert 5 3 (valN N f x) >>= fun a => pure (Next.value a)) = _
      rw [pureRun_bind, e1]
      have hc : pureRun Try.prog (convert 5 3 (.int .u8 a)) = some (.int .i64 (IntKind.wrap .i64 a)) := by
        unfold convert
        rw [pureRun_bind, pr_under Try.underlying5, Option.bind_some, pureRun_bind, pr_under Try.underlying3]
        rfl
      rw [hc]; rfl
    rw [e]
    rfl
  · rfl
theorem r_8 {other : AHeap → Option (Value × AHeap)} {k : Nat} (hk : k < 256) : run8 other (.int .u8 (k : Int)) h = some (.int .i64 (k : Int), h) := by
  simp only [run8]
  rw [IntWalk.i64_in _ (by omega)]
theorem wf8 {a : Int} (h : (Lit.int .u8 a).wf = true) : ∃ k : Nat, a = k ∧ k < 256 := by
  simp only [Lit.wf, Bool.and_eq_true, decide_eq_true_eq] at h
  have h1 : (IntKind.u8).min = 0 := rfl
  have h2 : (IntKind.u8).max = 255 := rfl
  rw [h1, h2] at h
  exact ⟨a.toNat, by omega, by omega⟩
end Go.Vm.Vat

namespace Go.Vm.Vat
open Go.Proofs
set_option linter.unusedSimpArgs false
set_option linter.unusedVariables false
set_option maxRecDepth 10000
variable {n : Nat} {h : AHeap}
/-- among the first k -/
def Seen (L : List (Nat → Int)) (p : (Nat → Int) → Prop) (k : Nat) : Prop := ∃ i, i < k ∧ p (L.getD i fun _ => 0)
noncomputable instance (L : List (Nat → Int)) (p : (Nat → Int) → Prop) (k : Nat) : Decidable (Seen L p k) := Classical.propDecidable _
end Go.Vm.Vat

namespace Go.Vm.Vat
open Go.Proofs
set_option linter.unusedSimpArgs false
set_option linter.unusedVariables false
set_option maxRecDepth 10000
variable {n : Nat} {h : AHeap}
theorem ready_big (hn : 3 ≤ n) (hr : h.next + 5 < far) {u0 u1 u2 : Value} (hb : Big u0 u1 u2) : call n (.func (.func 62) #[] #[]) [.agg ⟨[u0, u1, u2]⟩] h = some (.bool false, h) := by
  obtain ⟨n, rfl⟩ : ∃ p, n = p + 1 := ⟨n - 1, by omega⟩
  refine call_plain0 fok62 rfl rfl (by simp) rfl ?_
  have hr : h.shutAll.next + 5 < far := hr
  generalize h.shutAll = h at hr
  simp only [s62, W_seq, W_ops]
  refine ops_box (cs := [u0, u1, u2]) (by omega) rfl hb.one fun g1 hx1 => ?_
  have n1 := hx1.next
  have w1 := hx1.row.whole (n := 3) rfl
  have ht := thin_big (n := n) (h := g1) (by omega) (by omega) hb
  simp only [rn0, rn1, rn2, rn3, rn4, rn5, rn6, rn7, rn8, if_true, if_false, Nat.le_refl, true_and, and_true, decide_true, decide_false, Bool.not_true, Bool.not_false, reduceIte, Nat.reduceEqDiff, Nat.reduceAdd, Nat.reduceMul, Nat.reduceSub, Nat.reduceLeDiff, Nat.reduceLT, w1, ht]
end Go.Vm.Vat

namespace Go.Vm.Vat
open Go.Proofs
set_option linter.unusedSimpArgs false
set_option linter.unusedVariables false
set_option maxRecDepth 10000
variable {n : Nat} {h : AHeap}
/-! ### The iterator over all spreads of so many bundles: each is handed to 'yield', in order -/
def arr4 (c : Nat → Int) : List Value := (List.range 4).map fun i => .int .i64 (c i)
section
variable {σ : Type}
/-- the iterator's own rows -/
structure ItS (pv py pc : Nat) (nv : Nat) (yv cv : Value) (g : AHeap) : Prop where
  v : Row g pv [.int .i64 (nv : Int)]
  y : Row g py [yv]
  c : Row g pc [cv]
theorem ItS.set {pv py pc pb gr nv : Nat} {cs : List Value} {yv cv : Value} {g g' : AHeap} (hi' : ItS pv py pc nv yv cv g) (hs : Set1 g g' pb cs gr) (h1 : pv ≠ pb) (h2 : py ≠ pb) (h3 : pc ≠ pb) : ItS pv py pc nv yv cv g' :=
  ⟨hi'.v.keep hs.keep h1, hi'.y.keep hs.keep h2, hi'.c.keep hs.keep h3⟩
end
end Go.Vm.Vat

namespace Go.Vm.Vat
open Go.Proofs
set_option linter.unusedSimpArgs false
set_option linter.unusedVariables false
set_option maxRecDepth 10000
variable {n : Nat} {h : AHeap}
/-! ### The iterator once more: yield is told of no state behind which it has said false -/
section
variable {σ : Type}
end
end Go.Vm.Vat

namespace Go.Vm.Vat
open Go.Proofs
set_option linter.unusedSimpArgs false
set_option linter.unusedVariables false
set_option maxRecDepth 10000
variable {n : Nat} {h : AHeap}
open Classical in
/-- the samples among the first k that are wrong -/
noncomputable def wrongTo (Y : MY) (b : Nat → Int) : Nat → List Int
  | 0 => []
  | k + 1 => if RightB Y b k then wrongTo Y b k else wrongTo Y b k ++ [(k : Int)]
theorem wrongTo_yes {Y : MY} {b : Nat → Int} {k : Nat} (h : RightB Y b k) : wrongTo Y b (k + 1) = wrongTo Y b k := by rw [wrongTo, if_pos h]
theorem wrongTo_no {Y : MY} {b : Nat → Int} {k : Nat} (h : ¬ RightB Y b k) : wrongTo Y b (k + 1) = wrongTo Y b k ++ [(k : Int)] := by rw [wrongTo, if_neg h]
end Go.Vm.Vat

namespace Go.Vm.Vat
open Go.Proofs
set_option linter.unusedSimpArgs false
set_option linter.unusedVariables false
set_option maxRecDepth 10000
variable {n : Nat} {h : AHeap}
/-- what lies in memory meanwhile -/
structure JF (h2 : AHeap) (p : Nat) (r : ALoop) (s : Int × Bool) (g : AHeap) : Prop where
  old : ∀ i, i < h2.next → i ≠ p + 1 → i ≠ p + 2 → i ≠ p + 3 → i ≠ p + 7 → g.get i = h2.get i
  fst : g.get (p + 3) = some (.row [.int .i64 s.1] true 0)
  r1 : g.get (p + 1) = some (.row [.int .i64 0] true 0)
  r2 : g.get (p + 2) = some (.row [.int .i64 (if s.2 then 7 else 0)] true 0)
  lp : g.get (p + 7) = some (.loop (if s.2 then leftBy r .ret else r))
  up : h2.next + 3 ≤ g.next
end Go.Vm.Vat

namespace Go.Vm.Vat
open Go.Proofs
set_option linter.unusedSimpArgs false
set_option linter.unusedVariables false
set_option maxRecDepth 10000
variable {n : Nat} {h : AHeap}
/-- what lies in memory while the spreads are gone through -/
structure JS (h2 : AHeap) (p : Nat) (s : (Nat → Int) × Int) (g : AHeap) : Prop where
  old : ∀ i, i < h2.next → i ≠ p + 1 → i ≠ p + 2 → g.get i = h2.get i
  bst : g.get (p + 1) = some (.row (arr4 s.1) true 0)
  lst : g.get (p + 2) = some (.row [.int .i64 s.2] true 0)
  up : h2.next + 3 ≤ g.next
end Go.Vm.Vat

namespace Go.Vm.Vat
open Go.Proofs
set_option linter.unusedSimpArgs false
set_option linter.unusedVariables false
set_option maxRecDepth 10000
variable {n : Nat} {h : AHeap}
end Go.Vm.Vat

namespace Go.Vm.Vat
open Go.Proofs
set_option linter.unusedSimpArgs false
set_option linter.unusedVariables false
set_option maxRecDepth 10000
variable {n : Nat} {h : AHeap}
end Go.Vm.Vat

namespace Go.Vm.Vat
open Go.Proofs
set_option linter.unusedSimpArgs false
set_option linter.unusedVariables false
set_option maxRecDepth 10000
variable {n : Nat} {h : AHeap}
end Go.Vm.Vat

namespace Go.Vm.Vat
open Go.Proofs
set_option linter.unusedSimpArgs false
set_option linter.unusedVariables false
set_option maxRecDepth 10000
variable {n : Nat} {h : AHeap}
/-! ### Lists in order -/
/-- lexicographically before, both as long -/
def LexLt (a b : Nat → Int) (m : Nat) : Prop := ∃ j, j < m ∧ (∀ i, i < j → a i = b i) ∧ a j < b j
noncomputable instance (a b : Nat → Int) (m : Nat) : Decidable (LexLt a b m) := Classical.propDecidable _
/-- shorter, or as long and before it -/
def Shortlex (a : Nat → Int) (m : Nat) (b : Nat → Int) (k : Nat) : Prop := m < k ∨ m = k ∧ LexLt a b m
noncomputable instance (a : Nat → Int) (m : Nat) (b : Nat → Int) (k : Nat) : Decidable (Shortlex a m b k) := Classical.propDecidable _
end Go.Vm.Vat

namespace Go.Vm.Vat
open Go.Proofs
set_option linter.unusedSimpArgs false
set_option linter.unusedVariables false
set_option maxRecDepth 10000
variable {n : Nat} {h : AHeap}
/-- a list as a function -/
def atL (l : List Int) (i : Nat) : Int := l.getD i 0
/-- what Leave keeps: the least list so far -/
noncomputable def leaveStep (Y : MY) (s : List Int) (c : Nat → Int) : List Int × Bool :=
  (if Shortlex (atL (wrongTo Y c Y.ns)) (wrongTo Y c Y.ns).length (atL s) s.length then wrongTo Y c Y.ns else s, true)
def upTo (m : Nat) : List Int := (List.range m).map fun (i : Nat) => (i : Int)
noncomputable def leaveRun (Y : MY) : List Int := (runL (leaveStep Y) (upTo Y.ns) (enumB Y.lo Y.hi Y.nf 0 fun _ => 0)).1
/-- what lies in memory meanwhile -/
structure JL (h2 : AHeap) (p : Nat) (s : List Int) (g : AHeap) : Prop where
  old : ∀ i, i < h2.next → i ≠ p + 2 → g.get i = h2.get i
  lst : ∃ v, g.get (p + 2) = some (.row [v] true 0) ∧ Ints g v s.length (atL s) ∧ oneCell v = true ∧ ∀ a k c, v = .slice (some a) k c → a.block = p + 1 ∨ (h2.next + 3 ≤ a.block ∧ a.block < g.next)
  short : s.length ≤ 5
  up : h2.next + 3 ≤ g.next
end Go.Vm.Vat

namespace Go.Vm
variable {P : Program} {N : Nat} {f : Fr} {h : AHeap} {ty t u : TypeId} {x y : Operand}
end Go.Vm
namespace Go.Vm.Vat
open Go.Proofs
set_option linter.unusedSimpArgs false
set_option linter.unusedVariables false
set_option maxRecDepth 10000
variable {n : Nat} {h : AHeap}
end Go.Vm.Vat

namespace Go.Vm.Vat
open Go.Proofs
set_option linter.unusedSimpArgs false
set_option linter.unusedVariables false
set_option maxRecDepth 10000
variable {n : Nat} {h : AHeap}
end Go.Vm.Vat

namespace Go.Vm
variable {P : Program} {N : Nat} {f : Fr} {h : AHeap}
end Go.Vm
namespace Go.Vm.Vat
open Go.Proofs
set_option linter.unusedSimpArgs false
set_option linter.unusedVariables false
set_option maxRecDepth 10000
variable {n : Nat} {h : AHeap}
open Classical in
/-- those below k that are so -/
noncomputable def pickL (p : Nat → Prop) : Nat → List Int
  | 0 => []
  | k + 1 => if p k then pickL p k ++ [(k : Int)] else pickL p k
theorem pick_yes {p : Nat → Prop} {k : Nat} (h : p k) : pickL p (k + 1) = pickL p k ++ [(k : Int)] := by rw [pickL, if_pos h]
theorem pick_no {p : Nat → Prop} {k : Nat} (h : ¬ p k) : pickL p (k + 1) = pickL p k := by rw [pickL, if_neg h]
theorem pick_sub {p q : Nat → Prop} : ∀ k, (∀ j, j < k → p j → q j) → (pickL p k).length ≤ (pickL q k).length ∧ ((pickL p k).length = (pickL q k).length → pickL p k = pickL q k)
  | 0, _ => ⟨Nat.le_refl _, fun _ => rfl⟩
  | k + 1, h => by
    obtain ⟨h1, h2⟩ := pick_sub (p := p) (q := q) k fun j hj => h j (by omega)
    by_cases c1 : p k
    · rw [pick_yes c1, pick_yes (h k (by omega) c1)]
      simp only [List.length_append, List.length_singleton]
      exact ⟨by omega, fun e => by rw [h2 (by omega)]⟩
    · rw [pick_no c1]
      by_cases c2 : q k
      · rw [pick_yes c2]
        simp only [List.length_append, List.length_singleton]
        exact ⟨by omega, fun e => by omega⟩
      · rw [pick_no c2]; exact ⟨h1, h2⟩
theorem pick_len {p : Nat → Prop} : ∀ k, (pickL p k).length ≤ k
  | 0 => Nat.le_refl _
  | k + 1 => by
    have := pick_len (p := p) k
    by_cases c : p k
    · rw [pick_yes c, List.length_append, List.length_singleton]; omega
    · rw [pick_no c]; omega
theorem wrong_pick {Y : MY} {c : Nat → Int} : ∀ k, wrongTo Y c k = pickL (fun j => ¬ RightB Y c j) k
  | 0 => rfl
  | k + 1 => by
    by_cases hR : RightB Y c k
    · rw [wrongTo_yes hR, pick_no (fun e => e hR), wrong_pick k]
    · rw [wrongTo_no hR, pick_yes hR, wrong_pick k]
theorem upTo_pick : ∀ k, upTo k = pickL (fun _ => True) k
  | 0 => rfl
  | k + 1 => by rw [pick_yes trivial, ← upTo_pick k]; unfold upTo; rw [List.range_succ, List.map_append]; rfl
theorem lex_irr {a : Nat → Int} {m : Nat} : ¬ LexLt a a m := fun ⟨j, _, _, h⟩ => by omega
theorem lex_trans {a b c : Nat → Int} {m : Nat} (h1 : LexLt a b m) (h2 : LexLt b c m) : LexLt a c m := by
  obtain ⟨i, i1, i2, i3⟩ := h1
  obtain ⟨j, j1, j2, j3⟩ := h2
  by_cases e : i < j
  · exact ⟨i, i1, fun x hx => by rw [i2 x hx, j2 x (by omega)], by rw [← j2 i e]; exact i3⟩
  · by_cases e2 : i = j
    · subst e2; exact ⟨i, i1, fun x hx => by rw [i2 x hx, j2 x hx], by omega⟩
    · exact ⟨j, j1, fun x hx => by rw [i2 x (by omega), j2 x hx], by rw [i2 j (by omega)]; exact j3⟩
def SL (a b : List Int) : Prop := Shortlex (atL a) a.length (atL b) b.length
theorem sl_irr {a : List Int} : ¬ SL a a := fun h => by
  rcases h with h | h
  · omega
  · exact lex_irr h.2
theorem sl_trans {a b c : List Int} (h1 : SL a b) (h2 : SL b c) : SL a c := by
  unfold SL Shortlex at *
  rcases h1 with h1 | ⟨e1, h1⟩ <;> rcases h2 with h2 | ⟨e2, h2⟩
  · exact .inl (by omega)
  · exact .inl (by omega)
  · exact .inl (by omega)
  · exact .inr ⟨by omega, lex_trans h1 (by rw [e1]; exact h2)⟩
theorem run_leave {Y : MY} : ∀ (L : List (Nat → Int)) (s : List Int),
    ((runL (leaveStep Y) s L).1 = s ∨ SL (runL (leaveStep Y) s L).1 s) ∧ ((runL (leaveStep Y) s L).1 = s ∨ ∃ c, c ∈ L ∧ (runL (leaveStep Y) s L).1 = wrongTo Y c Y.ns) ∧ ∀ c, c ∈ L → ¬ SL (wrongTo Y c Y.ns) (runL (leaveStep Y) s L).1
  | [], s => ⟨.inl rfl, .inl rfl, fun c hc => (List.not_mem_nil hc).elim⟩
  | x :: L, s => by
    by_cases hL : Shortlex (atL (wrongTo Y x Y.ns)) (wrongTo Y x Y.ns).length (atL s) s.length
    · have e : runL (leaveStep Y) s (x :: L) = runL (leaveStep Y) (wrongTo Y x Y.ns) L := by simp only [runL, leaveStep, if_pos hL, if_true]
      rw [e]
      obtain ⟨h1, h2, h3⟩ := run_leave (Y := Y) L (wrongTo Y x Y.ns)
      generalize (runL (leaveStep Y) (wrongTo Y x Y.ns) L).1 = r at h1 h2 h3
      refine ⟨.inr ?_, .inr ?_, fun c hc => ?_⟩
      · rcases h1 with h1 | h1
        · rw [h1]; exact hL
        · exact sl_trans h1 hL
      · rcases h2 with h2 | ⟨c, h2, h4⟩
        · exact ⟨x, List.mem_cons_self, h2⟩
        · exact ⟨c, List.mem_cons_of_mem _ h2, h4⟩
      · rcases List.mem_cons.1 hc with rfl | hc
        · rcases h1 with h1 | h1
          · rw [h1]; exact sl_irr
          · exact fun e => sl_irr (sl_trans h1 e)
        · exact h3 c hc
    · have e : runL (leaveStep Y) s (x :: L) = runL (leaveStep Y) s L := by simp only [runL, leaveStep, if_neg hL, if_true]
      rw [e]
      obtain ⟨h1, h2, h3⟩ := run_leave (Y := Y) L s
      generalize (runL (leaveStep Y) s L).1 = r at h1 h2 h3
      refine ⟨h1, ?_, fun c hc => ?_⟩
      · rcases h2 with h2 | ⟨c, h2, h4⟩
        · exact .inl h2
        · exact .inr ⟨c, List.mem_cons_of_mem _ h2, h4⟩
      · rcases List.mem_cons.1 hc with rfl | hc
        · rcases h1 with h1 | h1
          · rw [h1]; exact hL
          · exact fun e => hL (sl_trans e h1)
        · exact h3 c hc
/-- the smallest set: it is that of some blues, or all; none of any blues is before it -/
theorem leave_is {Y : MY} : (leaveRun Y = pickL (fun _ => True) Y.ns ∨ ∃ c, c ∈ enumB Y.lo Y.hi Y.nf 0 (fun _ => 0) ∧ leaveRun Y = pickL (fun j => ¬ RightB Y c j) Y.ns) ∧
    ∀ c, c ∈ enumB Y.lo Y.hi Y.nf 0 (fun _ => 0) → ¬ SL (pickL (fun j => ¬ RightB Y c j) Y.ns) (leaveRun Y) := by
  obtain ⟨_, h2, h3⟩ := run_leave (Y := Y) (enumB Y.lo Y.hi Y.nf 0 fun _ => 0) (upTo Y.ns)
  change leaveRun Y = upTo Y.ns ∨ ∃ c, c ∈ enumB Y.lo Y.hi Y.nf 0 (fun _ => 0) ∧ leaveRun Y = wrongTo Y c Y.ns at h2
  change ∀ c, c ∈ enumB Y.lo Y.hi Y.nf 0 (fun _ => 0) → ¬ SL (wrongTo Y c Y.ns) (leaveRun Y) at h3
  refine ⟨?_, fun c hc => by rw [← wrong_pick]; exact h3 c hc⟩
  rcases h2 with h2 | ⟨c, h2, h4⟩
  · exact .inl (by rw [h2, upTo_pick])
  · exact .inr ⟨c, h2, by rw [h4, wrong_pick]⟩
end Go.Vm.Vat

namespace Go.Vm.Vat
open Go.Proofs
set_option linter.unusedSimpArgs false
set_option linter.unusedVariables false
set_option maxRecDepth 10000
variable {n : Nat} {h : AHeap}
end Go.Vm.Vat

namespace Go.Vm.Vat
open Go.Proofs
set_option linter.unusedSimpArgs false
set_option linter.unusedVariables false
set_option maxRecDepth 10000
variable {n : Nat} {h : AHeap}
/-! ### Words -/
def Words (h : AHeap) (v : Value) (m : Nat) (a : Nat → Nat) : Prop := Cells h v 1 m (fun k _ => .int .u16 (a k : Int)) ∧ ∀ k, k < m → a k < 65536
theorem Words.mono {g : AHeap} {v : Value} {m : Nat} {a : Nat → Nat} (hw : Words h v m a) (hs : Sub All h g) : Words g v m a := ⟨Cells.mono hw.1 hs, hw.2⟩
def rowI (m : Nat) (c : Nat → Int) : List Value := (List.range m).map fun i => .int .i64 (c i)
theorem rowI_len {m : Nat} {c : Nat → Int} : (rowI m c).length = m := by simp [rowI]
theorem rowI_get {m k : Nat} {c : Nat → Int} (hk : k < m) : (rowI m c)[k]? = some (.int .i64 (c k)) := by unfold rowI; rw [List.getElem?_map, List.getElem?_range hk]; rfl
theorem rowI_splice {m k : Nat} {c : Nat → Int} {x : Int} (hk : k < m) : splice (rowI m c) k [.int .i64 x] = rowI m fun j => if j = k then x else c j := by
  unfold rowI
  refine map_splice (by simp; omega) (fun i hi hc => ?_) (fun j hj => ?_)
  · simp only [List.length_cons, List.length_nil] at hc
    have e : ¬ i = k := by omega
    simp only [e, if_false]
  · simp only [List.length_cons, List.length_nil] at hj
    obtain rfl : j = 0 := by omega
    simp
theorem rowI_ints {m b w : Nat} {c : Nat → Int} {cap : Nat} (hg : ∃ wr gr, h.get b = some (.row (rowI m c) wr gr)) : Ints h (.slice (some ⟨b, 0, none⟩) m cap) m c := by
  obtain ⟨wr, gr, e⟩ := hg
  exact ⟨_, _, rfl, fun x e => by cases e; rfl, .inr ⟨_, 0, _, _, _, rfl, e, fun k j hk hj => by
    obtain rfl : j = 0 := by omega
    rw [show 0 + k * 1 + 0 = k by omega, rowI_get hk]⟩⟩
end Go.Vm.Vat

namespace Go.Vm.Vat
open Go.Proofs
set_option linter.unusedSimpArgs false
set_option linter.unusedVariables false
set_option maxRecDepth 10000
variable {n : Nat} {h : AHeap}
/-- with so many further bundles the vat surely has the blue -/
def Enough (Y : MY) (v f : Nat) (blue : Int) (L : List (Nat → Int)) (k : Nat) : Prop := ∀ t, t ∈ L → blue ≤ blueWith Y v f k t
end Go.Vm.Vat

namespace Go.Vm.Vat
open Go.Proofs
set_option linter.unusedSimpArgs false
set_option linter.unusedVariables false
set_option maxRecDepth 10000
variable {n : Nat} {h : AHeap}
end Go.Vm.Vat

namespace Go.Vm.Vat
open Go.Proofs
set_option linter.unusedSimpArgs false
set_option linter.unusedVariables false
set_option maxRecDepth 10000
variable {n : Nat} {h : AHeap}
end Go.Vm.Vat

namespace Go.Vm.Vat
open Go.Proofs
set_option linter.unusedSimpArgs false
set_option linter.unusedVariables false
set_option maxRecDepth 10000
variable {n : Nat} {h : AHeap}
def s15 : SCode := (.seq (.ops [⟨(some 3), none, .box (T 0)⟩, ⟨(some 6), none, .mov (.const (.bool false))⟩]) (.seq (.seq (.ops [⟨(some 19), none, .loadN 3 (T 3)⟩, ⟨(some 20), none, .call (.func 62) [(T 19)]⟩, ⟨(some 21), none, .not (T 20)⟩, ⟨(some 22), none, .mov (T 21)⟩, ⟨(some 23), (some (22, false)), .fieldAddr 0 (T 3)⟩, ⟨(some 24), (some (22, false)), .load1 (T 23)⟩, ⟨(some 25), (some (22, false)), .len (T 24)⟩, ⟨(some 26), (some (22, false)), .int2 .eql (T 25) (.const (.int .i64 (0)))⟩, ⟨(some 27), none, .pick (T 22) (.const (.bool true)) (T 26)⟩, ⟨(some 28), none, .mov (T 27)⟩, ⟨(some 29), (some (28, false)), .fieldAddr 1 (T 3)⟩, ⟨(some 30), (some (28, false)), .load1 (T 29)⟩, ⟨(some 31), (some (28, false)), .len (T 30)⟩, ⟨(some 32), (some (28, false)), .int2 .eql (T 31) (.const (.int .i64 (0)))⟩, ⟨(some 33), none, .pick (T 28) (.const (.bool true)) (T 32)⟩]) (.cond (T 33) (.seq (.ops [⟨(some 34), none, .call (.func 24) []⟩, ⟨(some 6), none, .mov (T 34)⟩]) .ret) .skip)) (.seq (.ops [⟨(some 35), none, .mov (T 1)⟩, ⟨(some 36), none, .plain (.convert 5 3 (T 35)) 3⟩, ⟨(some 37), none, .fieldAddr 0 (T 3)⟩, ⟨(some 38), none, .load1 (T 37)⟩, ⟨(some 39), none, .len (T 38)⟩, ⟨(some 40), none, .plain (.binOp .rem 3 (T 36) (T 39) 3) 3⟩, ⟨(some 7), none, .mov (T 40)⟩]) (.seq (.ops [⟨(some 41), none, .loadN 3 (T 3)⟩, ⟨(some 42), none, .mov (T 2)⟩, ⟨(some 43), none, .call (.func 65) [(T 41), (T 42)]⟩, ⟨(some 8), none, .mov (T 43)⟩]) (.seq (.ops [⟨(some 9), none, .mov (.const (.int .i64 (0)))⟩]) (.seq (.seq (.ops [⟨(some 10), none, .mov (.const (.int .i64 (0)))⟩]) (.block 0 (.loop (.seq (.seq (.ops [⟨(some 44), none, .mov (T 10)⟩, ⟨(some 45), none, .mov (T 8)⟩, ⟨(some 46), none, .len (T 45)⟩, ⟨(some 47), none, .int2 .lss (T 44) (T 46)⟩]) (.cond (T 47) .skip (.exit 0))) (.seq (.block 1 (.ops [⟨(some 50), none, .mov (T 9)⟩, ⟨(some 51), none, .mov (T 8)⟩, ⟨(some 52), none, .mov (T 10)⟩, ⟨(some 53), none, .idxSl 1 (T 51) (T 52)⟩, ⟨(some 54), none, .load1 (T 53)⟩, ⟨(some 55), none, .int2 .add (T 50) (T 54)⟩, ⟨(some 9), none, .mov (T 55)⟩])) (.ops [⟨(some 48), none, .mov (T 10)⟩, ⟨(some 49), none, .int2 .add (T 48) (.const (.int .i64 (1)))⟩, ⟨(some 10), none, .mov (T 49)⟩])))))) (.seq (.ops [⟨(some 57), none, .loadN 3 (T 3)⟩, ⟨(some 58), none, .call (.func 26) [(T 57)]⟩, ⟨(some 59), none, .mov (T 7)⟩, ⟨(some 60), none, .mov (T 9)⟩, ⟨(some 61), none, .call (.func 48) [(T 58), (T 59), (T 60)]⟩, ⟨(some 56), none, .mov (T 61)⟩, ⟨(some 62), none, .extract 0 (T 56)⟩, ⟨(some 63), none, .extract 1 (T 56)⟩, ⟨(some 64), none, .extract 2 (T 56)⟩, ⟨(some 11), none, .mov (T 62)⟩, ⟨(some 12), none, .mov (T 63)⟩, ⟨(some 13), none, .mov (T 64)⟩]) (.seq (.ops [⟨(some 66), none, .loadN 3 (T 3)⟩, ⟨(some 67), none, .call (.func 26) [(T 66)]⟩, ⟨(some 68), none, .mov (T 7)⟩, ⟨(some 69), none, .mov (T 9)⟩, ⟨(some 70), none, .int2 .add (T 69) (.const (.int .i64 (1)))⟩, ⟨(some 71), none, .plain (.call { callee := .builtin .min, args := #[(.const (.int .i64 (9))), (T 70)], argTypes := #[3, 3] }) 3⟩, ⟨(some 72), none, .call (.func 48) [(T 67), (T 68), (T 71)]⟩, ⟨(some 65), none, .mov (T 72)⟩, ⟨(some 73), none, .extract 0 (T 65)⟩, ⟨(some 74), none, .extract 1 (T 65)⟩, ⟨(some 75), none, .extract 2 (T 65)⟩, ⟨(some 14), none, .mov (T 73)⟩, ⟨(some 15), none, .mov (T 74)⟩, ⟨(some 16), none, .mov (T 75)⟩]) (.seq (.seq (.ops [⟨(some 76), none, .mov (T 13)⟩, ⟨(some 77), none, .int2 .neq (T 76) (.const (.int .i64 (0)))⟩]) (.cond (T 77) (.seq (.ops [⟨(some 78), none, .mov (T 13)⟩, ⟨(some 79), none, .int2 .eql (T 78) (.const (.int .i64 (11)))⟩, ⟨(some 80), none, .mov (T 79)⟩, ⟨(some 81), (some (80, true)), .mov (T 16)⟩, ⟨(some 82), (some (80, true)), .mov (T 13)⟩, ⟨(some 83), (some (80, true)), .int2 .eql (T 81) (T 82)⟩, ⟨(some 84), none, .pick (T 80) (T 83) (.const (.bool false))⟩, ⟨(some 85), none, .mov (T 84)⟩, ⟨(some 86), (some (85, true)), .loadN 3 (T 3)⟩, ⟨(some 87), (some (85, true)), .call (.func 26) [(T 86)]⟩, ⟨(some 88), (some (85, true)), .mov (T 7)⟩, ⟨(some 89), (some (85, true)), .mov (T 8)⟩, ⟨(some 90), (some (85, true)), .call (.func 27) [(T 89)]⟩, ⟨(some 91), (some (85, true)), .call (.func 49) [(T 87), (T 88), (T 90), (.const (.int .i64 (-1)))]⟩, ⟨(some 92), (some (85, true)), .not (T 91)⟩, ⟨(some 93), none, .pick (T 85) (T 92) (.const (.bool false))⟩, ⟨(some 94), none, .mov (T 93)⟩, ⟨(some 95), (some (94, true)), .call (.func 24) []⟩, ⟨(some 96), none, .pick (T 94) (T 95) (.const (.bool false))⟩, ⟨(some 6), none, .mov (T 96)⟩]) .ret) .skip)) (.seq (.seq (.ops [⟨(some 97), none, .mov (T 16)⟩, ⟨(some 98), none, .int2 .neq (T 97) (.const (.int .i64 (0)))⟩, ⟨(some 99), none, .mov (T 98)⟩, ⟨(some 100), (some (99, false)), .mov (T 15)⟩, ⟨(some 101), (some (99, false)), .mov (T 12)⟩, ⟨(some 102), (some (99, false)), .int2 .lss (T 100) (T 101)⟩, ⟨(some 103), none, .pick (T 99) (.const (.bool true)) (T 102)⟩, ⟨(some 104), none, .mov (T 103)⟩, ⟨(some 105), (some (104, false)), .loadN 3 (T 3)⟩, ⟨(some 106), (some (104, false)), .call (.func 26) [(T 105)]⟩, ⟨(some 107), (some (104, false)), .mov (T 7)⟩, ⟨(some 108), (some (104, false)), .mov (T 11)⟩, ⟨(some 109), (some (104, false)), .call (.func 27) [(T 108)]⟩, ⟨(some 110), (some (104, false)), .mov (T 12)⟩, ⟨(some 111), (some (104, false)), .call (.func 49) [(T 106), (T 107), (T 109), (T 110)]⟩, ⟨(some 112), (some (104, false)), .not (T 111)⟩, ⟨(some 113), none, .pick (T 104) (.const (.bool true)) (T 112)⟩, ⟨(some 114), none, .mov (T 113)⟩, ⟨(some 115), (some (114, false)), .loadN 3 (T 3)⟩, ⟨(some 116), (some (114, false)), .call (.func 26) [(T 115)]⟩, ⟨(some 117), (some (114, false)), .mov (T 7)⟩, ⟨(some 118), (some (114, false)), .mov (T 11)⟩, ⟨(some 119), (some (114, false)), .call (.func 27) [(T 118)]⟩, ⟨(some 120), (some (114, false)), .mov (T 12)⟩, ⟨(some 121), (some (114, false)), .int2 .add (T 120) (.const (.int .i64 (1)))⟩, ⟨(some 122), (some (114, false)), .call (.func 49) [(T 116), (T 117), (T 119), (T 121)]⟩, ⟨(some 123), none, .pick (T 114) (.const (.bool true)) (T 122)⟩, ⟨(some 124), none, .mov (T 123)⟩, ⟨(some 125), (some (124, false)), .loadN 3 (T 3)⟩, ⟨(some 126), (some (124, false)), .call (.func 26) [(T 125)]⟩, ⟨(some 127), (some (124, false)), .mov (T 7)⟩, ⟨(some 128), (some (124, false)), .mov (T 8)⟩, ⟨(some 129), (some (124, false)), .call (.func 27) [(T 128)]⟩, ⟨(some 130), (some (124, false)), .mov (T 12)⟩, ⟨(some 131), (some (124, false)), .int2 .add (T 130) (.const (.int .i64 (1)))⟩, ⟨(some 132), (some (124, false)), .call (.func 49) [(T 126), (T 127), (T 129), (T 131)]⟩, ⟨(some 133), none, .pick (T 124) (.const (.bool true)) (T 132)⟩]) (.cond (T 133) (.seq (.ops [⟨(some 6), none, .mov (.const (.bool false))⟩]) .ret) .skip)) (.seq (.ops [⟨(some 17), none, .mov (.const (.int .i64 (0)))⟩]) (.seq (.seq (.ops [⟨(some 18), none, .mov (.const (.int .i64 (0)))⟩]) (.block 2 (.loop (.seq (.seq (.ops [⟨(some 134), none, .mov (T 18)⟩, ⟨(some 135), none, .mov (T 11)⟩, ⟨(some 136), none, .len (T 135)⟩, ⟨(some 137), none, .int2 .lss (T 134) (T 136)⟩]) (.cond (T 137) .skip (.exit 2))) (.seq (.block 3 (.ops [⟨(some 140), none, .mov (T 17)⟩, ⟨(some 141), none, .mov (T 11)⟩, ⟨(some 142), none, .mov (T 18)⟩, ⟨(some 143), none, .idxSl 1 (T 141) (T 142)⟩, ⟨(some 144), none, .load1 (T 143)⟩, ⟨(some 145), none, .int2 .add (T 140) (T 144)⟩, ⟨(some 17), none, .mov (T 145)⟩])) (.ops [⟨(some 138), none, .mov (T 18)⟩, ⟨(some 139), none, .int2 .add (T 138) (.const (.int .i64 (1)))⟩, ⟨(some 18), none, .mov (T 139)⟩])))))) (.seq (.ops [⟨(some 146), none, .mov (T 17)⟩, ⟨(some 147), none, .mov (T 9)⟩, ⟨(some 148), none, .int2 .eql (T 146) (T 147)⟩, ⟨(some 149), none, .mov (T 148)⟩, ⟨(some 150), (some (149, true)), .loadN 3 (T 3)⟩, ⟨(some 151), (some (149, true)), .call (.func 26) [(T 150)]⟩, ⟨(some 152), (some (149, true)), .mov (T 7)⟩, ⟨(some 153), (some (149, true)), .mov (T 8)⟩, ⟨(some 154), (some (149, true)), .call (.func 27) [(T 153)]⟩, ⟨(some 155), (some (149, true)), .mov (T 12)⟩, ⟨(some 156), (some (149, true)), .call (.func 49) [(T 151), (T 152), (T 154), (T 155)]⟩, ⟨(some 157), (some (149, true)), .not (T 156)⟩, ⟨(some 158), (some (149, true)), .mov (T 157)⟩, ⟨(some 159), (some (158, false)), .mov (T 8)⟩, ⟨(some 160), (some (158, false)), .mov (T 11)⟩, ⟨(some 161), (some (158, false)), .call (.func 66) [(T 159), (T 160)]⟩, ⟨(some 162), (some (158, false)), .not (T 161)⟩, ⟨(some 163), (some (149, true)), .pick (T 158) (.const (.bool true)) (T 162)⟩, ⟨(some 164), none, .pick (T 149) (T 163) (.const (.bool false))⟩, ⟨(some 165), none, .mov (T 164)⟩, ⟨(some 166), (some (165, true)), .call (.func 24) []⟩, ⟨(some 167), none, .pick (T 165) (T 166) (.const (.bool false))⟩, ⟨(some 6), none, .mov (T 167)⟩]) .ret)))))))))))))
end Go.Vm.Vat

namespace Go.Vm.Vat
open Go.Proofs
set_option linter.unusedSimpArgs false
set_option linter.unusedVariables false
set_option maxRecDepth 10000
variable {n : Nat} {h : AHeap}
/-! ### Of two yards with the same vats, one with no other truths than the other one -/
structure Inner (X Y : MY) : Prop where
  nf : X.nf = Y.nf
  nv : X.nv = Y.nv
  q : X.q = Y.q
  fx : faultN X = 0
  fy : faultN Y = 0
  ne : truths X ≠ []
  sub : ∀ t, t ∈ truths X → t ∈ truths Y
theorem Inner.ney {X Y : MY} (hi : Inner X Y) : truths Y ≠ [] := by
  obtain ⟨t, ht⟩ := List.exists_mem_of_ne_nil _ hi.ne
  exact List.ne_nil_of_mem (hi.sub t ht)
theorem Inner.lo {X Y : MY} (hi : Inner X Y) (val : (Nat → Int) → Int) : loN val (truths Y) ≤ loN val (truths X) := (le_loN hi.ne).2 fun t ht => (le_loN hi.ney).1 (Int.le_refl _) t (hi.sub t ht)
theorem Inner.hi {X Y : MY} (hi : Inner X Y) (val : (Nat → Int) → Int) : hiN val (truths X) ≤ hiN val (truths Y) := (hiN_le hi.ne).2 fun t ht => (hiN_le hi.ney).1 (Int.le_refl _) t (hi.sub t ht)
theorem Inner.with_ {X Y : MY} (hi : Inner X Y) (v f k : Nat) (t : Nat → Int) : blueWith X v f k t = blueWith Y v f k t := by unfold blueWith; rw [hi.nf, hi.q]
theorem Inner.enough {X Y : MY} (hi : Inner X Y) {v f : Nat} {b : Int} {k : Nat} (h : Enough Y v f b (truths Y) k) : Enough X v f b (truths X) k := fun t ht => by rw [hi.with_]; exact h t (hi.sub t ht)
end Go.Vm.Vat

namespace Go.Vm.Vat
open Go.Proofs
set_option linter.unusedSimpArgs false
set_option linter.unusedVariables false
set_option maxRecDepth 10000
variable {n : Nat} {h : AHeap}
end Go.Vm.Vat

namespace Go.Vm.Vat
open Go.Proofs
set_option linter.unusedSimpArgs false
set_option linter.unusedVariables false
set_option maxRecDepth 10000
variable {n : Nat} {h : AHeap}
/-! ### A yard of which another one is a wider one -/
structure Wid (Y X : MY) : Prop where
  nf : Y.nf = X.nf
  nv : Y.nv = X.nv
  q : Y.q = X.q
  ns : Y.ns = X.ns
  lo : ∀ k, k < Y.nf → X.lo k ≤ Y.lo k ∧ Y.hi k ≤ X.hi k
  right : ∀ c k, k < Y.ns → RightB Y c k → RightB X c k
theorem Wid.enum {Y X : MY} (hw : Wid Y X) {c : Nat → Int} (h : c ∈ enumB Y.lo Y.hi Y.nf 0 fun _ => 0) : c ∈ enumB X.lo X.hi X.nf 0 fun _ => 0 := by
  rw [enumB_ok] at h ⊢
  refine ⟨fun j h1 h2 => ?_, fun j hj => h.2 j (by have := hw.nf; omega)⟩
  have h3 := h.1 j h1 (by have := hw.nf; omega)
  have h4 := hw.lo j (by have := hw.nf; omega)
  omega
theorem Wid.truth {Y X : MY} (hw : Wid Y X) {t : Nat → Int} (h : t ∈ truths Y) : t ∈ truths X := by
  rw [truths_mem] at h ⊢
  obtain ⟨⟨h1, h2⟩, h3⟩ := h
  have e := hw.nf
  have e2 := hw.ns
  refine ⟨⟨fun j hj => ?_, fun j hj => h2 j (by omega)⟩, fun k hk => hw.right t k (by omega) (h3 k (by omega))⟩
  have h4 := h1 j (by omega)
  have h5 := hw.lo j (by omega)
  omega
theorem leave_len_le {Y : MY} : (leaveRun Y).length ≤ Y.ns := by
  rcases (leave_is (Y := Y)).1 with e | ⟨c, _, e⟩ <;> (rw [e]; exact pick_len _)
theorem sl_len {a b : List Int} (h : ¬ SL a b) : b.length ≤ a.length := by
  apply Classical.byContradiction
  intro hc
  exact h (.inl (by omega))
theorem leave_min {Y : MY} {c : Nat → Int} (hc : c ∈ enumB Y.lo Y.hi Y.nf 0 fun _ => 0) : (leaveRun Y).length ≤ (pickL (fun j => ¬ RightB Y c j) Y.ns).length := sl_len ((leave_is (Y := Y)).2 c hc)
theorem Wid.leave {Y X : MY} (hw : Wid Y X) : (leaveRun X).length ≤ (leaveRun Y).length := by
  rcases (leave_is (Y := Y)).1 with e | ⟨c, hc, e⟩
  · rw [e]
    have h1 := leave_len_le (Y := X)
    have h2 := (pick_sub (p := fun _ => True) (q := fun _ => True) Y.ns fun _ _ h => h).1
    have h3 : ∀ k, (pickL (fun _ => True) k).length = k := by
      intro k
      induction k with
      | zero => rfl
      | succ k ih => rw [pick_yes (p := fun _ => True) trivial, List.length_append, ih]; rfl
    rw [h3, hw.ns]
    exact h1
  · rw [e]
    refine Nat.le_trans (leave_min (hw.enum hc)) ?_
    rw [← hw.ns]
    exact (pick_sub Y.ns fun j hj h hr => h (hw.right c j hj hr)).1
/-- what a slice holds, as a list -/
def flatL (s m : Nat) (c : Nat → Nat → Value) : List Value := (List.range (m * s)).map fun i => c (i / s) (i % s)
theorem flatL_len {s m : Nat} {c : Nat → Nat → Value} : (flatL s m c).length = m * s := by simp [flatL]
theorem flatL_get {s m k j : Nat} {c : Nat → Nat → Value} (hk : k < m) (hj : j < s) : (flatL s m c)[k * s + j]? = some (c k j) := by
  have hlt : k * s + j < m * s := by
    have : (k + 1) * s ≤ m * s := Nat.mul_le_mul_right s hk
    rw [Nat.add_mul] at this
    omega
  unfold flatL
  rw [List.getElem?_map, List.getElem?_range hlt, Option.map_some, Nat.mul_comm k s, Nat.mul_add_div (by omega), Nat.div_eq_of_lt hj, Nat.mul_add_mod, Nat.mod_eq_of_lt hj, Nat.add_zero]
theorem Cells.list {v : Value} {s m : Nat} {c : Nat → Nat → Value} (hs : 0 < s) (hi : Cells h v s m c) : ∃ x k, v = .slice x m k ∧ cellsOfSlice h s v = some (flatL s m c) := by
  obtain ⟨x, cap, rfl, _, h0 | ⟨b, o, cs, w, gr, rfl, h1, h2⟩⟩ := hi
  · subst h0
    refine ⟨x, cap, rfl, ?_⟩
    cases x <;> simp [cellsOfSlice, flatL]
  · refine ⟨_, cap, rfl, ?_⟩
    by_cases hm : m = 0
    · subst hm; simp [cellsOfSlice, flatL]
    have hb : Nat.beq m 0 = false := by
      cases hb : Nat.beq m 0 with
      | false => rfl
      | true => exact absurd (beq_iff.1 hb) hm
    show (bif Nat.beq m 0 then some [] else match h.get b with
      | some (.row cs _ _) => dropK cs o fun r => takeK r (m * s) fun l => some l
      | _ => none) = _
    have hl := (List.getElem?_eq_some_iff.1 (h2 (m - 1) (s - 1) (by omega) (by omega))).1
    have hms : (m - 1) * s + s = m * s := by
      obtain ⟨p, rfl⟩ : ∃ p, m = p + 1 := ⟨m - 1, by omega⟩
      rw [Nat.add_sub_cancel, Nat.add_mul, Nat.one_mul]
    rw [hb, cond_false, h1]
    simp only [dropK_eq, takeK_eq]
    rw [if_pos (by omega), if_pos (by rw [List.length_drop]; omega)]
    congr 1
    apply List.ext_getElem?
    intro i
    simp only [List.getElem?_take, List.getElem?_drop]
    by_cases hi : i < m * s
    · rw [if_pos hi]
      have hd : i / s < m := (Nat.div_lt_iff_lt_mul hs).2 hi
      have hr : i % s < s := Nat.mod_lt _ hs
      have e : i / s * s + i % s = i := by have := Nat.div_add_mod i s; rw [Nat.mul_comm] at this; exact this
      have h3 := h2 (i / s) (i % s) hd hr
      have h4 := flatL_get (c := c) hd hr
      rw [e] at h4
      rw [h4, ← h3]
      congr 1
      omega
    · rw [if_neg hi, List.getElem?_eq_none (by rw [flatL_len]; omega)]
theorem cells_sub {g : AHeap} {v : Value} {s m : Nat} {c : Nat → Nat → Value} (hsub : Sub All h g) (hc : Cells h v s m c) (hs : 0 < s) {l : List Value} (hl : cellsOfSlice h s v = some l) : cellsOfSlice g s v = some l := by
  obtain ⟨x, k, e, h1⟩ := Cells.list hs hc
  obtain ⟨x', k', e', h2⟩ := Cells.list hs (hc.mono hsub)
  rw [h1] at hl
  rw [h2, hl]
theorem flatL_one {s m : Nat} {c : Nat → Nat → Int} : allB oneCell (flatL s m fun k j => .int .i64 (c k j)) = true := by rw [allB_iff]; intro v hv; obtain ⟨i, _, rfl⟩ := List.mem_map.1 hv; rfl
end Go.Vm.Vat

namespace Go.Vm.Vat
open Go.Proofs
set_option linter.unusedSimpArgs false
set_option linter.unusedVariables false
set_option maxRecDepth 10000
variable {n : Nat} {h : AHeap}
theorem build_none2 {a b : Value} : buildSl 2 0 [a, b] [] h [] = newSlice h [] 0 0 0 := id rfl
theorem cells_row {b s m cap : Nat} {cs : List Value} {c : Nat → Nat → Value} (hr : Row h b cs) (hc : ∀ k j, k < m → j < s → cs[k * s + j]? = some (c k j)) : Cells h (.slice (some ⟨b, 0, none⟩) m cap) s m c := by
  obtain ⟨w, gr, e⟩ := hr
  exact ⟨_, _, rfl, fun x e => by cases e; rfl, .inr ⟨b, 0, _, _, _, rfl, e, fun k j hk hj => by rw [Nat.zero_add]; exact hc k j hk hj⟩⟩
def s19 : SCode := (.seq (.ops [⟨(some 4), none, .box (T 0)⟩, ⟨(some 8), none, .mov (.const (.bool false))⟩]) (.seq (.seq (.ops [⟨(some 17), none, .loadN 3 (T 4)⟩, ⟨(some 18), none, .call (.func 62) [(T 17)]⟩, ⟨(some 19), none, .not (T 18)⟩, ⟨(some 20), none, .mov (T 19)⟩, ⟨(some 21), (some (20, false)), .fieldAddr 0 (T 4)⟩, ⟨(some 22), (some (20, false)), .load1 (T 21)⟩, ⟨(some 23), (some (20, false)), .len (T 22)⟩, ⟨(some 24), (some (20, false)), .int2 .eql (T 23) (.const (.int .i64 (0)))⟩, ⟨(some 25), none, .pick (T 20) (.const (.bool true)) (T 24)⟩, ⟨(some 26), none, .mov (T 25)⟩, ⟨(some 27), (some (26, false)), .fieldAddr 1 (T 4)⟩, ⟨(some 28), (some (26, false)), .load1 (T 27)⟩, ⟨(some 29), (some (26, false)), .len (T 28)⟩, ⟨(some 30), (some (26, false)), .int2 .eql (T 29) (.const (.int .i64 (0)))⟩, ⟨(some 31), none, .pick (T 26) (.const (.bool true)) (T 30)⟩]) (.cond (T 31) (.seq (.ops [⟨(some 32), none, .call (.func 24) []⟩, ⟨(some 8), none, .mov (T 32)⟩]) .ret) .skip)) (.seq (.ops [⟨(some 33), none, .loadN 3 (T 4)⟩, ⟨(some 9), none, .alloc [(.slice none 0 0), (.slice none 0 0), (.slice none 0 0)]⟩, ⟨none, none, .store 3 (T 9) (T 33)⟩]) (.seq (.draw [⟨.up, ⟨(some 34), none, .bslice 2 0 [(.int .i64 (0)), (.int .i64 (0))] [] []⟩⟩, ⟨.free, ⟨(some 35), none, .fieldAddr 0 (T 4)⟩⟩, ⟨.rd, ⟨(some 36), none, .load1 (T 35)⟩⟩, ⟨.up, ⟨(some 37), none, .append 2 16 (T 34) (T 36)⟩⟩, ⟨.up, ⟨(some 38), none, .bslice 3 0 [(.int .i64 (0)), (.int .i64 (0)), (.int .i64 (0))] [] []⟩⟩, ⟨.free, ⟨(some 39), none, .fieldAddr 2 (T 4)⟩⟩, ⟨.rd, ⟨(some 40), none, .load1 (T 39)⟩⟩, ⟨.any, ⟨(some 41), none, .append 3 24 (T 38) (T 40)⟩⟩, ⟨.free, ⟨(some 42), none, .fieldAddr 0 (T 9)⟩⟩, ⟨.any, ⟨none, none, .store 1 (T 42) (T 37)⟩⟩, ⟨.free, ⟨(some 43), none, .fieldAddr 2 (T 9)⟩⟩, ⟨.any, ⟨none, none, .store 1 (T 43) (T 41)⟩⟩]) (.seq (.seq (.ops [⟨(some 44), none, .mov (T 1)⟩, ⟨(some 45), none, .plain (.convert 5 3 (T 44)) 3⟩, ⟨(some 46), none, .fieldAddr 0 (T 9)⟩, ⟨(some 47), none, .load1 (T 46)⟩, ⟨(some 48), none, .len (T 47)⟩, ⟨(some 49), none, .fieldAddr 2 (T 9)⟩, ⟨(some 50), none, .load1 (T 49)⟩, ⟨(some 51), none, .len (T 50)⟩, ⟨(some 52), none, .int2 .add (T 48) (T 51)⟩, ⟨(some 53), none, .plain (.binOp .rem 3 (T 45) (T 52) 3) 3⟩, ⟨(some 10), none, .mov (T 53)⟩]) (.seq (.ops [⟨(some 54), none, .mov (T 10)⟩, ⟨(some 55), none, .fieldAddr 0 (T 9)⟩, ⟨(some 56), none, .load1 (T 55)⟩, ⟨(some 57), none, .len (T 56)⟩, ⟨(some 58), none, .int2 .lss (T 54) (T 57)⟩]) (.cond (T 58) (.seq (.ops [⟨(some 59), none, .fieldAddr 0 (T 9)⟩, ⟨(some 60), none, .load1 (T 59)⟩, ⟨(some 61), none, .mov (T 10)⟩, ⟨(some 62), none, .idxSl 2 (T 60) (T 61)⟩, ⟨(some 11), none, .mov (T 62)⟩]) (.draw [⟨.free, ⟨(some 63), none, .mov (T 11)⟩⟩, ⟨.free, ⟨(some 64), none, .mov (T 11)⟩⟩, ⟨.free, ⟨(some 65), none, .mov (T 11)⟩⟩, ⟨.free, ⟨(some 66), none, .there (T 65)⟩⟩, ⟨.free, ⟨(some 67), none, .fieldAddr 0 (T 66)⟩⟩, ⟨.rd1, ⟨(some 68), none, .load1 (T 67)⟩⟩, ⟨.free, ⟨(some 69), none, .mov (T 2)⟩⟩, ⟨.free, ⟨(some 70), none, .plain (.convert 5 3 (T 69)) 3⟩⟩, ⟨.free, ⟨(some 71), none, .plain (.binOp .rem 3 (T 70) (.const (.int .i64 (2))) 3) 3⟩⟩, ⟨.free, ⟨(some 72), none, .int2 .sub (T 68) (T 71)⟩⟩, ⟨.free, ⟨(some 73), none, .plain (.call { callee := .builtin .max, args := #[(.const (.int .i64 (0))), (T 72)], argTypes := #[3, 3] }) 3⟩⟩, ⟨.free, ⟨(some 74), none, .mov (T 11)⟩⟩, ⟨.free, ⟨(some 75), none, .there (T 74)⟩⟩, ⟨.free, ⟨(some 76), none, .fieldAddr 1 (T 75)⟩⟩, ⟨.rd1, ⟨(some 77), none, .load1 (T 76)⟩⟩, ⟨.free, ⟨(some 78), none, .mov (T 2)⟩⟩, ⟨.free, ⟨(some 79), none, .plain (.convert 5 3 (T 78)) 3⟩⟩, ⟨.free, ⟨(some 80), none, .plain (.binOp .quo 3 (T 79) (.const (.int .i64 (2))) 3) 3⟩⟩, ⟨.free, ⟨(some 81), none, .plain (.binOp .rem 3 (T 80) (.const (.int .i64 (2))) 3) 3⟩⟩, ⟨.free, ⟨(some 82), none, .int2 .add (T 77) (T 81)⟩⟩, ⟨.free, ⟨(some 83), none, .plain (.call { callee := .builtin .min, args := #[(.const (.int .i64 (20))), (T 82)], argTypes := #[3, 3] }) 3⟩⟩, ⟨.free, ⟨(some 84), none, .there (T 63)⟩⟩, ⟨.free, ⟨(some 85), none, .fieldAddr 0 (T 84)⟩⟩, ⟨.any, ⟨none, none, .store 1 (T 85) (T 73)⟩⟩, ⟨.free, ⟨(some 86), none, .there (T 64)⟩⟩, ⟨.free, ⟨(some 87), none, .fieldAddr 1 (T 86)⟩⟩, ⟨.any, ⟨none, none, .store 1 (T 87) (T 83)⟩⟩])) (.seq (.ops [⟨(some 88), none, .fieldAddr 2 (T 9)⟩, ⟨(some 89), none, .load1 (T 88)⟩, ⟨(some 90), none, .mov (T 10)⟩, ⟨(some 91), none, .fieldAddr 0 (T 9)⟩, ⟨(some 92), none, .load1 (T 91)⟩, ⟨(some 93), none, .len (T 92)⟩, ⟨(some 94), none, .int2 .sub (T 90) (T 93)⟩, ⟨(some 95), none, .idxSl 3 (T 89) (T 94)⟩, ⟨(some 96), none, .fieldAddr 1 (T 95)⟩, ⟨(some 12), none, .mov (T 96)⟩]) (.draw [⟨.free, ⟨(some 97), none, .mov (T 12)⟩⟩, ⟨.free, ⟨(some 98), none, .mov (T 12)⟩⟩, ⟨.free, ⟨(some 99), none, .mov (T 12)⟩⟩, ⟨.free, ⟨(some 100), none, .there (T 99)⟩⟩, ⟨.free, ⟨(some 101), none, .fieldAddr 0 (T 100)⟩⟩, ⟨.rd1, ⟨(some 102), none, .load1 (T 101)⟩⟩, ⟨.free, ⟨(some 103), none, .mov (T 2)⟩⟩, ⟨.free, ⟨(some 104), none, .plain (.convert 5 3 (T 103)) 3⟩⟩, ⟨.free, ⟨(some 105), none, .plain (.binOp .rem 3 (T 104) (.const (.int .i64 (3))) 3) 3⟩⟩, ⟨.free, ⟨(some 106), none, .int2 .sub (T 102) (T 105)⟩⟩, ⟨.free, ⟨(some 107), none, .plain (.call { callee := .builtin .max, args := #[(.const (.int .i64 (0))), (T 106)], argTypes := #[3, 3] }) 3⟩⟩, ⟨.free, ⟨(some 108), none, .mov (T 12)⟩⟩, ⟨.free, ⟨(some 109), none, .there (T 108)⟩⟩, ⟨.free, ⟨(some 110), none, .fieldAddr 1 (T 109)⟩⟩, ⟨.rd1, ⟨(some 111), none, .load1 (T 110)⟩⟩, ⟨.free, ⟨(some 112), none, .mov (T 2)⟩⟩, ⟨.free, ⟨(some 113), none, .plain (.convert 5 3 (T 112)) 3⟩⟩, ⟨.free, ⟨(some 114), none, .plain (.binOp .quo 3 (T 113) (.const (.int .i64 (3))) 3) 3⟩⟩, ⟨.free, ⟨(some 115), none, .plain (.binOp .rem 3 (T 114) (.const (.int .i64 (3))) 3) 3⟩⟩, ⟨.free, ⟨(some 116), none, .int2 .add (T 111) (T 115)⟩⟩, ⟨.free, ⟨(some 117), none, .plain (.call { callee := .builtin .min, args := #[(.const (.int .i64 (999))), (T 116)], argTypes := #[3, 3] }) 3⟩⟩, ⟨.free, ⟨(some 118), none, .there (T 97)⟩⟩, ⟨.free, ⟨(some 119), none, .fieldAddr 0 (T 118)⟩⟩, ⟨.any, ⟨none, none, .store 1 (T 119) (T 107)⟩⟩, ⟨.free, ⟨(some 120), none, .there (T 98)⟩⟩, ⟨.free, ⟨(some 121), none, .fieldAddr 1 (T 120)⟩⟩, ⟨.any, ⟨none, none, .store 1 (T 121) (T 117)⟩⟩]))))) (.seq (.seq (.ops [⟨(some 122), none, .loadN 3 (T 9)⟩, ⟨(some 123), none, .call (.func 62) [(T 122)]⟩, ⟨(some 124), none, .not (T 123)⟩]) (.cond (T 124) (.seq (.ops [⟨(some 125), none, .call (.func 24) []⟩, ⟨(some 8), none, .mov (T 125)⟩]) .ret) .skip)) (.seq (.ops [⟨(some 127), none, .loadN 3 (T 4)⟩, ⟨(some 128), none, .call (.func 26) [(T 127)]⟩, ⟨(some 129), none, .call (.func 54) [(T 128)]⟩, ⟨(some 126), none, .mov (T 129)⟩, ⟨(some 130), none, .extract 0 (T 126)⟩, ⟨(some 131), none, .extract 1 (T 126)⟩, ⟨(some 13), none, .mov (T 130)⟩, ⟨(some 14), none, .mov (T 131)⟩]) (.seq (.ops [⟨(some 133), none, .loadN 3 (T 9)⟩, ⟨(some 134), none, .call (.func 26) [(T 133)]⟩, ⟨(some 135), none, .call (.func 54) [(T 134)]⟩, ⟨(some 132), none, .mov (T 135)⟩, ⟨(some 136), none, .extract 0 (T 132)⟩, ⟨(some 137), none, .extract 1 (T 132)⟩, ⟨(some 15), none, .mov (T 136)⟩, ⟨(some 16), none, .mov (T 137)⟩]) (.seq (.seq (.ops [⟨(some 138), none, .mov (T 14)⟩, ⟨(some 139), none, .int2 .neq (T 138) (.const (.int .i64 (0)))⟩, ⟨(some 140), none, .mov (T 139)⟩, ⟨(some 141), (some (140, false)), .mov (T 16)⟩, ⟨(some 142), (some (140, false)), .int2 .neq (T 141) (.const (.int .i64 (0)))⟩, ⟨(some 143), none, .pick (T 140) (.const (.bool true)) (T 142)⟩, ⟨(some 144), none, .mov (T 143)⟩, ⟨(some 145), (some (144, false)), .mov (T 15)⟩, ⟨(some 146), (some (144, false)), .len (T 145)⟩, ⟨(some 147), (some (144, false)), .mov (T 13)⟩, ⟨(some 148), (some (144, false)), .len (T 147)⟩, ⟨(some 149), (some (144, false)), .int2 .gtr (T 146) (T 148)⟩, ⟨(some 150), none, .pick (T 144) (.const (.bool true)) (T 149)⟩]) (.cond (T 150) (.seq (.ops [⟨(some 8), none, .mov (.const (.bool false))⟩]) .ret) .skip)) (.seq (.draw [⟨.free, ⟨(some 151), none, .mov (T 13)⟩⟩, ⟨.free, ⟨(some 152), none, .len (T 151)⟩⟩, ⟨.free, ⟨(some 153), none, .int2 .gtr (T 152) (.const (.int .i64 (0)))⟩⟩, ⟨.free, ⟨(some 154), none, .mov (T 153)⟩⟩, ⟨.rd1, ⟨(some 155), (some (154, false)), .loadN 3 (T 4)⟩⟩, ⟨.rd1, ⟨(some 156), (some (154, false)), .loadN 3 (T 9)⟩⟩, ⟨.free, ⟨(some 157), (some (154, false)), .mov (T 3)⟩⟩, ⟨.free, ⟨(some 158), (some (154, false)), .plain (.convert 5 3 (T 157)) 3⟩⟩, ⟨.free, ⟨(some 159), (some (154, false)), .plain (.binOp .quo 3 (T 158) (.const (.int .i64 (8))) 3) 3⟩⟩, ⟨.free, ⟨(some 160), (some (154, false)), .fieldAddr 0 (T 4)⟩⟩, ⟨.rd1, ⟨(some 161), (some (154, false)), .load1 (T 160)⟩⟩, ⟨.free, ⟨(some 162), (some (154, false)), .len (T 161)⟩⟩, ⟨.free, ⟨(some 163), (some (154, false)), .plain (.binOp .rem 3 (T 159) (T 162) 3) 3⟩⟩, ⟨.free, ⟨(some 164), (some (154, false)), .mov (T 3)⟩⟩, ⟨.free, ⟨(some 165), (some (154, false)), .plain (.convert 5 3 (T 164)) 3⟩⟩, ⟨.any, ⟨(some 166), (some (154, false)), .call (.func 68) [(T 155), (T 156), (T 163), (T 165)]⟩⟩, ⟨.free, ⟨(some 167), none, .pick (T 154) (.const (.bool true)) (T 166)⟩⟩, ⟨.free, ⟨(some 168), none, .mov (T 167)⟩⟩, ⟨.any, ⟨(some 169), (some (168, true)), .call (.func 24) []⟩⟩, ⟨.free, ⟨(some 170), none, .pick (T 168) (T 169) (.const (.bool false))⟩⟩, ⟨.free, ⟨(some 8), none, .mov (T 170)⟩⟩]) .ret))))))))))
end Go.Vm.Vat

namespace Go.Vm.Vat
open Go.Proofs
set_option linter.unusedSimpArgs false
set_option linter.unusedVariables false
set_option maxRecDepth 10000
variable {n : Nat} {h : AHeap}
theorem guard49 : Try.prog.eqGuardType Try.prog.depth 49 = false := by kernel_rfl
theorem held49 : Try.prog.stoodInHeld 49 = false := by kernel_rfl
theorem neq49 {N : Nat} {f : Fr} {x y : Operand} {ty u : TypeId} {a0 a1 : Int} (hx : valN N f x = .agg ⟨[.int .i64 a0, .int .i64 a1]⟩) (hy : valN N f y = .agg ⟨[.int .i64 a0, .int .i64 a1]⟩) : plainF Try.prog N (.binOp .neq 49 x y u) ty f h = some (.bool false, h) := by
  rw [plainF_neqTwo hx hy guard49 Try.underlying49 held49 (by decide) (by decide) rfl rfl (by rfl) (by rfl)]
  simp
theorem self_range {x y : Int} : eqV (.agg ⟨[.int .i64 x, .int .i64 y]⟩) (.agg ⟨[.int .i64 x, .int .i64 y]⟩) = true := by simp [eqV, eqCells, eqCell, sameK, eqI_eq]
def s4 : SCode := (.seq (.ops [⟨(some 1), none, .box (T 0)⟩, ⟨(some 2), none, .mov (.const (.bool false))⟩]) (.seq (.seq (.ops [⟨(some 11), none, .loadN 3 (T 1)⟩, ⟨(some 12), none, .call (.func 23) [(T 11)]⟩, ⟨(some 13), none, .not (T 12)⟩]) (.cond (T 13) (.seq (.ops [⟨(some 14), none, .call (.func 24) []⟩, ⟨(some 2), none, .mov (T 14)⟩]) .ret) .skip)) (.seq (.ops [⟨(some 16), none, .loadN 3 (T 1)⟩, ⟨(some 17), none, .call (.func 26) [(T 16)]⟩, ⟨(some 18), none, .call (.func 34) [(T 17)]⟩, ⟨(some 15), none, .mov (T 18)⟩, ⟨(some 19), none, .extract 0 (T 15)⟩, ⟨(some 20), none, .extract 1 (T 15)⟩, ⟨(some 3), none, .mov (T 19)⟩, ⟨(some 4), none, .mov (T 20)⟩]) (.seq (.ops [⟨(some 22), none, .loadN 3 (T 1)⟩, ⟨(some 23), none, .call (.func 26) [(T 22)]⟩, ⟨(some 24), none, .call (.func 35) [(T 23)]⟩, ⟨(some 21), none, .mov (T 24)⟩, ⟨(some 25), none, .extract 0 (T 21)⟩, ⟨(some 26), none, .extract 1 (T 21)⟩, ⟨(some 5), none, .mov (T 25)⟩, ⟨(some 6), none, .mov (T 26)⟩]) (.seq (.ops [⟨(some 28), none, .loadN 3 (T 1)⟩, ⟨(some 29), none, .call (.func 36) [(T 28)]⟩, ⟨(some 27), none, .mov (T 29)⟩, ⟨(some 30), none, .extract 0 (T 27)⟩, ⟨(some 31), none, .extract 1 (T 27)⟩, ⟨(some 7), none, .mov (T 30)⟩, ⟨(some 8), none, .mov (T 31)⟩]) (.seq (.seq (.ops [⟨(some 32), none, .mov (T 8)⟩, ⟨(some 33), none, .int2 .neq (T 32) (.const (.int .i64 (0)))⟩]) (.cond (T 33) (.seq (.ops [⟨(some 34), none, .mov (T 4)⟩, ⟨(some 35), none, .mov (T 8)⟩, ⟨(some 36), none, .int2 .eql (T 34) (T 35)⟩, ⟨(some 37), none, .mov (T 36)⟩, ⟨(some 38), (some (37, true)), .mov (T 6)⟩, ⟨(some 39), (some (37, true)), .mov (T 8)⟩, ⟨(some 40), (some (37, true)), .int2 .eql (T 38) (T 39)⟩, ⟨(some 41), none, .pick (T 37) (T 40) (.const (.bool false))⟩, ⟨(some 42), none, .mov (T 41)⟩, ⟨(some 43), (some (42, true)), .mov (T 3)⟩, ⟨(some 44), (some (42, true)), .len (T 43)⟩, ⟨(some 45), (some (42, true)), .mov (T 5)⟩, ⟨(some 46), (some (42, true)), .len (T 45)⟩, ⟨(some 47), (some (42, true)), .int2 .add (T 44) (T 46)⟩, ⟨(some 48), (some (42, true)), .int2 .eql (T 47) (.const (.int .i64 (0)))⟩, ⟨(some 49), none, .pick (T 42) (T 48) (.const (.bool false))⟩, ⟨(some 50), none, .mov (T 49)⟩, ⟨(some 51), (some (50, true)), .call (.func 24) []⟩, ⟨(some 52), none, .pick (T 50) (T 51) (.const (.bool false))⟩, ⟨(some 2), none, .mov (T 52)⟩]) .ret) .skip)) (.seq (.seq (.ops [⟨(some 53), none, .mov (T 4)⟩, ⟨(some 54), none, .int2 .neq (T 53) (.const (.int .i64 (0)))⟩, ⟨(some 55), none, .mov (T 54)⟩, ⟨(some 56), (some (55, false)), .mov (T 6)⟩, ⟨(some 57), (some (55, false)), .int2 .neq (T 56) (.const (.int .i64 (0)))⟩, ⟨(some 58), none, .pick (T 55) (.const (.bool true)) (T 57)⟩, ⟨(some 59), none, .mov (T 58)⟩, ⟨(some 60), (some (59, false)), .mov (T 3)⟩, ⟨(some 61), (some (59, false)), .len (T 60)⟩, ⟨(some 62), (some (59, false)), .fieldAddr 1 (T 1)⟩, ⟨(some 63), (some (59, false)), .load1 (T 62)⟩, ⟨(some 64), (some (59, false)), .len (T 63)⟩, ⟨(some 65), (some (59, false)), .int2 .neq (T 61) (T 64)⟩, ⟨(some 66), none, .pick (T 59) (.const (.bool true)) (T 65)⟩, ⟨(some 67), none, .mov (T 66)⟩, ⟨(some 68), (some (67, false)), .mov (T 5)⟩, ⟨(some 69), (some (67, false)), .len (T 68)⟩, ⟨(some 70), (some (67, false)), .fieldAddr 0 (T 1)⟩, ⟨(some 71), (some (67, false)), .load1 (T 70)⟩, ⟨(some 72), (some (67, false)), .len (T 71)⟩, ⟨(some 73), (some (67, false)), .int2 .neq (T 69) (T 72)⟩, ⟨(some 74), none, .pick (T 67) (.const (.bool true)) (T 73)⟩]) (.cond (T 74) (.seq (.ops [⟨(some 2), none, .mov (.const (.bool false))⟩]) .ret) .skip)) (.seq (.seq (.ops [⟨(some 9), none, .mov (.const (.int .i64 (0)))⟩]) (.block 0 (.loop (.seq (.seq (.ops [⟨(some 75), none, .mov (T 9)⟩, ⟨(some 76), none, .mov (T 3)⟩, ⟨(some 77), none, .len (T 76)⟩, ⟨(some 78), none, .int2 .lss (T 75) (T 77)⟩]) (.cond (T 78) .skip (.exit 0))) (.seq (.block 1 (.seq (.draw [⟨.free, ⟨(some 81), none, .mov (T 3)⟩⟩, ⟨.free, ⟨(some 82), none, .mov (T 9)⟩⟩, ⟨.free, ⟨(some 83), none, .idxSl 2 (T 81) (T 82)⟩⟩, ⟨.rd, ⟨(some 84), none, .loadN 2 (T 83)⟩⟩, ⟨.rd1, ⟨(some 85), none, .loadN 3 (T 1)⟩⟩, ⟨.free, ⟨(some 86), none, .mov (T 7)⟩⟩, ⟨.free, ⟨(some 87), none, .mov (T 9)⟩⟩, ⟨.up, ⟨(some 88), none, .call (.func 38) [(T 85), (T 86), (T 87)]⟩⟩, ⟨.up, ⟨(some 89), none, .call (.func 37) [(T 88)]⟩⟩, ⟨.free, ⟨(some 90), none, .bin .neq (.binOp .neq 49 (T 84) (T 89) 49) 4 (T 84) (T 89)⟩⟩]) (.cond (T 90) (.seq (.ops [⟨(some 2), none, .mov (.const (.bool false))⟩]) .ret) .skip))) (.ops [⟨(some 79), none, .mov (T 9)⟩, ⟨(some 80), none, .int2 .add (T 79) (.const (.int .i64 (1)))⟩, ⟨(some 9), none, .mov (T 80)⟩])))))) (.seq (.seq (.ops [⟨(some 10), none, .mov (.const (.int .i64 (0)))⟩]) (.block 2 (.loop (.seq (.seq (.ops [⟨(some 91), none, .mov (T 10)⟩, ⟨(some 92), none, .mov (T 5)⟩, ⟨(some 93), none, .len (T 92)⟩, ⟨(some 94), none, .int2 .lss (T 91) (T 93)⟩]) (.cond (T 94) .skip (.exit 2))) (.seq (.block 3 (.seq (.draw [⟨.free, ⟨(some 97), none, .mov (T 5)⟩⟩, ⟨.free, ⟨(some 98), none, .mov (T 10)⟩⟩, ⟨.free, ⟨(some 99), none, .idxSl 2 (T 97) (T 98)⟩⟩, ⟨.rd, ⟨(some 100), none, .loadN 2 (T 99)⟩⟩, ⟨.free, ⟨(some 101), none, .mov (T 7)⟩⟩, ⟨.free, ⟨(some 102), none, .mov (T 10)⟩⟩, ⟨.up, ⟨(some 103), none, .call (.func 39) [(T 101), (T 102)]⟩⟩, ⟨.up, ⟨(some 104), none, .call (.func 37) [(T 103)]⟩⟩, ⟨.free, ⟨(some 105), none, .bin .neq (.binOp .neq 49 (T 100) (T 104) 49) 4 (T 100) (T 104)⟩⟩]) (.cond (T 105) (.seq (.ops [⟨(some 2), none, .mov (.const (.bool false))⟩]) .ret) .skip))) (.ops [⟨(some 95), none, .mov (T 10)⟩, ⟨(some 96), none, .int2 .add (T 95) (.const (.int .i64 (1)))⟩, ⟨(some 10), none, .mov (T 96)⟩])))))) (.seq (.ops [⟨(some 106), none, .call (.func 24) []⟩, ⟨(some 2), none, .mov (T 106)⟩]) .ret))))))))))
end Go.Vm.Vat

namespace Go.Vm.Vat
open Go.Proofs
set_option linter.unusedSimpArgs false
set_option linter.unusedVariables false
set_option maxRecDepth 10000
variable {n : Nat} {h : AHeap}
/-! ### A list of own lists, each of which may be written -/
theorem list_w (hn : 1 ≤ n) (hr : h.next + 2 < far) {v : Value} {m : Nat} {a : Nat → Int} (hi : Ints h v m a) (hm : m ≤ 30) (hm0 : 0 < m) :
    ∃ b h', call n (.func (.func 27) #[] #[]) [v] h = some (.slice (some ⟨b, 0, none⟩) m unk, h') ∧ h'.get b = some (.row (rowI m a) true 1) ∧ Made h h' 2 ∧ h.next ≤ b ∧ b < h'.next := by
  suffices hs : ∃ v' h', call n (.func (.func 27) #[] #[]) [v] h = some (v', h') ∧ ∃ b, v' = .slice (some ⟨b, 0, none⟩) m unk ∧ h'.get b = some (.row (rowI m a) true 1) ∧ Made h h' 2 ∧ h.next ≤ b ∧ b < h'.next by
    obtain ⟨v', h', e, b, rfl, h1⟩ := hs
    exact ⟨b, h', e, h1⟩
  obtain ⟨n, rfl⟩ : ∃ p, n = p + 1 := ⟨n - 1, by omega⟩
  refine call_any0 fok27 rfl rfl (by simp) ?_
  simp only [rn0, rn1, rn2, rn3, rn4, rn5, rn6, rn7, rn8, if_true, if_false, Nat.le_refl, true_and, and_true, decide_true, decide_false, Bool.not_true, Bool.not_false, reduceIte, Nat.reduceEqDiff, Nat.reduceAdd, Nat.reduceMul, Nat.reduceSub, Nat.reduceLeDiff, Nat.reduceLT, s27, build_none]
  refine step_slice (by omega) rfl fun h1 hx => ?_
  have hi1 := Cells.mono hi hx.sub
  obtain ⟨x, k, e1, e2⟩ := Ints.cells hi1
  have hap := append_none (s := 1) (bytes := 8) (b := h.next) ⟨x, k, e1⟩ e2 (by simp) (by simp [maxBytes]; omega) (by simp [maxBytes]; omega)
  rw [if_neg (by omega)] at hap
  simp only [rn0, rn1, rn2, rn3, rn4, rn5, rn6, rn7, rn8, if_true, if_false, Nat.le_refl, true_and, and_true, decide_true, decide_false, Bool.not_true, Bool.not_false, reduceIte, Nat.reduceEqDiff, Nat.reduceAdd, Nat.reduceMul, Nat.reduceSub, Nat.reduceLeDiff, Nat.reduceLT, hap]
  refine step_slice (by rw [hx.next]; omega) (by rw [allB_iff]; intro v hv; obtain ⟨i, _, rfl⟩ := List.mem_map.1 hv; rfl) fun h2 hx2 => ?_
  simp only [rn0, rn1, rn2, rn3, rn4, rn5, rn6, rn7, rn8, if_true, if_false, Nat.le_refl, true_and, and_true, decide_true, decide_false, Bool.not_true, Bool.not_false, reduceIte, Nat.reduceEqDiff, Nat.reduceAdd, Nat.reduceMul, Nat.reduceSub, Nat.reduceLeDiff, Nat.reduceLT]
  exact ⟨h1.next, rfl, hx2.get, ⟨hx.sub.trans hx2.sub, by rw [hx2.next, hx.next]; omega, by rw [hx2.next, hx.next]; omega, by rw [hx2.floor, hx.floor]⟩, by rw [hx.next]; omega, by rw [hx2.next]; omega⟩
/-- n own lists of m numbers each -/
def DRows (B : Nat) (h : AHeap) (v : Value) (n m : Nat) (q : Nat → Nat → Int) : Prop :=
  ∃ bk : Nat → Nat, GrowC B h v 1 n (fun k _ => .slice (some ⟨bk k, 0, none⟩) m unk) ∧ ∀ k, k < n → h.get (bk k) = some (.row (rowI m (q k)) true 1) ∧ B ≤ bk k ∧ bk k < h.next ∧ (∀ b c d, v = .slice (some b) c d → bk k ≠ b.block) ∧ ∀ j, j < n → j ≠ k → bk j ≠ bk k
theorem DRows.nil {B m : Nat} {q : Nat → Nat → Int} : DRows B h nilS 0 m q := ⟨fun _ => 0, .nil, fun k hk => by omega⟩
theorem DRows.rows {B n m : Nat} {v : Value} {q : Nat → Nat → Int} (hd : DRows B h v n m q) : Rows h v n (fun _ => m) q := by
  obtain ⟨bk, h1, h2⟩ := hd
  exact ⟨_, h1.cells, fun k hk => rowI_ints (w := 0) ⟨_, _, (h2 k hk).1⟩⟩
theorem DRows.keep {B o n m : Nat} {g : AHeap} {v : Value} {q : Nat → Nat → Int} (hd : DRows B h v n m q) (hk : Keep o h g) (ho : o < B) : DRows B g v n m q := by
  obtain ⟨bk, h1, h2⟩ := hd
  refine ⟨bk, h1.keep hk ho, fun k hkn => ?_⟩
  obtain ⟨a1, a2, a3, a4, a5⟩ := h2 k hkn
  exact ⟨hk.sub _ _ _ _ (by omega) a1, a2, Nat.lt_of_lt_of_le a3 hk.up, a4, a5⟩
theorem DRows.sub {B n m : Nat} {g : AHeap} {v : Value} {q : Nat → Nat → Int} (hd : DRows B h v n m q) (hs : Sub All h g) (hup : h.next ≤ g.next) : DRows B g v n m q := by
  obtain ⟨bk, h1, h2⟩ := hd
  refine ⟨bk, h1.sub hs, fun k hkn => ?_⟩
  obtain ⟨a1, a2, a3, a4, a5⟩ := h2 k hkn
  exact ⟨hs _ _ _ _ trivial a1, a2, Nat.lt_of_lt_of_le a3 hup, a4, a5⟩
theorem DRows.push {B n m b : Nat} {g h1 : AHeap} {v : Value} {q : Nat → Nat → Int} (hd : DRows B g v n m q) (hs : Sub All g h) (hup : g.next ≤ h.next) (hbg : g.next ≤ b) (hB : h.floor ≤ B) (hf : h.next + 2 < far) (hBn : B ≤ g.next) (hl : h.get b = some (.row (rowI m (q n)) true 1)) (hb : b < h.next) (hx : New h h1 [.slice (some ⟨b, 0, none⟩) m unk] 0) (hn : n + 1 ≤ 1000) :
    ∃ v' g', appendA 1 24 h1 v (.slice (some ⟨h.next, 0, none⟩) 1 1) = some (v', g') ∧ DRows B g' v' (n + 1) m q ∧ Kept h1 g' v ∧ oneCell v' = true ∧ (∀ a k c, v = .slice (some a) k c → B ≤ a.block) ∧ v' = .slice (some ⟨h1.next, 0, none⟩) (n + 1) unk := by
  obtain ⟨bk, g1, g2⟩ := hd
  have hnx := hx.next
  have hfl := hx.floor
  let bk' : Nat → Nat := fun i => if i = n then b else bk i
  have g1' : GrowC B h1 v 1 n (fun k _ => .slice (some ⟨bk' k, 0, none⟩) m unk) := ((g1.sub hs).sub hx.sub).congr fun k j hk hj => by show Value.slice (some ⟨bk k, 0, none⟩) m unk = .slice (some ⟨if k = n then b else bk k, 0, none⟩) m unk; rw [if_neg (by omega)]
  obtain ⟨v', g', e, ev, gv, hk⟩ := g1'.append (bytes := 24) (cap := 1) (by omega) (by omega) (by omega) hx.get rfl rfl (fun j hj => by rw [one_get j hj]; show some _ = some (Value.slice (some ⟨if n = n then b else bk n, 0, none⟩) m unk); rw [if_pos rfl]) (by simp [maxBytes]; omega) (by simp [maxBytes]; omega)
  have hkn := hk.next
  refine ⟨v', g', e, ⟨bk', gv, fun i hi => ?_⟩, hk, gv.one, fun a k c e => (g1.block e).1, ev⟩
  have hout : ∀ x c d, v' = .slice (some x) c d → x.block = h1.next := fun x c d e' => by rw [ev] at e'; cases e'; rfl
  by_cases hin : i = n
  · subst hin
    have hbi : bk' i = b := by show (if i = i then b else bk i) = b; rw [if_pos rfl]
    rw [hbi]
    refine ⟨?_, by omega, by omega, fun x c d e' => by have := hout x c d e'; omega, fun j hj hji => ?_⟩
    · rw [hk.old b (by omega) fun x c d e' => by have := (g1.block e').2; omega, hx.old b hb]; exact hl
    · show (if j = i then b else bk j) ≠ b
      rw [if_neg hji]; have := (g2 j (by omega)).2.2.1; omega
  · have hbi : bk' i = bk i := by show (if i = n then b else bk i) = bk i; rw [if_neg hin]
    rw [hbi]
    obtain ⟨a1, a2, a3, a4, a5⟩ := g2 i (by omega)
    refine ⟨?_, a2, by omega, fun x c d e' => by have := hout x c d e'; omega, fun j hj hji => ?_⟩
    · rw [hk.old (bk i) (by omega) fun x c d e' => a4 x c d e', hx.old (bk i) (by omega)]; exact hs _ _ _ _ trivial a1
    · show (if j = n then b else bk j) ≠ bk i
      by_cases e : j = n
      · rw [if_pos e]; omega
      · rw [if_neg e]; exact a5 j (by omega) hji
/-- the yard without its samples; with one bundle more -/
def bare (Y : MY) : MY := { Y with ns := 0 }
end Go.Vm.Vat

namespace Go.Vm.Vat
open Go.Proofs
set_option linter.unusedSimpArgs false
set_option linter.unusedVariables false
set_option maxRecDepth 10000
variable {n : Nat} {h : AHeap}
/-! ### Two numbers exchanged -/
def tp (a b k : Nat) : Nat := if k = a then b else if k = b then a else k
section
variable {a b k m : Nat} {f g : Nat → Int} {x : Int}
theorem tp_tp : tp a b (tp a b k) = k := by
  unfold tp
  by_cases h1 : k = a
  · rw [if_pos h1]
    by_cases h2 : b = a
    · rw [if_pos h2]; omega
    · rw [if_neg h2, if_pos rfl]; omega
  · rw [if_neg h1]
    by_cases h2 : k = b
    · rw [if_pos h2, if_pos rfl]; omega
    · rw [if_neg h2, if_neg h1, if_neg h2]
theorem tp_comm : tp a b k = tp b a k := by
  unfold tp
  by_cases h1 : k = a
  · rw [if_pos h1]
    by_cases h2 : k = b
    · rw [if_pos h2]; omega
    · rw [if_neg h2, if_pos h1]
  · rw [if_neg h1, if_neg h1]
theorem tp_lt (ha : a < m) (hb : b < m) (hk : k < m) : tp a b k < m := by
  unfold tp
  by_cases h1 : k = a
  · rw [if_pos h1]; exact hb
  · rw [if_neg h1]
    by_cases h2 : k = b
    · rw [if_pos h2]; exact ha
    · rw [if_neg h2]; exact hk
theorem tp_ge (ha : a < m) (hb : b < m) (hk : m ≤ k) : tp a b k = k := by
  unfold tp
  rw [if_neg (by omega), if_neg (by omega)]
theorem tp_int : (if (k : Int) = (a : Int) then (b : Int) else if (k : Int) = (b : Int) then (a : Int) else (k : Int)) = ((tp a b k : Nat) : Int) := by
  unfold tp
  by_cases h1 : k = a
  · rw [if_pos h1, if_pos (by omega)]
  · rw [if_neg h1, if_neg (by omega)]
    by_cases h2 : k = b
    · rw [if_pos h2, if_pos (by omega)]
    · rw [if_neg h2, if_neg (by omega)]
/-- what two stores leave -/
theorem tp_set {α : Type} {F : Nat → α} : (fun k => if k = b then F a else if k = a then F b else F k) = fun k => F (tp a b k) := by
  funext k
  rw [tp_comm]
  unfold tp
  by_cases h1 : k = b
  · rw [if_pos h1, if_pos h1]
  · rw [if_neg h1, if_neg h1]
    by_cases h2 : k = a
    · rw [if_pos h2, if_pos h2]
    · rw [if_neg h2, if_neg h2]
def sumN (f : Nat → Int) : Nat → Int
  | 0 => 0
  | n + 1 => sumN f n + f n
def mulN (f : Nat → Int) : Nat → Int
  | 0 => 1
  | n + 1 => mulN f n * f n
theorem sumN_congr : ∀ n, (∀ k, k < n → f k = g k) → sumN f n = sumN g n
  | 0, _ => rfl
  | n + 1, hh => by simp only [sumN]; rw [sumN_congr n fun k hk => hh k (by omega), hh n (by omega)]
theorem mulN_congr : ∀ n, (∀ k, k < n → f k = g k) → mulN f n = mulN g n
  | 0, _ => rfl
  | n + 1, hh => by simp only [mulN]; rw [mulN_congr n fun k hk => hh k (by omega), hh n (by omega)]
theorem sumN_set : ∀ n, a < n → sumN (fun k => if k = a then x else f k) n + f a = sumN f n + x
  | 0, h => by omega
  | n + 1, h => by
    simp only [sumN]
    by_cases e : n = a
    · subst e
      rw [if_pos rfl, sumN_congr (g := f) n fun k hk => if_neg (by omega)]
      omega
    · rw [if_neg e]
      have := sumN_set n (by omega)
      omega
theorem mulN_set : ∀ n, a < n → mulN (fun k => if k = a then x else f k) n * f a = mulN f n * x
  | 0, h => by omega
  | n + 1, h => by
    simp only [mulN]
    by_cases e : n = a
    · subst e
      rw [if_pos rfl, mulN_congr (g := f) n fun k hk => if_neg (by omega), Int.mul_right_comm]
    · rw [if_neg e]
      have := mulN_set n (by omega)
      rw [Int.mul_right_comm, this, Int.mul_right_comm]
theorem tp_last (hb : b < m) (hk : k < m) : f (tp m b k) = if k = b then f m else f k := by
  unfold tp
  rw [if_neg (by omega)]
  by_cases e : k = b
  · rw [if_pos e, if_pos e]
  · rw [if_neg e, if_neg e]
theorem tp_at : tp m b m = b := by unfold tp; rw [if_pos rfl]
theorem tp_self : tp a a k = k := by
  unfold tp
  by_cases h : k = a
  · rw [if_pos h]; omega
  · rw [if_neg h, if_neg h]
theorem sumN_tp : ∀ n, a < n → b < n → sumN (fun k => f (tp a b k)) n = sumN f n
  | 0, h, _ => by omega
  | n + 1, ha, hb => by
    by_cases e : a = b
    · subst e; exact sumN_congr _ fun k _ => by rw [tp_self]
    by_cases ea : a = n
    · subst ea
      simp only [sumN]
      rw [tp_at, sumN_congr (g := fun k => if k = b then f a else f k) a fun k hk => tp_last (by omega) hk]
      exact sumN_set a (by omega)
    by_cases eb : b = n
    · subst eb
      have : (fun k => f (tp a b k)) = fun k => f (tp b a k) := by funext k; rw [tp_comm]
      rw [this]
      simp only [sumN]
      rw [tp_at, sumN_congr (g := fun k => if k = a then f b else f k) b fun k hk => tp_last (by omega) hk]
      exact sumN_set b (by omega)
    simp only [sumN]
    rw [sumN_tp n (by omega) (by omega), tp_ge (m := n) (by omega) (by omega) (Nat.le_refl _)]
theorem mulN_tp : ∀ n, a < n → b < n → mulN (fun k => f (tp a b k)) n = mulN f n
  | 0, h, _ => by omega
  | n + 1, ha, hb => by
    by_cases e : a = b
    · subst e; exact mulN_congr _ fun k _ => by rw [tp_self]
    by_cases ea : a = n
    · subst ea
      simp only [mulN]
      rw [tp_at, mulN_congr (g := fun k => if k = b then f a else f k) a fun k hk => tp_last (by omega) hk]
      exact mulN_set a (by omega)
    by_cases eb : b = n
    · subst eb
      have : (fun k => f (tp a b k)) = fun k => f (tp b a k) := by funext k; rw [tp_comm]
      rw [this]
      simp only [mulN]
      rw [tp_at, mulN_congr (g := fun k => if k = a then f b else f k) b fun k hk => tp_last (by omega) hk]
      exact mulN_set b (by omega)
    simp only [mulN]
    rw [mulN_tp n (by omega) (by omega), tp_ge (m := n) (by omega) (by omega) (Nat.le_refl _)]
end
theorem blueN_sum {b q : Nat → Int} : ∀ n, blueN b q n = sumN (fun k => b k * q k) n
  | 0 => rfl
  | n + 1 => by simp only [blueN, sumN]; rw [blueN_sum n]
theorem sizeN_mul {lo hi : Nat → Int} : ∀ n, sizeN lo hi n = mulN (fun k => hi k - lo k + 1) n
  | 0 => rfl
  | n + 1 => by simp only [sizeN, mulN]; rw [sizeN_mul n]
theorem blueN_tp {b q : Nat → Int} {i j m : Nat} (hi : i < m) (hj : j < m) : blueN (fun k => b (tp i j k)) (fun k => q (tp i j k)) m = blueN b q m := by
  rw [blueN_sum, blueN_sum]
  exact sumN_tp (f := fun k => b k * q k) m hi hj
theorem blueN_tp' {b q : Nat → Int} {i j m : Nat} (hi : i < m) (hj : j < m) : blueN b (fun k => q (tp i j k)) m = blueN (fun k => b (tp i j k)) q m := by
  rw [← blueN_tp (b := fun k => b (tp i j k)) (q := q) hi hj]
  congr 1
  funext k
  rw [tp_tp]
/-- two fields exchanged; two vats exchanged -/
def turnF (Y : MY) (a b : Nat) : MY := { Y with lo := fun k => Y.lo (tp a b k), hi := fun k => Y.hi (tp a b k), cnt := fun _ => Y.nf, q := fun v k => Y.q v (tp a b k) }
def turnV (Y : MY) (c d : Nat) : MY := { Y with cnt := fun v => Y.cnt (tp c d v), q := fun v => Y.q (tp c d v), sv := fun i => ((tp c d (Y.sv i).toNat : Nat) : Int) }
section
variable {Y : MY} {a b : Nat}
theorem turnF_many (hG : Good Y) (ha : a < Y.nf) (hb : b < Y.nf) : manyN (turnF Y a b).lo (turnF Y a b).hi Y.nf = manyN Y.lo Y.hi Y.nf := by
  have h1 := sizeN_many (lo := Y.lo) (hi := Y.hi) hG.sz.1 hG.f Y.nf (Nat.le_refl _)
  have h2 := sizeN_many (lo := (turnF Y a b).lo) (hi := (turnF Y a b).hi) hG.sz.1 (fun k hk => hG.f _ (tp_lt ha hb hk)) Y.nf (Nat.le_refl _)
  rw [h1, h2, sizeN_mul, sizeN_mul]
  congr 1
  exact mulN_tp (f := fun k => Y.hi k - Y.lo k + 1) Y.nf ha hb
theorem turnF_fault (hf : faultN Y = 0) (ha : a < Y.nf) (hb : b < Y.nf) : faultN (turnF Y a b) = 0 := by
  have hG := good_of hf
  have h1 : SizesOk (turnF Y a b) := hG.sz
  have h2 : FieldsOk (turnF Y a b) := fun k hk => hG.f _ (tp_lt ha hb hk)
  have h3 : VatsOk (turnF Y a b) := fun v hv => ⟨rfl, fun k hk => by
    obtain ⟨e1, e2⟩ := hG.v v hv
    exact e2 _ (by rw [e1]; exact tp_lt ha hb hk)⟩
  have h4 : SampsOk (turnF Y a b) := hG.s
  have hm : manyN (turnF Y a b).lo (turnF Y a b).hi (turnF Y a b).nf = manyN Y.lo Y.hi Y.nf := turnF_many hG ha hb
  unfold faultN at hf ⊢
  rw [if_neg (by simpa using hG.sz), if_pos ⟨hG.f, hG.v, hG.s⟩] at hf
  rw [if_neg (by simpa using h1), if_pos ⟨h2, h3, h4⟩, hm]
  exact hf
theorem turnV_fault (hf : faultN Y = 0) (ha : a < Y.nv) (hb : b < Y.nv) : faultN (turnV Y a b) = 0 := by
  have hG := good_of hf
  have h1 : SizesOk (turnV Y a b) := hG.sz
  have h2 : FieldsOk (turnV Y a b) := hG.f
  have h3 : VatsOk (turnV Y a b) := fun v hv => hG.v _ (tp_lt ha hb hv)
  have h4 : SampsOk (turnV Y a b) := fun k hk => by
    obtain ⟨⟨e1, e2⟩, e3⟩ := hG.s k hk
    have h5 := tp_lt ha hb (k := (Y.sv k).toNat) (by omega)
    refine ⟨⟨?_, ?_⟩, e3⟩
    · show (0 : Int) ≤ ((tp a b (Y.sv k).toNat : Nat) : Int); omega
    · show ((tp a b (Y.sv k).toNat : Nat) : Int) ≤ (Y.nv : Int) - 1; omega
  unfold faultN at hf ⊢
  rw [if_neg (by simpa using hG.sz), if_pos ⟨hG.f, hG.v, hG.s⟩] at hf
  rw [if_neg (by simpa using h1), if_pos ⟨h2, h3, h4⟩]
  exact hf
theorem turnF_blue (ha : a < Y.nf) (hb : b < Y.nf) (t : Nat → Int) (v : Nat) : blueN t ((turnF Y a b).q v) Y.nf = blueN (fun k => t (tp a b k)) (Y.q v) Y.nf := blueN_tp' ha hb
theorem turnF_truth (ha : a < Y.nf) (hb : b < Y.nf) {t : Nat → Int} : t ∈ truths (turnF Y a b) ↔ (fun k => t (tp a b k)) ∈ truths Y := by
  rw [truths_mem, truths_mem]
  constructor
  · rintro ⟨⟨h1, h2⟩, h3⟩
    refine ⟨⟨fun j hj => ?_, fun j hj => ?_⟩, fun k hk => ?_⟩
    · have := h1 (tp a b j) (tp_lt ha hb hj)
      simp only [turnF, tp_tp] at this
      exact this
    · have := h2 j hj
      simp only [tp_ge ha hb hj]
      exact this
    · have := h3 k hk
      unfold RightB at this ⊢
      rw [show (turnF Y a b).nf = Y.nf from rfl, turnF_blue ha hb] at this
      exact this
  · rintro ⟨⟨h1, h2⟩, h3⟩
    refine ⟨⟨fun j hj => ?_, fun j hj => ?_⟩, fun k hk => ?_⟩
    · have := h1 (tp a b j) (tp_lt ha hb hj)
      simp only [tp_tp] at this
      exact this
    · have := h2 j hj
      simp only [tp_ge ha hb hj] at this
      exact this
    · have := h3 k hk
      unfold RightB at this ⊢
      rw [show (turnF Y a b).nf = Y.nf from rfl, turnF_blue ha hb]
      exact this
theorem turnV_truth {t : Nat → Int} : t ∈ truths (turnV Y a b) ↔ t ∈ truths Y := by
  have e : ∀ k, RightB (turnV Y a b) t k ↔ RightB Y t k := fun k => by
    unfold RightB
    have : (turnV Y a b).q ((turnV Y a b).sv k).toNat = Y.q (Y.sv k).toNat := by
      show Y.q (tp a b ((tp a b (Y.sv k).toNat : Nat) : Int).toNat) = _
      rw [Int.toNat_natCast, tp_tp]
    rw [this]
    exact Iff.rfl
  rw [truths_mem, truths_mem]
  constructor
  · rintro ⟨h1, h2⟩; exact ⟨h1, fun k hk => (e k).1 (h2 k hk)⟩
  · rintro ⟨h1, h2⟩; exact ⟨h1, fun k hk => (e k).2 (h2 k hk)⟩
theorem loN_map {val val' : (Nat → Int) → Int} {L L' : List (Nat → Int)} (hL : L ≠ []) (hL' : L' ≠ []) (h1 : ∀ t, t ∈ L → ∃ t', t' ∈ L' ∧ val' t' = val t) (h2 : ∀ t', t' ∈ L' → ∃ t, t ∈ L ∧ val t = val' t') : loN val L = loN val' L' := by
  refine Int.le_antisymm ((le_loN hL').2 fun t' ht' => ?_) ((le_loN hL).2 fun t ht => ?_)
  · obtain ⟨t, ht, e⟩ := h2 t' ht'
    rw [← e]; exact (le_loN hL).1 (Int.le_refl _) t ht
  · obtain ⟨t', ht', e⟩ := h1 t ht
    rw [← e]; exact (le_loN hL').1 (Int.le_refl _) t' ht'
theorem hiN_map {val val' : (Nat → Int) → Int} {L L' : List (Nat → Int)} (hL : L ≠ []) (hL' : L' ≠ []) (h1 : ∀ t, t ∈ L → ∃ t', t' ∈ L' ∧ val' t' = val t) (h2 : ∀ t', t' ∈ L' → ∃ t, t ∈ L ∧ val t = val' t') : hiN val L = hiN val' L' := by
  refine Int.le_antisymm ((hiN_le hL).2 fun t ht => ?_) ((hiN_le hL').2 fun t' ht' => ?_)
  · obtain ⟨t', ht', e⟩ := h1 t ht
    rw [← e]; exact (hiN_le hL').1 (Int.le_refl _) t' ht'
  · obtain ⟨t, ht, e⟩ := h2 t' ht'
    rw [← e]; exact (hiN_le hL).1 (Int.le_refl _) t ht
theorem turnF_back (ha : a < Y.nf) (hb : b < Y.nf) {t : Nat → Int} (ht : t ∈ truths Y) : (fun k => t (tp a b k)) ∈ truths (turnF Y a b) := by
  rw [turnF_truth ha hb]
  simp only [tp_tp]
  exact ht
theorem turnF_nil (ha : a < Y.nf) (hb : b < Y.nf) : truths (turnF Y a b) = [] ↔ truths Y = [] := by
  constructor
  · intro h0
    rcases hL : truths Y with _ | ⟨t, l⟩
    · rfl
    · have := turnF_back ha hb (Y := Y) (t := t) (by rw [hL]; exact List.mem_cons_self ..)
      rw [h0] at this; cases this
  · intro h0
    rcases hL : truths (turnF Y a b) with _ | ⟨t, l⟩
    · rfl
    · have := (turnF_truth ha hb (Y := Y) (t := t)).1 (by rw [hL]; exact List.mem_cons_self ..)
      rw [h0] at this; cases this
theorem turnV_nil : truths (turnV Y a b) = [] ↔ truths Y = [] := by
  constructor
  · intro h0
    rcases hL : truths Y with _ | ⟨t, l⟩
    · rfl
    · have := (turnV_truth (Y := Y) (a := a) (b := b) (t := t)).2 (by rw [hL]; exact List.mem_cons_self ..)
      rw [h0] at this; cases this
  · intro h0
    rcases hL : truths (turnV Y a b) with _ | ⟨t, l⟩
    · rfl
    · have := (turnV_truth (Y := Y) (t := t)).1 (by rw [hL]; exact List.mem_cons_self ..)
      rw [h0] at this; cases this
theorem turnF_ends (ha : a < Y.nf) (hb : b < Y.nf) (he : truths Y ≠ []) (v : Nat) :
    loN (fun t => blueN t ((turnF Y a b).q v) (turnF Y a b).nf) (truths (turnF Y a b)) = loN (fun t => blueN t (Y.q v) Y.nf) (truths Y) ∧ hiN (fun t => blueN t ((turnF Y a b).q v) (turnF Y a b).nf) (truths (turnF Y a b)) = hiN (fun t => blueN t (Y.q v) Y.nf) (truths Y) := by
  have he' := (not_congr (turnF_nil ha hb)).2 he
  have h1 : ∀ t, t ∈ truths (turnF Y a b) → ∃ t', t' ∈ truths Y ∧ blueN t' (Y.q v) Y.nf = blueN t ((turnF Y a b).q v) (turnF Y a b).nf := fun t ht => ⟨_, (turnF_truth ha hb).1 ht, (turnF_blue ha hb t v).symm⟩
  have h2 : ∀ t', t' ∈ truths Y → ∃ t, t ∈ truths (turnF Y a b) ∧ blueN t ((turnF Y a b).q v) (turnF Y a b).nf = blueN t' (Y.q v) Y.nf := fun t ht => ⟨_, turnF_back ha hb ht, by
    rw [show (turnF Y a b).nf = Y.nf from rfl, turnF_blue ha hb]
    simp only [tp_tp]⟩
  exact ⟨loN_map he' he h1 h2, hiN_map he' he h1 h2⟩
theorem turnV_ends (he : truths Y ≠ []) (v : Nat) :
    loN (fun t => blueN t ((turnV Y a b).q (tp a b v)) (turnV Y a b).nf) (truths (turnV Y a b)) = loN (fun t => blueN t (Y.q v) Y.nf) (truths Y) ∧ hiN (fun t => blueN t ((turnV Y a b).q (tp a b v)) (turnV Y a b).nf) (truths (turnV Y a b)) = hiN (fun t => blueN t (Y.q v) Y.nf) (truths Y) := by
  have he' := (not_congr (turnV_nil (a := a) (b := b))).2 he
  have hq : (turnV Y a b).q (tp a b v) = Y.q v := by show Y.q (tp a b (tp a b v)) = _; rw [tp_tp]
  rw [hq]
  exact ⟨loN_map he' he (fun t ht => ⟨t, turnV_truth.1 ht, rfl⟩) fun t ht => ⟨t, turnV_truth.2 ht, rfl⟩, hiN_map he' he (fun t ht => ⟨t, turnV_truth.1 ht, rfl⟩) fun t ht => ⟨t, turnV_truth.2 ht, rfl⟩⟩
end
/-! ### What stays when another list grows -/
theorem GrowC.at' {B s n : Nat} {g : AHeap} {v : Value} {c : Nat → Nat → Value} (hg : GrowC B h v s n c) (he : ∀ a k cap, v = .slice (some a) k cap → g.get a.block = h.get a.block) : GrowC B g v s n c := by
  obtain ⟨cs, ⟨rfl, rfl, rfl⟩ | ⟨b, rfl, h2, h3, h4⟩, h5, h6⟩ := hg
  · exact .nil
  · exact ⟨cs, .inr ⟨b, rfl, by rw [he _ _ _ rfl]; exact h2, h3, h4⟩, h5, h6⟩
theorem DRows.kept {B m n n' : Nat} {g : AHeap} {v w : Value} {q : Nat → Nat → Int} {c : Nat → Nat → Value} (hd : DRows B h v n m q) (hm : 0 < m) (hw : GrowC B h w 1 n' c) (hc : ∀ k, k < n' → ∃ a j cap, c k 0 = .slice a j cap) (hk : Kept h g w)
    (hne : ∀ a k cap a' k' cap', v = .slice (some a) k cap → w = .slice (some a') k' cap' → a.block ≠ a'.block) : DRows B g v n m q := by
  obtain ⟨bk, h1, h2⟩ := hd
  have hnx := hk.next
  refine ⟨bk, GrowC.at' h1 fun a k cap e => hk.old _ (h1.block e).2 fun a' k' cap' e' => hne _ _ _ _ _ _ e e', fun k hkn => ?_⟩
  obtain ⟨a1, a2, a3, a4, a5⟩ := h2 k hkn
  refine ⟨?_, a2, by omega, a4, a5⟩
  rw [hk.old _ a3 fun a' k' cap' e' heq => ?_]
  · exact a1
  · obtain ⟨cs, ⟨rfl, _, _⟩ | ⟨b, rfl, w2, w3, _⟩, _, w5⟩ := hw
    · cases e'
    · cases e'
      simp only at heq
      rw [heq, w2] at a1
      simp only [Option.some.injEq, AObj.row.injEq] at a1
      have hcs := a1.1
      have hlen : cs.length = m := by rw [hcs, rowI_len]
      have hn' : 0 < n' := by omega
      have h3 := w5 0 0 hn' (by omega)
      obtain ⟨aa, j, cap, e3⟩ := hc 0 hn'
      rw [hcs, show 0 * 1 + 0 = 0 from rfl, rowI_get hm, e3] at h3
      cases h3
end Go.Vm.Vat
