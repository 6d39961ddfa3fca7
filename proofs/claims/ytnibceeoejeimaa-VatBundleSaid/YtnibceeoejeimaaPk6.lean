/- Texts of the proofs of this seat, put together: VatBounds, VmEq2, VatBounds2, VatReady, VatEnds, VatEnds2, VatSIter, VatIter2, VatWrong, VatFirst, VatSpread, VatMore, VatSpread2, VatSpread3, VatBefore, VatLeave, VatSome, VatFirstL, VatShort, VatSpPure, VatSpPut, VatNeeds2, VatNeeds3, VatNeeded, VatNoBetter, VatCloser, VatLeftA, VatWiderP, VatWiderL, VatBounds3, VatBundleP, VatBundleL, VatBundle2. -/
import Derived.Test.YtnibceeoejeimaaPk5
import Derived.Laws.Entries

namespace Go.Vm.Vat
open Go.Proofs
set_option linter.unusedSimpArgs false
set_option linter.unusedVariables false
set_option maxRecDepth 10000
variable {n : Nat} {h : AHeap}
/-! ### Bounds in all truths -/
def maxN (x : Int) (a : Nat → Int) : Nat → Int
  | 0 => x
  | i + 1 => max (maxN x a i) (a i)
theorem map_splice {F F' : Nat → Value} {m off : Nat} {vs : List Value} (hl : off + vs.length ≤ m) (h1 : ∀ i, i < m → (i < off ∨ off + vs.length ≤ i) → F' i = F i) (h2 : ∀ j, j < vs.length → vs[j]? = some (F' (off + j))) :
    splice ((List.range m).map F) off vs = (List.range m).map F' := by
  apply List.ext_getElem?
  intro i
  have hlen : ((List.range m).map F).length = m := by simp
  simp only [splice]
  by_cases hi : i < m
  · rw [List.getElem?_map, List.getElem?_range hi]
    by_cases c1 : i < off
    · rw [List.getElem?_append_left (by simp [hlen]; omega), List.getElem?_take, if_pos c1, List.getElem?_map, List.getElem?_range hi]
      simp [h1 i hi (.inl c1)]
    · rw [List.getElem?_append_right (by simp [hlen]; omega)]
      have e : (List.take off ((List.range m).map F)).length = off := by simp [hlen]; omega
      rw [e]
      by_cases c2 : i < off + vs.length
      · rw [List.getElem?_append_left (by omega), h2 (i - off) (by omega)]
        simp [show off + (i - off) = i by omega]
      · rw [List.getElem?_append_right (by omega), List.getElem?_drop, show off + vs.length + (i - off - vs.length) = i by omega, List.getElem?_map, List.getElem?_range hi]
        simp [h1 i hi (.inr (by omega))]
  · rw [List.getElem?_eq_none (by simp; omega), List.getElem?_eq_none (by simp [hlen]; omega)]
theorem splice2 {a b c d : Value} : splice [a, b] 0 [c, d] = [c, d] := rfl
/-- so many ranges of which the first k are there -/
def mixR (k : Nat) (lo hi : Nat → Int) (i : Nat) : Value := .int .i64 (if i < 2 * k then (if i % 2 = 0 then lo (i / 2) else hi (i / 2)) else 0)
theorem mixR_one {m k : Nat} {lo hi : Nat → Int} : allB oneCell ((List.range m).map (mixR k lo hi)) = true := by rw [allB_iff]; intro v hv; obtain ⟨i, _, rfl⟩ := List.mem_map.1 hv; rfl
theorem mixR_splice {m k : Nat} {lo hi : Nat → Int} (hk : k < m) : splice ((List.range (2 * m)).map (mixR k lo hi)) (k * 2) [.int .i64 (lo k), .int .i64 (hi k)] = (List.range (2 * m)).map (mixR (k + 1) lo hi) := by
  refine map_splice (by simp; omega) (fun i hi hc => ?_) (fun j hj => ?_)
  · simp only [List.length_cons, List.length_nil] at hc
    simp only [mixR]
    congr 1
    by_cases c : i < 2 * k
    · rw [if_pos c, if_pos (by omega)]
    · rw [if_neg c, if_neg (by omega)]
  · simp only [List.length_cons, List.length_nil] at hj
    rcases j with _ | _ | j
    · simp only [mixR, Nat.add_zero, List.getElem?_cons_zero]
      rw [if_pos (by omega), if_pos (by omega), show k * 2 / 2 = k by omega]
    · simp only [mixR, List.getElem?_cons_succ, List.getElem?_cons_zero]
      rw [if_pos (by omega), if_neg (by omega), show (k * 2 + (0 + 1)) / 2 = k by omega]
    · omega
theorem repl_mixR {m : Nat} {lo hi : Nat → Int} : repl [.int .i64 0, .int .i64 0] m = (List.range (2 * m)).map (mixR 0 lo hi) := by
  have h0 : ∀ i, mixR 0 lo hi i = .int .i64 0 := fun i => by simp [mixR]
  have : ∀ m, repl [(.int .i64 0 : Value), .int .i64 0] m = List.replicate (2 * m) (.int .i64 0) := by
    intro m
    induction m with
    | zero => rfl
    | succ m ih => rw [repl, ih, show 2 * (m + 1) = 2 * m + 1 + 1 by omega, List.replicate_succ, List.replicate_succ]; rfl
  rw [this]
  apply List.ext_getElem?
  intro i
  by_cases hi : i < 2 * m
  · rw [List.getElem?_replicate, if_pos hi, List.getElem?_map, List.getElem?_range hi]; simp [h0]
  · rw [List.getElem?_eq_none (by simp; omega), List.getElem?_eq_none (by simp; omega)]
theorem make_ranges {z : List Value} {m : Nat} (hm : m ≤ 1000) : makeSl 2 16 z h (.int .i64 (m : Int)) (.int .i64 (m : Int)) = newSlice h (repl z m) m m 0 := by
  show (bif Nat.ble m m && Nat.ble (m * 16) maxBytes && Nat.ble m maxBytes then newSlice h (repl z m) m m 0 else none) = _
  have e1 : Nat.ble m m = true := ble_iff.2 (Nat.le_refl _)
  have e2 : Nat.ble (m * 16) maxBytes = true := ble_iff.2 (by simp [maxBytes]; omega)
  have e3 : Nat.ble m maxBytes = true := ble_iff.2 (by simp [maxBytes]; omega)
  rw [e1, e2, e3]; rfl
theorem idxSl_s {s k m c o : Nat} (hk : k < m) : indexSl s (.slice (some ⟨o, 0, none⟩) m c) (.int .i64 (k : Int)) = some (.pointer (some ⟨o, k * s, none⟩)) := by
  show placeAt ⟨o, 0, none⟩ (Int.ofNat k) m s = _
  unfold placeAt
  simp only [blt_iff.2 hk, cond_true, Nat.zero_add]
/-- the bounds of what is measured -/
def loN (val : (Nat → Int) → Int) (L : List (Nat → Int)) : Int := minN (val (L.getD 0 fun _ => 0)) (fun i => val (L.getD (i + 1) fun _ => 0)) (L.length - 1)
def hiN (val : (Nat → Int) → Int) (L : List (Nat → Int)) : Int := maxN (val (L.getD 0 fun _ => 0)) (fun i => val (L.getD (i + 1) fun _ => 0)) (L.length - 1)
theorem maxN_le {x : Int} {a : Nat → Int} {b : Int} : ∀ m, maxN x a m ≤ b ↔ x ≤ b ∧ ∀ i, i < m → a i ≤ b
  | 0 => by simp [maxN]
  | m + 1 => by
    simp only [maxN]
    rw [Int.max_le, maxN_le m]
    constructor
    · rintro ⟨⟨h1, h2⟩, h3⟩
      refine ⟨h1, fun i hi => ?_⟩
      by_cases e : i = m
      · subst e; exact h3
      · exact h2 i (by omega)
    · rintro ⟨h1, h2⟩
      exact ⟨⟨h1, fun i hi => h2 i (by omega)⟩, h2 m (by omega)⟩
theorem all_getD {L : List (Nat → Int)} (hL : L ≠ []) {p : (Nat → Int) → Prop} : (p (L.getD 0 fun _ => 0) ∧ ∀ i, i < L.length - 1 → p (L.getD (i + 1) fun _ => 0)) ↔ ∀ t, t ∈ L → p t := by
  have hpos : 0 < L.length := List.length_pos_iff.2 hL
  have hget : ∀ i, (hi : i < L.length) → L.getD i (fun _ => 0) = L[i] := fun i hi => by rw [List.getD_eq_getElem?_getD, List.getElem?_eq_getElem hi]; rfl
  constructor
  · rintro ⟨h1, h2⟩ t ht
    obtain ⟨i, hi, rfl⟩ := List.getElem_of_mem ht
    cases i with
    | zero => rw [← hget 0 hi]; exact h1
    | succ i => rw [← hget (i + 1) hi]; exact h2 i (by omega)
  · intro ht
    refine ⟨ht _ (by rw [hget 0 hpos]; exact List.getElem_mem hpos), fun i hi => ?_⟩
    have hi' : i + 1 < L.length := by omega
    exact ht _ (by rw [hget (i + 1) hi']; exact List.getElem_mem hi')
theorem le_loN {val : (Nat → Int) → Int} {L : List (Nat → Int)} (hL : L ≠ []) {b : Int} : b ≤ loN val L ↔ ∀ t, t ∈ L → b ≤ val t := by
  unfold loN; rw [le_minN]; exact all_getD hL (p := fun t => b ≤ val t)
theorem hiN_le {val : (Nat → Int) → Int} {L : List (Nat → Int)} (hL : L ≠ []) {b : Int} : hiN val L ≤ b ↔ ∀ t, t ∈ L → val t ≤ b := by
  unfold hiN; rw [maxN_le]; exact all_getD hL (p := fun t => val t ≤ b)
def s90 : SCode := (.seq (.ops [⟨(some 3), none, .box (T 0)⟩, ⟨(some 4), none, .box (T 1)⟩, ⟨(some 6), none, .mov (.const (.slice none 0 0))⟩]) (.seq (.ops [⟨(some 14), none, .mov (T 2)⟩, ⟨(some 15), none, .mkslice 2 16 [(.int .i64 (0)), (.int .i64 (0))] (T 14) (T 14)⟩, ⟨(some 7), none, .mov (T 15)⟩]) (.seq (.seq (.ops [⟨(some 16), none, .mov (T 2)⟩, ⟨(some 17), none, .mov (.const (.int .i64 (0)))⟩]) (.block 0 (.loop (.seq (.ops [⟨(some 18), none, .int2 .lss (T 17) (T 16)⟩]) (.seq (.cond (T 18) .skip (.exit 0)) (.seq (.block 1 (.seq (.ops [⟨(some 19), none, .mov (T 17)⟩, ⟨(some 8), none, .mov (T 19)⟩]) (.seq (.draw [⟨.free, ⟨(some 20), none, .fieldAddr 0 (T 3)⟩⟩, ⟨.rd1, ⟨(some 21), none, .load1 (T 20)⟩⟩, ⟨.rd1, ⟨(some 22), none, .loadN 4 (T 4)⟩⟩, ⟨.free, ⟨(some 23), none, .fieldAddr 3 (T 4)⟩⟩, ⟨.rd1, ⟨(some 24), none, .load1 (T 23)⟩⟩, ⟨.free, ⟨(some 25), none, .idxSl 5 (T 24) (.const (.int .i64 (0)))⟩⟩, ⟨.rd1, ⟨(some 26), none, .loadN 5 (T 25)⟩⟩, ⟨.free, ⟨(some 27), none, .mov (T 8)⟩⟩, ⟨.any, ⟨(some 28), none, .call (T 21) [(T 22), (T 26), (T 27)]⟩⟩, ⟨.free, ⟨(some 9), none, .mov (T 28)⟩⟩]) (.seq (.ops [⟨(some 29), none, .mov (T 9)⟩, ⟨(some 30), none, .mov (T 9)⟩, ⟨(some 31), none, .build #[(0, 1), (1, 1)] [(.int .i64 (0)), (.int .i64 (0))] [0, 1] [(T 29), (T 30)]⟩, ⟨(some 10), none, .alloc [(.int .i64 (0)), (.int .i64 (0))]⟩, ⟨none, none, .store 2 (T 10) (T 31)⟩]) (.seq (.seq (.ops [⟨(some 32), none, .fieldAddr 3 (T 4)⟩, ⟨(some 33), none, .load1 (T 32)⟩, ⟨(some 34), none, .slice 5 (T 33) (some (.const (.int .i64 (1)))) none none⟩, ⟨(some 35), none, .len (T 34)⟩, ⟨(some 36), none, .mov (.const (.int .i64 (0)))⟩]) (.block 2 (.loop (.seq (.ops [⟨(some 37), none, .int2 .lss (T 36) (T 35)⟩]) (.seq (.cond (T 37) .skip (.exit 2)) (.seq (.block 3 (.seq (.ops [⟨(some 38), none, .idxSl 5 (T 34) (T 36)⟩, ⟨(some 39), none, .loadN 5 (T 38)⟩, ⟨(some 12), none, .alloc [(.int .i64 (0)), (.int .i64 (0)), (.int .i64 (0)), (.int .i64 (0)), (.int .i64 (0))]⟩, ⟨none, none, .store 5 (T 12) (T 39)⟩]) (.seq (.ops [⟨(some 40), none, .fieldAddr 0 (T 3)⟩, ⟨(some 41), none, .load1 (T 40)⟩, ⟨(some 42), none, .loadN 4 (T 4)⟩, ⟨(some 43), none, .loadN 5 (T 12)⟩, ⟨(some 44), none, .mov (T 8)⟩, ⟨(some 45), none, .call (T 41) [(T 42), (T 43), (T 44)]⟩, ⟨(some 13), none, .mov (T 45)⟩]) (.draw [⟨.free, ⟨(some 46), none, .fieldAddr 0 (T 10)⟩⟩, ⟨.rd, ⟨(some 47), none, .load1 (T 46)⟩⟩, ⟨.free, ⟨(some 48), none, .mov (T 13)⟩⟩, ⟨.up, ⟨(some 49), none, .bslice 1 1 [(.int .i64 (0))] [0] [(T 48)]⟩⟩, ⟨.up, ⟨(some 50), none, .call (.func 94) [(T 47), (T 49)]⟩⟩, ⟨.free, ⟨(some 51), none, .fieldAddr 1 (T 10)⟩⟩, ⟨.rd, ⟨(some 52), none, .load1 (T 51)⟩⟩, ⟨.free, ⟨(some 53), none, .mov (T 13)⟩⟩, ⟨.free, ⟨(some 54), none, .plain (.call { callee := .builtin .max, args := #[(T 52), (T 53)], argTypes := #[3, 3] }) 3⟩⟩, ⟨.free, ⟨(some 55), none, .build #[(0, 1), (1, 1)] [(.int .i64 (0)), (.int .i64 (0))] [0, 1] [(T 50), (T 54)]⟩⟩, ⟨.any, ⟨none, none, .store 2 (T 10) (T 55)⟩⟩])))) (.ops [⟨(some 56), none, .int2 .add (T 36) (.const (.int .i64 (1)))⟩, ⟨(some 36), none, .mov (T 56)⟩]))))))) (.ops [⟨(some 57), none, .mov (T 7)⟩, ⟨(some 58), none, .mov (T 8)⟩, ⟨(some 59), none, .loadN 2 (T 10)⟩, ⟨(some 60), none, .idxSl 2 (T 57) (T 58)⟩, ⟨none, none, .store 2 (T 60) (T 59)⟩])))))) (.ops [⟨(some 61), none, .int2 .add (T 17) (.const (.int .i64 (1)))⟩, ⟨(some 17), none, .mov (T 61)⟩]))))))) (.seq (.ops [⟨(some 62), none, .mov (T 7)⟩, ⟨(some 6), none, .mov (T 62)⟩]) .ret))))
theorem fok90 : FnOk Try.prog 90 63 s90 [.tmp 6] := ⟨Try.f90, _, Try.func90, rfl, Try.ntmps90, by kernel_rfl, by kernel_rfl⟩
theorem bounds_c (hn : 10020 ≤ n) (hr : h.next + 200000 < far) (hfl : h.floor ≤ h.next) {F V S tv : Value} {L : List (Nat → Int)} {G m : Nat} {val : Nat → (Nat → Int) → Int} (ho4 : allB oneCell [F, V, S, tv] = true) (hL : L ≠ []) (hlen : L.length ≤ 2000) (htr : TruthsR h tv L) (hlong : Long tv) (hm : m ≤ 5)
    (hG : ∀ g, Sub All h g → g.next + 100 < far → ∀ k, k < m → ∀ t, t ∈ L → call (n - 1) (.func (.func G) #[] #[]) [.agg ⟨[F, V, S, tv]⟩, .agg ⟨arr t⟩, .int .i64 (k : Int)] g = some (.int .i64 (val k t), g)) :
    ∃ v h', call n (.func (.func 90) #[] #[]) [.agg ⟨[.func (.func G) #[] #[]]⟩, .agg ⟨[F, V, S, tv]⟩, .int .i64 (m : Int)] h = some (v, h') ∧ Ranges h' v m (fun k => loN (val k) L) (fun k => hiN (val k) L) ∧ Made h h' 100000 := by
  obtain ⟨n, rfl⟩ : ∃ p, n = p + 1 := ⟨n - 1, by omega⟩
  rw [Nat.add_sub_cancel] at hG
  have hpos : 0 < L.length := List.length_pos_iff.2 hL
  have hat : ∀ i, i < L.length → L.getD i (fun _ => 0) ∈ L := fun i hi => by rw [List.getD_eq_getElem?_getD, List.getElem?_eq_getElem hi]; exact List.getElem_mem hi
  refine call_any0 fok90 rfl rfl (by simp) ?_
  simp only [s90, W_seq, W_ops]
  refine ops_box (cs := [.func (.func G) #[] #[]]) (by omega) rfl rfl fun g1 hx1 => ?_
  refine ops_box (cs := [F, V, S, tv]) (by rw [hx1.next]; omega) rfl ho4 fun g2 hx2 => ?_
  have n1 := hx1.next
  have n2 := hx2.next
  have f1 := hx1.floor
  have f2 := hx2.floor
  simp only [rn0, rn1, rn2, rn3, rn4, rn5, rn6, rn7, rn8, if_true, if_false, Nat.le_refl, true_and, and_true, decide_true, decide_false, Bool.not_true, Bool.not_false, reduceIte, Nat.reduceEqDiff, Nat.reduceAdd, Nat.reduceMul, Nat.reduceSub, Nat.reduceLeDiff, Nat.reduceLT, make_ranges (m := m) (by omega), repl_mixR (m := m) (lo := fun k => loN (val k) L) (hi := fun k => hiN (val k) L)]
  refine step_slice (by omega) mixR_one fun g3 hx3 => ?_
  have n3 := hx3.next
  have f3 := hx3.floor
  have r1 := (hx1.row.mono hx2.sub).mono hx3.sub
  have r2 := hx2.row.mono hx3.sub
  have s3 : Sub All h g3 := hx1.sub.trans (hx2.sub.trans hx3.sub)
  have hro : g3.get g2.next = some (.row ((List.range (2 * m)).map (mixR 0 (fun k => loN (val k) L) (fun k => hiN (val k) L))) true 0) := hx3.get
  simp only [rn0, rn1, rn2, rn3, rn4, rn5, rn6, rn7, rn8, if_true, if_false, Nat.le_refl, true_and, and_true, decide_true, decide_false, Bool.not_true, Bool.not_false, reduceIte, Nat.reduceEqDiff, Nat.reduceAdd, Nat.reduceMul, Nat.reduceSub, Nat.reduceLeDiff, Nat.reduceLT]
  refine W_loop m (fun k f g ms => (Keep g2.next g3 g ∧ g.get g2.next = some (.row ((List.range (2 * m)).map (mixR k (fun k => loN (val k) L) (fun k => hiN (val k) L))) true 0) ∧ g.next ≤ g3.next + 5000 * k) ∧ ms = [] ∧ f 3 = .pointer (some ⟨h.next, 0, none⟩) ∧ f 4 = .pointer (some ⟨g1.next, 0, none⟩) ∧
    f 7 = .slice (some ⟨g2.next, 0, none⟩) m m ∧ f 16 = .int .i64 (m : Int) ∧ f 17 = .int .i64 (k : Int)) (by simp; omega) ?_ ?_ ?_
  · simp only [rn0, rn1, rn2, rn3, rn4, rn5, rn6, rn7, rn8, if_true, if_false, Nat.le_refl, true_and, and_true, decide_true, decide_false, Bool.not_true, Bool.not_false, reduceIte, Nat.reduceEqDiff, Nat.reduceAdd, Nat.reduceMul, Nat.reduceSub, Nat.reduceLeDiff, Nat.reduceLT]
    exact ⟨⟨Keep.refl, hro, by omega⟩, rfl⟩
  · rintro k f g ms hk ⟨⟨st, go, gn⟩, rfl, p3, p4, p7, p16, p17⟩
    have hk' : (k : Int) < (m : Int) := by omega
    have hw : wrapF .i64 ((k : Int) + 1) = ((k + 1 : Nat) : Int) := by rw [wrap_in (by omega) (by omega)]; rfl
    have hup := st.up
    have hfg := st.floor
    have sg : Sub All h g := fun i cs w gr t hg => st.sub _ _ _ _ (by have := AHeap.lt_of_get hg; omega) (s3 _ _ _ _ t hg)
    have r1g := r1.keep st (by omega)
    have r2g := r2.keep st (by omega)
    have htg : TruthsR g tv L := Cells.mono htr sg
    have i0 : indexSl 5 tv (.int .i64 0) = some (ptrO tv 5 0 0) := Cells.idx htg hpos
    have e0 := hG g sg (by omega) k hk _ (hat 0 hpos)
    simp only [rn0, rn1, rn2, rn3, rn4, rn5, rn6, rn7, rn8, if_true, if_false, Nat.le_refl, true_and, and_true, decide_true, decide_false, Bool.not_true, Bool.not_false, reduceIte, Nat.reduceEqDiff, Nat.reduceAdd, Nat.reduceMul, Nat.reduceSub, Nat.reduceLeDiff, Nat.reduceLT, p3, p4, p7, p16, p17, hk']
    refine W_draw All ?_
    simp only [rn0, rn1, rn2, rn3, rn4, rn5, rn6, rn7, rn8, if_true, if_false, Nat.le_refl, true_and, and_true, decide_true, decide_false, Bool.not_true, Bool.not_false, reduceIte, Nat.reduceEqDiff, Nat.reduceAdd, Nat.reduceMul, Nat.reduceSub, Nat.reduceLeDiff, Nat.reduceLT, p3, p4, p7, p16, p17, r1g.ld, r2g.whole (n := 4) rfl, r2g.ld, Nat.zero_add, List.getElem?_cons_zero, List.getElem?_cons_succ, i0, truths_ld htg hpos, e0, build_range]
    generalize hv0 : val k (L.getD 0 fun _ => 0) = v0
    refine step_new (vs := [.int .i64 v0, .int .i64 v0]) (by omega) (by omega) rfl (by simp only [rn0, rn1, rn2, rn3, rn4, rn5, rn6, rn7, rn8, if_true, if_false, Nat.le_refl, true_and, and_true, decide_true, decide_false, Bool.not_true, Bool.not_false, reduceIte, Nat.reduceEqDiff, Nat.reduceAdd, Nat.reduceMul, Nat.reduceSub, Nat.reduceLeDiff, Nat.reduceLT]; rfl) rfl rfl rfl fun g4 hx4 => ?_
    have n4 := hx4.next
    have f4 := hx4.floor
    have r2g4 := r2g.mono hx4.sub
    obtain ⟨tl, g5, et, _, s5, u5, b5, f5, o5, htl⟩ := tail_c (Cells.mono htg hx4.sub) hpos hlong (by omega)
    have ht5 := htl g5 (Cells.mono (Cells.mono htg hx4.sub) s5)
    simp only [rn0, rn1, rn2, rn3, rn4, rn5, rn6, rn7, rn8, if_true, if_false, Nat.le_refl, true_and, and_true, decide_true, decide_false, Bool.not_true, Bool.not_false, reduceIte, Nat.reduceEqDiff, Nat.reduceAdd, Nat.reduceMul, Nat.reduceSub, Nat.reduceLeDiff, Nat.reduceLT, p3, p4, p7, p16, p17, r2g4.ld, Nat.zero_add, List.getElem?_cons_zero, List.getElem?_cons_succ, Option.isSome_none, Option.map_some, Option.map_none, et, Cells.len ht5]
    have r10 : g5.get g.next = some (.row [.int .i64 v0, .int .i64 v0] true 0) := s5 _ _ _ _ trivial hx4.get
    refine W_loop (L.length - 1) (fun i f g' ms => (Keep g.next g5 g' ∧ g'.get g.next = some (.row [.int .i64 (minN v0 (fun i => val k (L.getD (i + 1) fun _ => 0)) i), .int .i64 (maxN v0 (fun i => val k (L.getD (i + 1) fun _ => 0)) i)] true 0) ∧ g'.next ≤ g5.next + 2 * i) ∧ ms = [] ∧
      f 3 = .pointer (some ⟨h.next, 0, none⟩) ∧ f 4 = .pointer (some ⟨g1.next, 0, none⟩) ∧ f 7 = .slice (some ⟨g2.next, 0, none⟩) m m ∧ f 16 = .int .i64 (m : Int) ∧ f 17 = .int .i64 (k : Int) ∧ f 8 = .int .i64 (k : Int) ∧ f 10 = .pointer (some ⟨g.next, 0, none⟩) ∧
      f 34 = tl ∧ f 35 = .int .i64 ((L.length - 1 : Nat) : Int) ∧ f 36 = .int .i64 (i : Int)) (by simp; omega) ?_ ?_ ?_
    · simp only [rn0, rn1, rn2, rn3, rn4, rn5, rn6, rn7, rn8, if_true, if_false, Nat.le_refl, true_and, and_true, decide_true, decide_false, Bool.not_true, Bool.not_false, reduceIte, Nat.reduceEqDiff, Nat.reduceAdd, Nat.reduceMul, Nat.reduceSub, Nat.reduceLeDiff, Nat.reduceLT, p3, p4, p7, p16, p17]
      exact ⟨⟨Keep.refl, r10, by omega⟩, rfl⟩
    · rintro i f g' ms hi ⟨⟨kin, gi, gin⟩, rfl, p3, p4, p7, p16, p17, p8, p10, p34, p35, p36⟩
      have hi' : (i : Int) < ((L.length - 1 : Nat) : Int) := by omega
      have hwi : wrapF .i64 ((i : Int) + 1) = ((i + 1 : Nat) : Int) := by rw [wrap_in (by omega) (by omega)]; rfl
      have kup := kin.up
      have kfl := kin.floor
      have sg5 : Sub All h g5 := sg.trans (hx4.sub.trans s5)
      have sg' : Sub All h g' := fun j cs w gr t hg => kin.sub _ _ _ _ (by have := AHeap.lt_of_get hg; omega) (sg5 _ _ _ _ t hg)
      have ht' := htl g' (Cells.mono htr sg')
      have hld : loadAgg 5 g' (ptrO tl 5 i 0) = some (.agg ⟨arr (L.getD (i + 1) fun _ => 0)⟩) := by
        rw [Cells.ldN ht' hi (by omega) (by omega)]; simp [arr, List.range_succ]
      have r1' := ((r1g.mono hx4.sub).mono s5).keep kin (by omega)
      have r2' := ((r2g.mono hx4.sub).mono s5).keep kin (by omega)
      simp only [rn0, rn1, rn2, rn3, rn4, rn5, rn6, rn7, rn8, if_true, if_false, Nat.le_refl, true_and, and_true, decide_true, decide_false, Bool.not_true, Bool.not_false, reduceIte, Nat.reduceEqDiff, Nat.reduceAdd, Nat.reduceMul, Nat.reduceSub, Nat.reduceLeDiff, Nat.reduceLT, p3, p4, p7, p8, p10, p16, p17, p34, p35, p36, hi', Cells.idx ht' hi, hld]
      refine step_new (vs := arr (L.getD (i + 1) fun _ => 0)) (by omega) (by omega) rfl (by simp only [rn0, rn1, rn2, rn3, rn4, rn5, rn6, rn7, rn8, if_true, if_false, Nat.le_refl, true_and, and_true, decide_true, decide_false, Bool.not_true, Bool.not_false, reduceIte, Nat.reduceEqDiff, Nat.reduceAdd, Nat.reduceMul, Nat.reduceSub, Nat.reduceLeDiff, Nat.reduceLT]; rfl) arr_one arr_len rfl fun g6 hx6 => ?_
      have n6 := hx6.next
      have f6 := hx6.floor
      have e6 := hG g6 (sg'.trans hx6.sub) (by omega) k hk _ (hat (i + 1) (by omega))
      have r16 := r1'.mono hx6.sub
      have r26 := r2'.mono hx6.sub
      have r106 : Row g6 g.next _ := ⟨_, _, hx6.sub _ _ _ _ trivial gi⟩
      simp only [rn0, rn1, rn2, rn3, rn4, rn5, rn6, rn7, rn8, if_true, if_false, Nat.le_refl, true_and, and_true, decide_true, decide_false, Bool.not_true, Bool.not_false, reduceIte, Nat.reduceEqDiff, Nat.reduceAdd, Nat.reduceMul, Nat.reduceSub, Nat.reduceLeDiff, Nat.reduceLT, p3, p4, p7, p8, p10, p16, p17, p34, p35, p36, r16.ld, r26.whole (n := 4) rfl, hx6.row.whole arr_len, Nat.zero_add, List.getElem?_cons_zero, List.getElem?_cons_succ, e6]
      refine W_draw All ?_
      simp only [rn0, rn1, rn2, rn3, rn4, rn5, rn6, rn7, rn8, if_true, if_false, Nat.le_refl, true_and, and_true, decide_true, decide_false, Bool.not_true, Bool.not_false, reduceIte, Nat.reduceEqDiff, Nat.reduceAdd, Nat.reduceMul, Nat.reduceSub, Nat.reduceLeDiff, Nat.reduceLT, p3, p4, p7, p8, p10, p16, p17, p34, p35, p36, r106.ld, Nat.zero_add, List.getElem?_cons_zero, List.getElem?_cons_succ, sl_int]
      generalize hv1 : val k (L.getD (i + 1) fun _ => 0) = v1
      refine up_slice (by omega) rfl (fun g7 hx => hx.sub) fun g7 hx7 => ?_
      have n7 := hx7.next
      have f7 := hx7.floor
      have hone : Ints g7 (.slice (some ⟨g6.next, 0, none⟩) 1 1) 1 (fun _ => v1) := ⟨_, _, rfl, fun x e => by cases e; rfl, .inr ⟨_, 0, _, _, _, rfl, hx7.get, fun i j hi hj => by
        have hi : i = 0 := by omega
        have hj : j = 0 := by omega
        subst hi hj; rfl⟩⟩
      have em := minimum_c (n := n) (h := g7) (m := 1) (by omega) (by omega) hone (minN v0 (fun i => val k (L.getD (i + 1) fun _ => 0)) i)
      have hmin : minN (minN v0 (fun i => val k (L.getD (i + 1) fun _ => 0)) i) (fun _ => v1) 1 = minN v0 (fun i => val k (L.getD (i + 1) fun _ => 0)) (i + 1) := by simp only [minN, hv1]
      have hmax : max (maxN v0 (fun i => val k (L.getD (i + 1) fun _ => 0)) i) v1 = maxN v0 (fun i => val k (L.getD (i + 1) fun _ => 0)) (i + 1) := by simp only [maxN, hv1]
      rw [hmin] at em
      simp only [rn0, rn1, rn2, rn3, rn4, rn5, rn6, rn7, rn8, if_true, if_false, Nat.le_refl, true_and, and_true, decide_true, decide_false, Bool.not_true, Bool.not_false, reduceIte, Nat.reduceEqDiff, Nat.reduceAdd, Nat.reduceMul, Nat.reduceSub, Nat.reduceLeDiff, Nat.reduceLT, p3, p4, p7, p8, p10, p16, p17, p34, p35, p36, em, r106.ld, Nat.zero_add, List.getElem?_cons_zero, List.getElem?_cons_succ, valN_tmp, Nat.reduceLT, hmax, build_range]
      refine ⟨hx7.sub, ?_⟩
      refine up_store (b := g.next) (off := 0) (vs := [.int .i64 (minN v0 (fun i => val k (L.getD (i + 1) fun _ => 0)) (i + 1)), .int .i64 (maxN v0 (fun i => val k (L.getD (i + 1) fun _ => 0)) (i + 1))]) rfl (hx7.sub _ _ _ _ trivial (hx6.sub _ _ _ _ trivial gi)) (by omega) (by omega) rfl rfl rfl (by simp) (fun _ _ => trivial) fun g8 hs8 => ?_
      rw [splice2] at hs8
      have n8 := hs8.next
      have f8 := hs8.floor
      simp only [rn0, rn1, rn2, rn3, rn4, rn5, rn6, rn7, rn8, if_true, if_false, Nat.le_refl, true_and, and_true, decide_true, decide_false, Bool.not_true, Bool.not_false, reduceIte, Nat.reduceEqDiff, Nat.reduceAdd, Nat.reduceMul, Nat.reduceSub, Nat.reduceLeDiff, Nat.reduceLT, p3, p4, p7, p8, p10, p16, p17, p34, p35, p36, hwi]
      exact ⟨(kin.trans ⟨fun j cs w gr hj hg => hx7.sub _ _ _ _ trivial (hx6.sub _ _ _ _ trivial hg), by omega, by omega⟩).trans hs8.keep, hs8.get, by omega⟩
    · rintro f g' ms ⟨⟨kin, gi, gin⟩, rfl, p3, p4, p7, p16, p17, p8, p10, p34, p35, p36⟩
      have kup := kin.up
      have kfl := kin.floor
      have w10 := (show Row g' g.next _ from ⟨_, _, gi⟩).whole (n := 2) rfl
      have hlo : minN v0 (fun i => val k (L.getD (i + 1) fun _ => 0)) (L.length - 1) = loN (val k) L := by unfold loN; rw [hv0]
      have hhi : maxN v0 (fun i => val k (L.getD (i + 1) fun _ => 0)) (L.length - 1) = hiN (val k) L := by unfold hiN; rw [hv0]
      rw [hlo, hhi] at w10
      have go' : g'.get g2.next = some (.row ((List.range (2 * m)).map (mixR k (fun k => loN (val k) L) (fun k => hiN (val k) L))) true 0) := kin.sub _ _ _ _ (by omega) (s5 _ _ _ _ trivial (hx4.sub _ _ _ _ trivial go))
      simp only [rn0, rn1, rn2, rn3, rn4, rn5, rn6, rn7, rn8, if_true, if_false, Nat.le_refl, true_and, and_true, decide_true, decide_false, Bool.not_true, Bool.not_false, reduceIte, Nat.reduceEqDiff, Nat.reduceAdd, Nat.reduceMul, Nat.reduceSub, Nat.reduceLeDiff, Nat.reduceLT, p3, p4, p7, p8, p10, p16, p17, p34, p35, p36, Int.lt_irrefl, w10, idxSl_s hk]
      refine step_store (b := g2.next) (off := k * 2) (vs := [.int .i64 (loN (val k) L), .int .i64 (hiN (val k) L)]) rfl go' (by omega) (by omega) rfl rfl rfl (by simp; omega) fun g8 hs8 => ?_
      have h8 := hs8.get
      rw [mixR_splice (lo := fun k => loN (val k) L) (hi := fun k => hiN (val k) L) hk] at h8
      have n8 := hs8.next
      have f8 := hs8.floor
      simp only [rn0, rn1, rn2, rn3, rn4, rn5, rn6, rn7, rn8, if_true, if_false, Nat.le_refl, true_and, and_true, decide_true, decide_false, Bool.not_true, Bool.not_false, reduceIte, Nat.reduceEqDiff, Nat.reduceAdd, Nat.reduceMul, Nat.reduceSub, Nat.reduceLeDiff, Nat.reduceLT, p3, p4, p7, p8, p10, p16, p17, p34, p35, p36, hw]
      refine ⟨⟨fun j cs w gr hj hg => ?_, by omega, by omega⟩, h8, by omega⟩
      have hlt := AHeap.lt_of_get hg
      rw [hs8.old j hj]
      exact kin.sub _ _ _ _ (by omega) (s5 _ _ _ _ trivial (hx4.sub _ _ _ _ trivial (st.sub _ _ _ _ hj hg)))
  · rintro f g ms ⟨⟨st, go, gn⟩, rfl, p3, p4, p7, p16, p17⟩
    have hup := st.up
    have hfg := st.floor
    simp only [rn0, rn1, rn2, rn3, rn4, rn5, rn6, rn7, rn8, if_true, if_false, Nat.le_refl, true_and, and_true, decide_true, decide_false, Bool.not_true, Bool.not_false, reduceIte, Nat.reduceEqDiff, Nat.reduceAdd, Nat.reduceMul, Nat.reduceSub, Nat.reduceLeDiff, Nat.reduceLT, p3, p4, p7, p16, p17, Int.lt_irrefl]
    refine ⟨⟨_, _, rfl, fun x e => by cases e; rfl, ?_⟩, ⟨fun i cs w gr t hg => st.sub _ _ _ _ (by have := AHeap.lt_of_get hg; omega) (s3 _ _ _ _ t hg), by omega, by omega, by omega⟩⟩
    refine .inr ⟨_, 0, _, _, _, rfl, go, fun k j hk hj => ?_⟩
    rw [Nat.zero_add, List.getElem?_map, List.getElem?_range (by omega)]
    simp only [Option.map_some, mixR]
    rw [if_pos (by omega)]
    rcases j with _ | _ | j
    · rw [if_pos (by omega), show (k * 2 + 0) / 2 = k by omega]; rfl
    · rw [if_neg (by omega), show (k * 2 + (0 + 1)) / 2 = k by omega]; rfl
    · omega
end Go.Vm.Vat

namespace Go.Vm
variable {P : Program} {N : Nat} {f : Fr} {h : AHeap} {ty t u e : TypeId} {x y : Operand}
/-! ### Structs of two integers, compared -/
theorem pr_eqTwo {d : Nat} {f0 f1 : Field} {a0 a1 b0 b1 : Int} (ht : P.underlying t = some (.struct #[f0, f1])) (hp : P.stoodInHeld t = false) (n0 : f0.name ≠ "_") (n1 : f1.name ≠ "_") (o0 : f0.offset = 0) (o1 : f1.offset = 1)
    (e0 : P.underlying f0.type = some (.int .i64)) (e1 : P.underlying f1.type = some (.int .i64)) :
    pureRun P (Op.equalIn (d + 2) t (.agg ⟨[.int .i64 a0, .int .i64 a1]⟩) (.agg ⟨[.int .i64 b0, .int .i64 b1]⟩)) = some (decide (a0 = b0 ∧ a1 = b1)) := by
  have x0 : ∀ (p q : Int), pureRun P (part f0.type ⟨[.int .i64 p, .int .i64 q]⟩ f0.offset) = some (.int .i64 p) := fun p q => pr_part e0 (by rw [o0]; rfl)
  have x1 : ∀ (p q : Int), pureRun P (part f1.type ⟨[.int .i64 p, .int .i64 q]⟩ f1.offset) = some (.int .i64 q) := fun p q => pr_part e1 (by rw [o1]; rfl)
  rw [Op.equalIn]
  simp only [pureRun_bind, pr_under ht, Option.bind_some, pr_program, hp, Bool.false_eq_true, if_false]
  rw [← Array.forIn_toList]
  simp only [List.forIn_cons, List.forIn_nil, pureRun_bind, n0, n1, ne_eq, not_false_eq_true, if_true, x0, pr_eqInt e0, Option.bind_some]
  by_cases c0 : a0 = b0 <;> by_cases c1 : a1 = b1 <;> simp [c0, c1, pr_pure, pureRun_bind, x1, pr_eqInt e1]
theorem plainF_neqTwo {f0 f1 : Field} {a0 a1 b0 b1 : Int} (hx : valN N f x = .agg ⟨[.int .i64 a0, .int .i64 a1]⟩) (hy : valN N f y = .agg ⟨[.int .i64 b0, .int .i64 b1]⟩) (hg : P.eqGuardType P.depth t = false)
    (ht : P.underlying t = some (.struct #[f0, f1])) (hp : P.stoodInHeld t = false) (n0 : f0.name ≠ "_") (n1 : f1.name ≠ "_") (o0 : f0.offset = 0) (o1 : f1.offset = 1)
    (e0 : P.underlying f0.type = some (.int .i64)) (e1 : P.underlying f1.type = some (.int .i64)) :
    plainF P N (.binOp .neq t x y u) ty f h = some (.bool (!(decide (a0 = b0 ∧ a1 = b1))), h) := by
  unfold plainF
  have : allB (fun x => plainV (valN N f x)) (Op.binOp .neq t x y u).operands.toList = true := by simp [Op.operands, allB, hx, hy, plainV, plainE, plainCell]
  rw [this]
  have e : pureRun P (execOp (valN N f) (bare (.binOp .neq t x y u) ty)) = some (.value (.bool (!(decide (a0 = b0 ∧ a1 = b1))))) := by
    simp only [execOp, bare, hx, hy, pureRun_bind, pr_guard hg, Option.bind_some, binOp, Op.equal, Op.maxDepth, pr_eqTwo ht hp n0 n1 o0 o1 e0 e1, pr_pure]
  rw [e]
  rfl
theorem binA_neqAgg {op : Op} {l r : Array Value} : binA P N .neq op ty (.agg l) (.agg r) f h = plainF P N op ty f h := id rfl
end Go.Vm

namespace Go.Vm.Vat
open Go.Proofs
set_option linter.unusedSimpArgs false
set_option linter.unusedVariables false
set_option maxRecDepth 10000
variable {n : Nat} {h : AHeap}
theorem build_fn {G : Nat} : buildA (fun x => (#[(0, 1)] : Array (Nat × Nat))[x]?) ⟨[.nilFunc]⟩ [0] h [.func (.func G) #[] #[]] = some (.agg ⟨[.func (.func G) #[] #[]]⟩, h) := id rfl
/-- what Bounds and Fields answer -/
def RangesR (h : AHeap) (Y : MY) (m : Nat) (val : Nat → (Nat → Int) → Int) (v : Value) (h' : AHeap) : Prop := Made h h' 400000 ∧
  ((faultN Y ≠ 0 ∧ v = .tuple ⟨[nilS, .int .i64 (faultN Y)]⟩) ∨ (faultN Y = 0 ∧ truths Y = [] ∧ v = .tuple ⟨[nilS, .int .i64 11]⟩) ∨
    (faultN Y = 0 ∧ truths Y ≠ [] ∧ ∃ l, v = .tuple ⟨[l, .int .i64 0]⟩ ∧ Ranges h' l m (fun k => loN (val k) (truths Y)) (fun k => hiN (val k) (truths Y))))
def s34 : SCode := (.seq (.ops [⟨(some 1), none, .box (T 0)⟩, ⟨(some 2), none, .mov (.const (.slice none 0 0))⟩, ⟨(some 3), none, .mov (.const (.int .i64 (0)))⟩]) (.seq (.ops [⟨(some 7), none, .loadN 3 (T 1)⟩, ⟨(some 8), none, .call (.func 89) [(T 7)]⟩, ⟨(some 6), none, .mov (T 8)⟩, ⟨(some 9), none, .extract 0 (T 6)⟩, ⟨(some 10), none, .extract 1 (T 6)⟩, ⟨(some 4), none, .alloc [(.slice none 0 0), (.slice none 0 0), (.slice none 0 0), (.slice none 0 0)]⟩, ⟨none, none, .store 4 (T 4) (T 9)⟩, ⟨(some 5), none, .mov (T 10)⟩]) (.seq (.seq (.ops [⟨(some 11), none, .mov (T 5)⟩, ⟨(some 12), none, .int2 .neq (T 11) (.const (.int .i64 (0)))⟩]) (.cond (T 12) (.seq (.ops [⟨(some 13), none, .mov (T 5)⟩, ⟨(some 2), none, .mov (.const (.slice none 0 0))⟩, ⟨(some 3), none, .mov (T 13)⟩]) .ret) .skip)) (.seq (.ops [⟨(some 14), none, .build #[(0, 1)] [.nilFunc] [0] [(.func 77)]⟩, ⟨(some 15), none, .loadN 4 (T 4)⟩, ⟨(some 16), none, .fieldAddr 0 (T 4)⟩, ⟨(some 17), none, .fieldAddr 1 (T 16)⟩, ⟨(some 18), none, .load1 (T 17)⟩, ⟨(some 19), none, .len (T 18)⟩, ⟨(some 20), none, .call (.func 90) [(T 14), (T 15), (T 19)]⟩, ⟨(some 2), none, .mov (T 20)⟩, ⟨(some 3), none, .mov (.const (.int .i64 (0)))⟩]) .ret))))
theorem fok34 : FnOk Try.prog 34 21 s34 [.tmp 2, .tmp 3] := ⟨Try.f34, _, Try.func34, rfl, Try.ntmps34, by kernel_rfl, by kernel_rfl⟩
theorem boundsV_c (hn : 10060 ≤ n) (hr : h.next + 900000 < far) (hfl : h.floor ≤ h.next) {F V S : Value} {Y : MY} (hy : YardR h F V S Y) (hY : Thin Y) :
    ∃ v h', call n (.func (.func 34) #[] #[]) [.agg ⟨[F, V, S]⟩] h = some (v, h') ∧ RangesR h Y Y.nv (fun k t => blueN t (Y.q k) Y.nf) v h' := by
  obtain ⟨n, rfl⟩ : ∃ p, n = p + 1 := ⟨n - 1, by omega⟩
  refine call_any0 fok34 rfl rfl (by simp) ?_
  simp only [s34, W_seq, W_ops]
  refine ops_box (cs := [F, V, S]) (by omega) rfl hy.one fun g1 hx1 => ?_
  have n1 := hx1.next
  have f1 := hx1.floor
  have w1 := hx1.row.whole (n := 3) rfl
  obtain ⟨v, g2, eo, hm, ho⟩ := openTrue_c (n := n) (h := g1) (by omega) (by omega) (by omega) (hy.mono hx1.sub) hY
  have n2 := hm.next
  have u2 := hm.up
  have f2 := hm.floor
  rcases ho with ⟨hf, rfl⟩ | ⟨hf, he, rfl⟩ | ⟨hf, he, tv, rfl, htr, hlong⟩
  · simp only [rn0, rn1, rn2, rn3, rn4, rn5, rn6, rn7, rn8, if_true, if_false, Nat.le_refl, true_and, and_true, decide_true, decide_false, Bool.not_true, Bool.not_false, reduceIte, Nat.reduceEqDiff, Nat.reduceAdd, Nat.reduceMul, Nat.reduceSub, Nat.reduceLeDiff, Nat.reduceLT, w1, eo, ex0, ex1]
    refine step_new (vs := [nilS, nilS, nilS, nilS]) (by omega) (by omega) rfl (by simp only [rn0, rn1, rn2, rn3, rn4, rn5, rn6, rn7, rn8, if_true, if_false, Nat.le_refl, true_and, and_true, decide_true, decide_false, Bool.not_true, Bool.not_false, reduceIte, Nat.reduceEqDiff, Nat.reduceAdd, Nat.reduceMul, Nat.reduceSub, Nat.reduceLeDiff, Nat.reduceLT]; rfl) rfl rfl rfl fun g3 hx3 => ?_
    have n3 := hx3.next
    have f3 := hx3.floor
    simp only [rn0, rn1, rn2, rn3, rn4, rn5, rn6, rn7, rn8, if_true, if_false, Nat.le_refl, true_and, and_true, decide_true, decide_false, Bool.not_true, Bool.not_false, reduceIte, Nat.reduceEqDiff, Nat.reduceAdd, Nat.reduceMul, Nat.reduceSub, Nat.reduceLeDiff, Nat.reduceLT, hf, ret_tt]
    exact ⟨⟨hx1.sub.trans (hm.sub.trans hx3.sub), by omega, by omega, by omega⟩, .inl ⟨hf, rfl⟩⟩
  · simp only [rn0, rn1, rn2, rn3, rn4, rn5, rn6, rn7, rn8, if_true, if_false, Nat.le_refl, true_and, and_true, decide_true, decide_false, Bool.not_true, Bool.not_false, reduceIte, Nat.reduceEqDiff, Nat.reduceAdd, Nat.reduceMul, Nat.reduceSub, Nat.reduceLeDiff, Nat.reduceLT, w1, eo, ex0, ex1]
    refine step_new (vs := [nilS, nilS, nilS, nilS]) (by omega) (by omega) rfl (by simp only [rn0, rn1, rn2, rn3, rn4, rn5, rn6, rn7, rn8, if_true, if_false, Nat.le_refl, true_and, and_true, decide_true, decide_false, Bool.not_true, Bool.not_false, reduceIte, Nat.reduceEqDiff, Nat.reduceAdd, Nat.reduceMul, Nat.reduceSub, Nat.reduceLeDiff, Nat.reduceLT]; rfl) rfl rfl rfl fun g3 hx3 => ?_
    have n3 := hx3.next
    have f3 := hx3.floor
    simp only [rn0, rn1, rn2, rn3, rn4, rn5, rn6, rn7, rn8, if_true, if_false, Nat.le_refl, true_and, and_true, decide_true, decide_false, Bool.not_true, Bool.not_false, reduceIte, Nat.reduceEqDiff, Nat.reduceAdd, Nat.reduceMul, Nat.reduceSub, Nat.reduceLeDiff, Nat.reduceLT, ret_tt, Int.reduceEq]
    exact ⟨⟨hx1.sub.trans (hm.sub.trans hx3.sub), by omega, by omega, by omega⟩, .inr (.inl ⟨hf, he, rfl⟩)⟩
  · have hG := good_of hf
    obtain ⟨z1, z2, z3⟩ := hG.sz
    have ho4 : allB oneCell [F, V, S, tv] = true := by have h1 := hy.one; have h2 := Cells.one htr; simp [allB] at h1 ⊢; simp [h1, h2]
    simp only [rn0, rn1, rn2, rn3, rn4, rn5, rn6, rn7, rn8, if_true, if_false, Nat.le_refl, true_and, and_true, decide_true, decide_false, Bool.not_true, Bool.not_false, reduceIte, Nat.reduceEqDiff, Nat.reduceAdd, Nat.reduceMul, Nat.reduceSub, Nat.reduceLeDiff, Nat.reduceLT, w1, eo, ex0, ex1]
    refine step_new (vs := [F, V, S, tv]) (by omega) (by omega) rfl (by simp only [rn0, rn1, rn2, rn3, rn4, rn5, rn6, rn7, rn8, if_true, if_false, Nat.le_refl, true_and, and_true, decide_true, decide_false, Bool.not_true, Bool.not_false, reduceIte, Nat.reduceEqDiff, Nat.reduceAdd, Nat.reduceMul, Nat.reduceSub, Nat.reduceLeDiff, Nat.reduceLT]; rfl) ho4 rfl rfl fun g3 hx3 => ?_
    have n3 := hx3.next
    have f3 := hx3.floor
    have w3 := hx3.row.whole (n := 4) rfl
    have s3 : Sub All h g3 := hx1.sub.trans (hm.sub.trans hx3.sub)
    have hy3 := hy.mono s3
    obtain ⟨rr, hrw, hq⟩ := hy3.v
    obtain ⟨l, g4, e4, hl4, m4⟩ := bounds_c (n := n) (h := g3) (F := F) (V := V) (S := S) (tv := tv) (L := truths Y) (G := 77) (m := Y.nv) (val := fun k t => blueN t (Y.q k) Y.nf) (by omega) (by omega) (by omega) ho4 he (truths_len hf) (Cells.mono htr hx3.sub) hlong (by omega) fun g hs hg k hk t ht => by
      obtain ⟨v1, v2⟩ := hG.v k hk
      exact inVat_c (n := n - 1) (h := g) (by omega) (by omega) (hy3.mono hs).v ho4 hk v1 z1 (truths_range hf ht) fun i hi => v2 i (by omega)
    have n4 := m4.next
    have u4 := m4.up
    have f4 := m4.floor
    simp only [rn0, rn1, rn2, rn3, rn4, rn5, rn6, rn7, rn8, if_true, if_false, Nat.le_refl, true_and, and_true, decide_true, decide_false, Bool.not_true, Bool.not_false, reduceIte, Nat.reduceEqDiff, Nat.reduceAdd, Nat.reduceMul, Nat.reduceSub, Nat.reduceLeDiff, Nat.reduceLT, build_fn, w3, hx3.row.ld, Nat.zero_add, List.getElem?_cons_zero, List.getElem?_cons_succ, Cells.len hrw, e4, ret_tt]
    exact ⟨⟨s3.trans m4.sub, by omega, by omega, by omega⟩, .inr (.inr ⟨hf, he, _, rfl, hl4⟩)⟩
end Go.Vm.Vat

namespace Go.Vm.Vat
open Go.Proofs
set_option linter.unusedSimpArgs false
set_option linter.unusedVariables false
set_option maxRecDepth 10000
variable {n : Nat} {h : AHeap}
def s62 : SCode := (.seq (.ops [⟨(some 1), none, .box (T 0)⟩, ⟨(some 2), none, .mov (.const (.bool false))⟩]) (.seq (.ops [⟨(some 3), none, .loadN 3 (T 1)⟩, ⟨(some 4), none, .call (.func 23) [(T 3)]⟩, ⟨(some 5), none, .mov (T 4)⟩, ⟨(some 6), (some (5, true)), .loadN 3 (T 1)⟩, ⟨(some 7), (some (5, true)), .call (.func 29) [(T 6)]⟩, ⟨(some 8), (some (5, true)), .int2 .eql (T 7) (.const (.int .i64 (0)))⟩, ⟨(some 9), none, .pick (T 5) (T 8) (.const (.bool false))⟩, ⟨(some 2), none, .mov (T 9)⟩]) .ret))
theorem fok62 : FnOk Try.prog 62 10 s62 [.tmp 2] := ⟨Try.f62, _, Try.func62, rfl, Try.ntmps62, by kernel_rfl, by kernel_rfl⟩
theorem ready_c (hn : 10010 ≤ n) (hr : h.next + 100 < far) {fv vv sv : Value} {Y : MY} (hy : YardR h fv vv sv Y) :
    call n (.func (.func 62) #[] #[]) [.agg ⟨[fv, vv, sv]⟩] h = some (.bool (decide (Thin Y ∧ faultN Y = 0)), h) := by
  obtain ⟨n, rfl⟩ : ∃ p, n = p + 1 := ⟨n - 1, by omega⟩
  refine call_plain0 fok62 rfl rfl (by simp) rfl ?_
  have hy := hy.shut
  have hr : h.shutAll.next + 100 < far := hr
  generalize h.shutAll = h at hy hr
  simp only [s62, W_seq, W_ops]
  refine ops_box (cs := [fv, vv, sv]) (by omega) rfl hy.one fun g1 hx1 => ?_
  have n1 := hx1.next
  have hy1 := hy.mono hx1.sub
  have w1 := hx1.row.whole (n := 3) rfl
  have ht := thin_c (n := n) (h := g1) (by omega) (by omega) hy1
  have ef := faultL_c (n := n) (h := g1) (by omega) (by omega) hy1
  by_cases hT : Thin Y
  · by_cases hf : faultN Y = 0
    · simp only [rn0, rn1, rn2, rn3, rn4, rn5, rn6, rn7, rn8, if_true, if_false, Nat.le_refl, true_and, and_true, decide_true, decide_false, Bool.not_true, Bool.not_false, reduceIte, Nat.reduceEqDiff, Nat.reduceAdd, Nat.reduceMul, Nat.reduceSub, Nat.reduceLeDiff, Nat.reduceLT, w1, ht, hT, ef, hf, and_self]
    · simp only [rn0, rn1, rn2, rn3, rn4, rn5, rn6, rn7, rn8, if_true, if_false, Nat.le_refl, true_and, and_true, decide_true, decide_false, Bool.not_true, Bool.not_false, reduceIte, Nat.reduceEqDiff, Nat.reduceAdd, Nat.reduceMul, Nat.reduceSub, Nat.reduceLeDiff, Nat.reduceLT, w1, ht, hT, ef, hf, and_false]
  · simp only [rn0, rn1, rn2, rn3, rn4, rn5, rn6, rn7, rn8, if_true, if_false, Nat.le_refl, true_and, and_true, decide_true, decide_false, Bool.not_true, Bool.not_false, reduceIte, Nat.reduceEqDiff, Nat.reduceAdd, Nat.reduceMul, Nat.reduceSub, Nat.reduceLeDiff, Nat.reduceLT, w1, ht, hT, false_and]
/-- an unsigned byte, as an integer -/
def run8 (other : AHeap → Option (Value × AHeap)) (a : Value) (h : AHeap) : Option (Value × AHeap) :=
  match a with
  | .int .u8 a => some (.int .i64 (IntKind.wrap .i64 a), h)
  | _ => other h
theorem p_conv8 {N : Nat} {f : Fr} {x : Operand} {ty : TypeId} : plainF Try.prog N (.convert 5 3 x) ty f h = run8 (plainF Try.prog N (.convert 5 3 x) ty f) (valN N f x) h := by
  unfold run8
  split
  · rename_i a e1
    unfold plainF
    have : allB (fun x => plainV (valN N f x)) (Op.convert 5 3 x).operands.toList = true := by simp [Op.operands, allB, e1, plainV, plainE, plainCell]
    rw [this]
    have e : pureRun Try.prog (execOp (valN N f) (bare (.convert 5 3 x) ty)) = some (.value (.int .i64 (IntKind.wrap .i64 a))) := by
      show pureRun Try.prog (convert 5 3 (valN N f x) >>= fun a => pure (Next.value a)) = _
      rw [pureRun_bind, e1]
      have hc : pureRun Try.prog (convert 5 3 (.int .u8 a)) = some (.int .i64 (IntKind.wrap .i64 a)) := by
        unfold convert
        rw [pureRun_bind, pr_under Try.underlying5, Option.bind_some, pureRun_bind, pr_under Try.underlying3]
        rfl
      rw [hc]; rfl
    rw [e]
    rfl
  · rfl
theorem r_8 {other : AHeap → Option (Value × AHeap)} {k : Nat} (hk : k < 256) : run8 other (.int .u8 (k : Int)) h = some (.int .i64 (k : Int), h) := by
  simp only [run8]
  rw [IntWalk.i64_in _ (by omega)]
theorem wf8 {a : Int} (h : (Lit.int .u8 a).wf = true) : ∃ k : Nat, a = k ∧ k < 256 := by
  simp only [Lit.wf, Bool.and_eq_true, decide_eq_true_eq] at h
  have h1 : (IntKind.u8).min = 0 := rfl
  have h2 : (IntKind.u8).max = 255 := rfl
  rw [h1, h2] at h
  exact ⟨a.toNat, by omega, by omega⟩
end Go.Vm.Vat

namespace Go.Vm.Vat
open Go.Proofs
set_option linter.unusedSimpArgs false
set_option linter.unusedVariables false
set_option maxRecDepth 10000
variable {n : Nat} {h : AHeap}
/-- among the first k -/
def Seen (L : List (Nat → Int)) (p : (Nat → Int) → Prop) (k : Nat) : Prop := ∃ i, i < k ∧ p (L.getD i fun _ => 0)
noncomputable instance (L : List (Nat → Int)) (p : (Nat → Int) → Prop) (k : Nat) : Decidable (Seen L p k) := Classical.propDecidable _
end Go.Vm.Vat

namespace Go.Vm.Vat
open Go.Proofs
set_option linter.unusedSimpArgs false
set_option linter.unusedVariables false
set_option maxRecDepth 10000
variable {n : Nat} {h : AHeap}
theorem ready_big (hn : 3 ≤ n) (hr : h.next + 5 < far) {u0 u1 u2 : Value} (hb : Big u0 u1 u2) : call n (.func (.func 62) #[] #[]) [.agg ⟨[u0, u1, u2]⟩] h = some (.bool false, h) := by
  obtain ⟨n, rfl⟩ : ∃ p, n = p + 1 := ⟨n - 1, by omega⟩
  refine call_plain0 fok62 rfl rfl (by simp) rfl ?_
  have hr : h.shutAll.next + 5 < far := hr
  generalize h.shutAll = h at hr
  simp only [s62, W_seq, W_ops]
  refine ops_box (cs := [u0, u1, u2]) (by omega) rfl hb.one fun g1 hx1 => ?_
  have n1 := hx1.next
  have w1 := hx1.row.whole (n := 3) rfl
  have ht := thin_big (n := n) (h := g1) (by omega) (by omega) hb
  simp only [rn0, rn1, rn2, rn3, rn4, rn5, rn6, rn7, rn8, if_true, if_false, Nat.le_refl, true_and, and_true, decide_true, decide_false, Bool.not_true, Bool.not_false, reduceIte, Nat.reduceEqDiff, Nat.reduceAdd, Nat.reduceMul, Nat.reduceSub, Nat.reduceLeDiff, Nat.reduceLT, w1, ht]
end Go.Vm.Vat

namespace Go.Vm.Vat
open Go.Proofs
set_option linter.unusedSimpArgs false
set_option linter.unusedVariables false
set_option maxRecDepth 10000
variable {n : Nat} {h : AHeap}
/-! ### The iterator over all spreads of so many bundles: each is handed to 'yield', in order -/
def arr4 (c : Nat → Int) : List Value := (List.range 4).map fun i => .int .i64 (c i)
section
variable {σ : Type}
/-- the iterator's own rows -/
structure ItS (pv py pc : Nat) (nv : Nat) (yv cv : Value) (g : AHeap) : Prop where
  v : Row g pv [.int .i64 (nv : Int)]
  y : Row g py [yv]
  c : Row g pc [cv]
theorem ItS.set {pv py pc pb gr nv : Nat} {cs : List Value} {yv cv : Value} {g g' : AHeap} (hi' : ItS pv py pc nv yv cv g) (hs : Set1 g g' pb cs gr) (h1 : pv ≠ pb) (h2 : py ≠ pb) (h3 : pc ≠ pb) : ItS pv py pc nv yv cv g' :=
  ⟨hi'.v.keep hs.keep h1, hi'.y.keep hs.keep h2, hi'.c.keep hs.keep h3⟩
end
end Go.Vm.Vat

namespace Go.Vm.Vat
open Go.Proofs
set_option linter.unusedSimpArgs false
set_option linter.unusedVariables false
set_option maxRecDepth 10000
variable {n : Nat} {h : AHeap}
/-! ### The iterator once more: yield is told of no state behind which it has said false -/
section
variable {σ : Type}
end
end Go.Vm.Vat

namespace Go.Vm.Vat
open Go.Proofs
set_option linter.unusedSimpArgs false
set_option linter.unusedVariables false
set_option maxRecDepth 10000
variable {n : Nat} {h : AHeap}
end Go.Vm.Vat

namespace Go.Vm.Vat
open Go.Proofs
set_option linter.unusedSimpArgs false
set_option linter.unusedVariables false
set_option maxRecDepth 10000
variable {n : Nat} {h : AHeap}
/-- what lies in memory meanwhile -/
structure JF (h2 : AHeap) (p : Nat) (r : ALoop) (s : Int × Bool) (g : AHeap) : Prop where
  old : ∀ i, i < h2.next → i ≠ p + 1 → i ≠ p + 2 → i ≠ p + 3 → i ≠ p + 7 → g.get i = h2.get i
  fst : g.get (p + 3) = some (.row [.int .i64 s.1] true 0)
  r1 : g.get (p + 1) = some (.row [.int .i64 0] true 0)
  r2 : g.get (p + 2) = some (.row [.int .i64 (if s.2 then 7 else 0)] true 0)
  lp : g.get (p + 7) = some (.loop (if s.2 then leftBy r .ret else r))
  up : h2.next + 3 ≤ g.next
end Go.Vm.Vat

namespace Go.Vm.Vat
open Go.Proofs
set_option linter.unusedSimpArgs false
set_option linter.unusedVariables false
set_option maxRecDepth 10000
variable {n : Nat} {h : AHeap}
/-- what lies in memory while the spreads are gone through -/
structure JS (h2 : AHeap) (p : Nat) (s : (Nat → Int) × Int) (g : AHeap) : Prop where
  old : ∀ i, i < h2.next → i ≠ p + 1 → i ≠ p + 2 → g.get i = h2.get i
  bst : g.get (p + 1) = some (.row (arr4 s.1) true 0)
  lst : g.get (p + 2) = some (.row [.int .i64 s.2] true 0)
  up : h2.next + 3 ≤ g.next
end Go.Vm.Vat

namespace Go.Vm.Vat
open Go.Proofs
set_option linter.unusedSimpArgs false
set_option linter.unusedVariables false
set_option maxRecDepth 10000
variable {n : Nat} {h : AHeap}
end Go.Vm.Vat

namespace Go.Vm.Vat
open Go.Proofs
set_option linter.unusedSimpArgs false
set_option linter.unusedVariables false
set_option maxRecDepth 10000
variable {n : Nat} {h : AHeap}
end Go.Vm.Vat

namespace Go.Vm.Vat
open Go.Proofs
set_option linter.unusedSimpArgs false
set_option linter.unusedVariables false
set_option maxRecDepth 10000
variable {n : Nat} {h : AHeap}
end Go.Vm.Vat

namespace Go.Vm.Vat
open Go.Proofs
set_option linter.unusedSimpArgs false
set_option linter.unusedVariables false
set_option maxRecDepth 10000
variable {n : Nat} {h : AHeap}
/-! ### Lists in order -/
/-- lexicographically before, both as long -/
def LexLt (a b : Nat → Int) (m : Nat) : Prop := ∃ j, j < m ∧ (∀ i, i < j → a i = b i) ∧ a j < b j
noncomputable instance (a b : Nat → Int) (m : Nat) : Decidable (LexLt a b m) := Classical.propDecidable _
/-- shorter, or as long and before it -/
def Shortlex (a : Nat → Int) (m : Nat) (b : Nat → Int) (k : Nat) : Prop := m < k ∨ m = k ∧ LexLt a b m
noncomputable instance (a : Nat → Int) (m : Nat) (b : Nat → Int) (k : Nat) : Decidable (Shortlex a m b k) := Classical.propDecidable _
end Go.Vm.Vat

namespace Go.Vm.Vat
open Go.Proofs
set_option linter.unusedSimpArgs false
set_option linter.unusedVariables false
set_option maxRecDepth 10000
variable {n : Nat} {h : AHeap}
/-- a list as a function -/
def atL (l : List Int) (i : Nat) : Int := l.getD i 0
/-- what lies in memory meanwhile -/
structure JL (h2 : AHeap) (p : Nat) (s : List Int) (g : AHeap) : Prop where
  old : ∀ i, i < h2.next → i ≠ p + 2 → g.get i = h2.get i
  lst : ∃ v, g.get (p + 2) = some (.row [v] true 0) ∧ Ints g v s.length (atL s) ∧ oneCell v = true ∧ ∀ a k c, v = .slice (some a) k c → a.block = p + 1 ∨ (h2.next + 3 ≤ a.block ∧ a.block < g.next)
  short : s.length ≤ 5
  up : h2.next + 3 ≤ g.next
end Go.Vm.Vat

namespace Go.Vm
variable {P : Program} {N : Nat} {f : Fr} {h : AHeap} {ty t u : TypeId} {x y : Operand}
end Go.Vm
namespace Go.Vm.Vat
open Go.Proofs
set_option linter.unusedSimpArgs false
set_option linter.unusedVariables false
set_option maxRecDepth 10000
variable {n : Nat} {h : AHeap}
theorem spliceN2 {a b c d : Value} : splice [a, b, c] 2 [d] = [a, b, d] := rfl
end Go.Vm.Vat

namespace Go.Vm.Vat
open Go.Proofs
set_option linter.unusedSimpArgs false
set_option linter.unusedVariables false
set_option maxRecDepth 10000
variable {n : Nat} {h : AHeap}
end Go.Vm.Vat

namespace Go.Vm
variable {P : Program} {N : Nat} {f : Fr} {h : AHeap}
end Go.Vm
namespace Go.Vm.Vat
open Go.Proofs
set_option linter.unusedSimpArgs false
set_option linter.unusedVariables false
set_option maxRecDepth 10000
variable {n : Nat} {h : AHeap}
end Go.Vm.Vat

namespace Go.Vm.Vat
open Go.Proofs
set_option linter.unusedSimpArgs false
set_option linter.unusedVariables false
set_option maxRecDepth 10000
variable {n : Nat} {h : AHeap}
end Go.Vm.Vat

namespace Go.Vm.Vat
open Go.Proofs
set_option linter.unusedSimpArgs false
set_option linter.unusedVariables false
set_option maxRecDepth 10000
variable {n : Nat} {h : AHeap}
/-! ### Words -/
def Words (h : AHeap) (v : Value) (m : Nat) (a : Nat → Nat) : Prop := Cells h v 1 m (fun k _ => .int .u16 (a k : Int)) ∧ ∀ k, k < m → a k < 65536
theorem Words.mono {g : AHeap} {v : Value} {m : Nat} {a : Nat → Nat} (hw : Words h v m a) (hs : Sub All h g) : Words g v m a := ⟨Cells.mono hw.1 hs, hw.2⟩
def rowI (m : Nat) (c : Nat → Int) : List Value := (List.range m).map fun i => .int .i64 (c i)
theorem rowI_len {m : Nat} {c : Nat → Int} : (rowI m c).length = m := by simp [rowI]
theorem rowI_get {m k : Nat} {c : Nat → Int} (hk : k < m) : (rowI m c)[k]? = some (.int .i64 (c k)) := by unfold rowI; rw [List.getElem?_map, List.getElem?_range hk]; rfl
theorem rowI_splice {m k : Nat} {c : Nat → Int} {x : Int} (hk : k < m) : splice (rowI m c) k [.int .i64 x] = rowI m fun j => if j = k then x else c j := by
  unfold rowI
  refine map_splice (by simp; omega) (fun i hi hc => ?_) (fun j hj => ?_)
  · simp only [List.length_cons, List.length_nil] at hc
    have e : ¬ i = k := by omega
    simp only [e, if_false]
  · simp only [List.length_cons, List.length_nil] at hj
    obtain rfl : j = 0 := by omega
    simp
theorem rowI_ints {m b w : Nat} {c : Nat → Int} {cap : Nat} (hg : ∃ wr gr, h.get b = some (.row (rowI m c) wr gr)) : Ints h (.slice (some ⟨b, 0, none⟩) m cap) m c := by
  obtain ⟨wr, gr, e⟩ := hg
  exact ⟨_, _, rfl, fun x e => by cases e; rfl, .inr ⟨_, 0, _, _, _, rfl, e, fun k j hk hj => by
    obtain rfl : j = 0 := by omega
    rw [show 0 + k * 1 + 0 = k by omega, rowI_get hk]⟩⟩
end Go.Vm.Vat

namespace Go.Vm.Vat
open Go.Proofs
set_option linter.unusedSimpArgs false
set_option linter.unusedVariables false
set_option maxRecDepth 10000
variable {n : Nat} {h : AHeap}
/-- with so many further bundles the vat surely has the blue -/
def Enough (Y : MY) (v f : Nat) (blue : Int) (L : List (Nat → Int)) (k : Nat) : Prop := ∀ t, t ∈ L → blue ≤ blueWith Y v f k t
end Go.Vm.Vat

namespace Go.Vm.Vat
open Go.Proofs
set_option linter.unusedSimpArgs false
set_option linter.unusedVariables false
set_option maxRecDepth 10000
variable {n : Nat} {h : AHeap}
end Go.Vm.Vat

namespace Go.Vm.Vat
open Go.Proofs
set_option linter.unusedSimpArgs false
set_option linter.unusedVariables false
set_option maxRecDepth 10000
variable {n : Nat} {h : AHeap}
end Go.Vm.Vat

namespace Go.Vm.Vat
open Go.Proofs
set_option linter.unusedSimpArgs false
set_option linter.unusedVariables false
set_option maxRecDepth 10000
variable {n : Nat} {h : AHeap}
end Go.Vm.Vat

namespace Go.Vm.Vat
open Go.Proofs
set_option linter.unusedSimpArgs false
set_option linter.unusedVariables false
set_option maxRecDepth 10000
variable {n : Nat} {h : AHeap}
/-! ### Of two yards with the same vats, one with no other truths than the other one -/
structure Inner (X Y : MY) : Prop where
  nf : X.nf = Y.nf
  nv : X.nv = Y.nv
  q : X.q = Y.q
  fx : faultN X = 0
  fy : faultN Y = 0
  ne : truths X ≠ []
  sub : ∀ t, t ∈ truths X → t ∈ truths Y
theorem Inner.ney {X Y : MY} (hi : Inner X Y) : truths Y ≠ [] := by
  obtain ⟨t, ht⟩ := List.exists_mem_of_ne_nil _ hi.ne
  exact List.ne_nil_of_mem (hi.sub t ht)
theorem Inner.lo {X Y : MY} (hi : Inner X Y) (val : (Nat → Int) → Int) : loN val (truths Y) ≤ loN val (truths X) := (le_loN hi.ne).2 fun t ht => (le_loN hi.ney).1 (Int.le_refl _) t (hi.sub t ht)
theorem Inner.hi {X Y : MY} (hi : Inner X Y) (val : (Nat → Int) → Int) : hiN val (truths X) ≤ hiN val (truths Y) := (hiN_le hi.ne).2 fun t ht => (hiN_le hi.ney).1 (Int.le_refl _) t (hi.sub t ht)
theorem Inner.with_ {X Y : MY} (hi : Inner X Y) (v f k : Nat) (t : Nat → Int) : blueWith X v f k t = blueWith Y v f k t := by unfold blueWith; rw [hi.nf, hi.q]
theorem Inner.enough {X Y : MY} (hi : Inner X Y) {v f : Nat} {b : Int} {k : Nat} (h : Enough Y v f b (truths Y) k) : Enough X v f b (truths X) k := fun t ht => by rw [hi.with_]; exact h t (hi.sub t ht)
end Go.Vm.Vat

namespace Go.Vm.Vat
open Go.Proofs
set_option linter.unusedSimpArgs false
set_option linter.unusedVariables false
set_option maxRecDepth 10000
variable {n : Nat} {h : AHeap}
end Go.Vm.Vat

namespace Go.Vm.Vat
open Go.Proofs
set_option linter.unusedSimpArgs false
set_option linter.unusedVariables false
set_option maxRecDepth 10000
variable {n : Nat} {h : AHeap}
/-! ### A yard of which another one is a wider one -/
structure Wid (Y X : MY) : Prop where
  nf : Y.nf = X.nf
  nv : Y.nv = X.nv
  q : Y.q = X.q
  ns : Y.ns = X.ns
  lo : ∀ k, k < Y.nf → X.lo k ≤ Y.lo k ∧ Y.hi k ≤ X.hi k
  right : ∀ c k, k < Y.ns → RightB Y c k → RightB X c k
theorem Wid.truth {Y X : MY} (hw : Wid Y X) {t : Nat → Int} (h : t ∈ truths Y) : t ∈ truths X := by
  rw [truths_mem] at h ⊢
  obtain ⟨⟨h1, h2⟩, h3⟩ := h
  have e := hw.nf
  have e2 := hw.ns
  refine ⟨⟨fun j hj => ?_, fun j hj => h2 j (by omega)⟩, fun k hk => hw.right t k (by omega) (h3 k (by omega))⟩
  have h4 := h1 j (by omega)
  have h5 := hw.lo j (by omega)
  omega
/-- what a slice holds, as a list -/
def flatL (s m : Nat) (c : Nat → Nat → Value) : List Value := (List.range (m * s)).map fun i => c (i / s) (i % s)
theorem flatL_len {s m : Nat} {c : Nat → Nat → Value} : (flatL s m c).length = m * s := by simp [flatL]
theorem flatL_get {s m k j : Nat} {c : Nat → Nat → Value} (hk : k < m) (hj : j < s) : (flatL s m c)[k * s + j]? = some (c k j) := by
  have hlt : k * s + j < m * s := by
    have : (k + 1) * s ≤ m * s := Nat.mul_le_mul_right s hk
    rw [Nat.add_mul] at this
    omega
  unfold flatL
  rw [List.getElem?_map, List.getElem?_range hlt, Option.map_some, Nat.mul_comm k s, Nat.mul_add_div (by omega), Nat.div_eq_of_lt hj, Nat.mul_add_mod, Nat.mod_eq_of_lt hj, Nat.add_zero]
theorem Cells.list {v : Value} {s m : Nat} {c : Nat → Nat → Value} (hs : 0 < s) (hi : Cells h v s m c) : ∃ x k, v = .slice x m k ∧ cellsOfSlice h s v = some (flatL s m c) := by
  obtain ⟨x, cap, rfl, _, h0 | ⟨b, o, cs, w, gr, rfl, h1, h2⟩⟩ := hi
  · subst h0
    refine ⟨x, cap, rfl, ?_⟩
    cases x <;> simp [cellsOfSlice, flatL]
  · refine ⟨_, cap, rfl, ?_⟩
    by_cases hm : m = 0
    · subst hm; simp [cellsOfSlice, flatL]
    have hb : Nat.beq m 0 = false := by
      cases hb : Nat.beq m 0 with
      | false => rfl
      | true => exact absurd (beq_iff.1 hb) hm
    show (bif Nat.beq m 0 then some [] else match h.get b with
      | some (.row cs _ _) => dropK cs o fun r => takeK r (m * s) fun l => some l
      | _ => none) = _
    have hl := (List.getElem?_eq_some_iff.1 (h2 (m - 1) (s - 1) (by omega) (by omega))).1
    have hms : (m - 1) * s + s = m * s := by
      obtain ⟨p, rfl⟩ : ∃ p, m = p + 1 := ⟨m - 1, by omega⟩
      rw [Nat.add_sub_cancel, Nat.add_mul, Nat.one_mul]
    rw [hb, cond_false, h1]
    simp only [dropK_eq, takeK_eq]
    rw [if_pos (by omega), if_pos (by rw [List.length_drop]; omega)]
    congr 1
    apply List.ext_getElem?
    intro i
    simp only [List.getElem?_take, List.getElem?_drop]
    by_cases hi : i < m * s
    · rw [if_pos hi]
      have hd : i / s < m := (Nat.div_lt_iff_lt_mul hs).2 hi
      have hr : i % s < s := Nat.mod_lt _ hs
      have e : i / s * s + i % s = i := by have := Nat.div_add_mod i s; rw [Nat.mul_comm] at this; exact this
      have h3 := h2 (i / s) (i % s) hd hr
      have h4 := flatL_get (c := c) hd hr
      rw [e] at h4
      rw [h4, ← h3]
      congr 1
      omega
    · rw [if_neg hi, List.getElem?_eq_none (by rw [flatL_len]; omega)]
end Go.Vm.Vat

namespace Go.Vm.Vat
open Go.Proofs
set_option linter.unusedSimpArgs false
set_option linter.unusedVariables false
set_option maxRecDepth 10000
variable {n : Nat} {h : AHeap}
end Go.Vm.Vat

namespace Go.Vm.Vat
open Go.Proofs
set_option linter.unusedSimpArgs false
set_option linter.unusedVariables false
set_option maxRecDepth 10000
variable {n : Nat} {h : AHeap}
theorem guard49 : Try.prog.eqGuardType Try.prog.depth 49 = false := by kernel_rfl
theorem held49 : Try.prog.stoodInHeld 49 = false := by kernel_rfl
theorem neq49 {N : Nat} {f : Fr} {x y : Operand} {ty u : TypeId} {a0 a1 : Int} (hx : valN N f x = .agg ⟨[.int .i64 a0, .int .i64 a1]⟩) (hy : valN N f y = .agg ⟨[.int .i64 a0, .int .i64 a1]⟩) : plainF Try.prog N (.binOp .neq 49 x y u) ty f h = some (.bool false, h) := by
  rw [plainF_neqTwo hx hy guard49 Try.underlying49 held49 (by decide) (by decide) rfl rfl (by rfl) (by rfl)]
  simp
def s4 : SCode := (.seq (.ops [⟨(some 1), none, .box (T 0)⟩, ⟨(some 2), none, .mov (.const (.bool false))⟩]) (.seq (.seq (.ops [⟨(some 11), none, .loadN 3 (T 1)⟩, ⟨(some 12), none, .call (.func 23) [(T 11)]⟩, ⟨(some 13), none, .not (T 12)⟩]) (.cond (T 13) (.seq (.ops [⟨(some 14), none, .call (.func 24) []⟩, ⟨(some 2), none, .mov (T 14)⟩]) .ret) .skip)) (.seq (.ops [⟨(some 16), none, .loadN 3 (T 1)⟩, ⟨(some 17), none, .call (.func 26) [(T 16)]⟩, ⟨(some 18), none, .call (.func 34) [(T 17)]⟩, ⟨(some 15), none, .mov (T 18)⟩, ⟨(some 19), none, .extract 0 (T 15)⟩, ⟨(some 20), none, .extract 1 (T 15)⟩, ⟨(some 3), none, .mov (T 19)⟩, ⟨(some 4), none, .mov (T 20)⟩]) (.seq (.ops [⟨(some 22), none, .loadN 3 (T 1)⟩, ⟨(some 23), none, .call (.func 26) [(T 22)]⟩, ⟨(some 24), none, .call (.func 35) [(T 23)]⟩, ⟨(some 21), none, .mov (T 24)⟩, ⟨(some 25), none, .extract 0 (T 21)⟩, ⟨(some 26), none, .extract 1 (T 21)⟩, ⟨(some 5), none, .mov (T 25)⟩, ⟨(some 6), none, .mov (T 26)⟩]) (.seq (.ops [⟨(some 28), none, .loadN 3 (T 1)⟩, ⟨(some 29), none, .call (.func 36) [(T 28)]⟩, ⟨(some 27), none, .mov (T 29)⟩, ⟨(some 30), none, .extract 0 (T 27)⟩, ⟨(some 31), none, .extract 1 (T 27)⟩, ⟨(some 7), none, .mov (T 30)⟩, ⟨(some 8), none, .mov (T 31)⟩]) (.seq (.seq (.ops [⟨(some 32), none, .mov (T 8)⟩, ⟨(some 33), none, .int2 .neq (T 32) (.const (.int .i64 (0)))⟩]) (.cond (T 33) (.seq (.ops [⟨(some 34), none, .mov (T 4)⟩, ⟨(some 35), none, .mov (T 8)⟩, ⟨(some 36), none, .int2 .eql (T 34) (T 35)⟩, ⟨(some 37), none, .mov (T 36)⟩, ⟨(some 38), (some (37, true)), .mov (T 6)⟩, ⟨(some 39), (some (37, true)), .mov (T 8)⟩, ⟨(some 40), (some (37, true)), .int2 .eql (T 38) (T 39)⟩, ⟨(some 41), none, .pick (T 37) (T 40) (.const (.bool false))⟩, ⟨(some 42), none, .mov (T 41)⟩, ⟨(some 43), (some (42, true)), .mov (T 3)⟩, ⟨(some 44), (some (42, true)), .len (T 43)⟩, ⟨(some 45), (some (42, true)), .mov (T 5)⟩, ⟨(some 46), (some (42, true)), .len (T 45)⟩, ⟨(some 47), (some (42, true)), .int2 .add (T 44) (T 46)⟩, ⟨(some 48), (some (42, true)), .int2 .eql (T 47) (.const (.int .i64 (0)))⟩, ⟨(some 49), none, .pick (T 42) (T 48) (.const (.bool false))⟩, ⟨(some 50), none, .mov (T 49)⟩, ⟨(some 51), (some (50, true)), .call (.func 24) []⟩, ⟨(some 52), none, .pick (T 50) (T 51) (.const (.bool false))⟩, ⟨(some 2), none, .mov (T 52)⟩]) .ret) .skip)) (.seq (.seq (.ops [⟨(some 53), none, .mov (T 4)⟩, ⟨(some 54), none, .int2 .neq (T 53) (.const (.int .i64 (0)))⟩, ⟨(some 55), none, .mov (T 54)⟩, ⟨(some 56), (some (55, false)), .mov (T 6)⟩, ⟨(some 57), (some (55, false)), .int2 .neq (T 56) (.const (.int .i64 (0)))⟩, ⟨(some 58), none, .pick (T 55) (.const (.bool true)) (T 57)⟩, ⟨(some 59), none, .mov (T 58)⟩, ⟨(some 60), (some (59, false)), .mov (T 3)⟩, ⟨(some 61), (some (59, false)), .len (T 60)⟩, ⟨(some 62), (some (59, false)), .fieldAddr 1 (T 1)⟩, ⟨(some 63), (some (59, false)), .load1 (T 62)⟩, ⟨(some 64), (some (59, false)), .len (T 63)⟩, ⟨(some 65), (some (59, false)), .int2 .neq (T 61) (T 64)⟩, ⟨(some 66), none, .pick (T 59) (.const (.bool true)) (T 65)⟩, ⟨(some 67), none, .mov (T 66)⟩, ⟨(some 68), (some (67, false)), .mov (T 5)⟩, ⟨(some 69), (some (67, false)), .len (T 68)⟩, ⟨(some 70), (some (67, false)), .fieldAddr 0 (T 1)⟩, ⟨(some 71), (some (67, false)), .load1 (T 70)⟩, ⟨(some 72), (some (67, false)), .len (T 71)⟩, ⟨(some 73), (some (67, false)), .int2 .neq (T 69) (T 72)⟩, ⟨(some 74), none, .pick (T 67) (.const (.bool true)) (T 73)⟩]) (.cond (T 74) (.seq (.ops [⟨(some 2), none, .mov (.const (.bool false))⟩]) .ret) .skip)) (.seq (.seq (.ops [⟨(some 9), none, .mov (.const (.int .i64 (0)))⟩]) (.block 0 (.loop (.seq (.seq (.ops [⟨(some 75), none, .mov (T 9)⟩, ⟨(some 76), none, .mov (T 3)⟩, ⟨(some 77), none, .len (T 76)⟩, ⟨(some 78), none, .int2 .lss (T 75) (T 77)⟩]) (.cond (T 78) .skip (.exit 0))) (.seq (.block 1 (.seq (.draw [⟨.free, ⟨(some 81), none, .mov (T 3)⟩⟩, ⟨.free, ⟨(some 82), none, .mov (T 9)⟩⟩, ⟨.free, ⟨(some 83), none, .idxSl 2 (T 81) (T 82)⟩⟩, ⟨.rd, ⟨(some 84), none, .loadN 2 (T 83)⟩⟩, ⟨.rd1, ⟨(some 85), none, .loadN 3 (T 1)⟩⟩, ⟨.free, ⟨(some 86), none, .mov (T 7)⟩⟩, ⟨.free, ⟨(some 87), none, .mov (T 9)⟩⟩, ⟨.up, ⟨(some 88), none, .call (.func 38) [(T 85), (T 86), (T 87)]⟩⟩, ⟨.up, ⟨(some 89), none, .call (.func 37) [(T 88)]⟩⟩, ⟨.free, ⟨(some 90), none, .bin .neq (.binOp .neq 49 (T 84) (T 89) 49) 4 (T 84) (T 89)⟩⟩]) (.cond (T 90) (.seq (.ops [⟨(some 2), none, .mov (.const (.bool false))⟩]) .ret) .skip))) (.ops [⟨(some 79), none, .mov (T 9)⟩, ⟨(some 80), none, .int2 .add (T 79) (.const (.int .i64 (1)))⟩, ⟨(some 9), none, .mov (T 80)⟩])))))) (.seq (.seq (.ops [⟨(some 10), none, .mov (.const (.int .i64 (0)))⟩]) (.block 2 (.loop (.seq (.seq (.ops [⟨(some 91), none, .mov (T 10)⟩, ⟨(some 92), none, .mov (T 5)⟩, ⟨(some 93), none, .len (T 92)⟩, ⟨(some 94), none, .int2 .lss (T 91) (T 93)⟩]) (.cond (T 94) .skip (.exit 2))) (.seq (.block 3 (.seq (.draw [⟨.free, ⟨(some 97), none, .mov (T 5)⟩⟩, ⟨.free, ⟨(some 98), none, .mov (T 10)⟩⟩, ⟨.free, ⟨(some 99), none, .idxSl 2 (T 97) (T 98)⟩⟩, ⟨.rd, ⟨(some 100), none, .loadN 2 (T 99)⟩⟩, ⟨.free, ⟨(some 101), none, .mov (T 7)⟩⟩, ⟨.free, ⟨(some 102), none, .mov (T 10)⟩⟩, ⟨.up, ⟨(some 103), none, .call (.func 39) [(T 101), (T 102)]⟩⟩, ⟨.up, ⟨(some 104), none, .call (.func 37) [(T 103)]⟩⟩, ⟨.free, ⟨(some 105), none, .bin .neq (.binOp .neq 49 (T 100) (T 104) 49) 4 (T 100) (T 104)⟩⟩]) (.cond (T 105) (.seq (.ops [⟨(some 2), none, .mov (.const (.bool false))⟩]) .ret) .skip))) (.ops [⟨(some 95), none, .mov (T 10)⟩, ⟨(some 96), none, .int2 .add (T 95) (.const (.int .i64 (1)))⟩, ⟨(some 10), none, .mov (T 96)⟩])))))) (.seq (.ops [⟨(some 106), none, .call (.func 24) []⟩, ⟨(some 2), none, .mov (T 106)⟩]) .ret))))))))))
end Go.Vm.Vat

namespace Go.Vm.Vat
open Go.Proofs
set_option linter.unusedSimpArgs false
set_option linter.unusedVariables false
set_option maxRecDepth 10000
variable {n : Nat} {h : AHeap}
/-! ### A list of own lists, each of which may be written -/
theorem list_w (hn : 1 ≤ n) (hr : h.next + 2 < far) {v : Value} {m : Nat} {a : Nat → Int} (hi : Ints h v m a) (hm : m ≤ 30) (hm0 : 0 < m) :
    ∃ b h', call n (.func (.func 27) #[] #[]) [v] h = some (.slice (some ⟨b, 0, none⟩) m unk, h') ∧ h'.get b = some (.row (rowI m a) true 1) ∧ Made h h' 2 ∧ h.next ≤ b ∧ b < h'.next := by
  suffices hs : ∃ v' h', call n (.func (.func 27) #[] #[]) [v] h = some (v', h') ∧ ∃ b, v' = .slice (some ⟨b, 0, none⟩) m unk ∧ h'.get b = some (.row (rowI m a) true 1) ∧ Made h h' 2 ∧ h.next ≤ b ∧ b < h'.next by
    obtain ⟨v', h', e, b, rfl, h1⟩ := hs
    exact ⟨b, h', e, h1⟩
  obtain ⟨n, rfl⟩ : ∃ p, n = p + 1 := ⟨n - 1, by omega⟩
  refine call_any0 fok27 rfl rfl (by simp) ?_
  simp only [rn0, rn1, rn2, rn3, rn4, rn5, rn6, rn7, rn8, if_true, if_false, Nat.le_refl, true_and, and_true, decide_true, decide_false, Bool.not_true, Bool.not_false, reduceIte, Nat.reduceEqDiff, Nat.reduceAdd, Nat.reduceMul, Nat.reduceSub, Nat.reduceLeDiff, Nat.reduceLT, s27, build_none]
  refine step_slice (by omega) rfl fun h1 hx => ?_
  have hi1 := Cells.mono hi hx.sub
  obtain ⟨x, k, e1, e2⟩ := Ints.cells hi1
  have hap := append_none (s := 1) (bytes := 8) (b := h.next) ⟨x, k, e1⟩ e2 (by simp) (by simp [maxBytes]; omega) (by simp [maxBytes]; omega)
  rw [if_neg (by omega)] at hap
  simp only [rn0, rn1, rn2, rn3, rn4, rn5, rn6, rn7, rn8, if_true, if_false, Nat.le_refl, true_and, and_true, decide_true, decide_false, Bool.not_true, Bool.not_false, reduceIte, Nat.reduceEqDiff, Nat.reduceAdd, Nat.reduceMul, Nat.reduceSub, Nat.reduceLeDiff, Nat.reduceLT, hap]
  refine step_slice (by rw [hx.next]; omega) (by rw [allB_iff]; intro v hv; obtain ⟨i, _, rfl⟩ := List.mem_map.1 hv; rfl) fun h2 hx2 => ?_
  simp only [rn0, rn1, rn2, rn3, rn4, rn5, rn6, rn7, rn8, if_true, if_false, Nat.le_refl, true_and, and_true, decide_true, decide_false, Bool.not_true, Bool.not_false, reduceIte, Nat.reduceEqDiff, Nat.reduceAdd, Nat.reduceMul, Nat.reduceSub, Nat.reduceLeDiff, Nat.reduceLT]
  exact ⟨h1.next, rfl, hx2.get, ⟨hx.sub.trans hx2.sub, by rw [hx2.next, hx.next]; omega, by rw [hx2.next, hx.next]; omega, by rw [hx2.floor, hx.floor]⟩, by rw [hx.next]; omega, by rw [hx2.next]; omega⟩
/-- n own lists of m numbers each -/
def DRows (B : Nat) (h : AHeap) (v : Value) (n m : Nat) (q : Nat → Nat → Int) : Prop :=
  ∃ bk : Nat → Nat, GrowC B h v 1 n (fun k _ => .slice (some ⟨bk k, 0, none⟩) m unk) ∧ ∀ k, k < n → h.get (bk k) = some (.row (rowI m (q k)) true 1) ∧ B ≤ bk k ∧ bk k < h.next ∧ (∀ b c d, v = .slice (some b) c d → bk k ≠ b.block) ∧ ∀ j, j < n → j ≠ k → bk j ≠ bk k
theorem DRows.nil {B m : Nat} {q : Nat → Nat → Int} : DRows B h nilS 0 m q := ⟨fun _ => 0, .nil, fun k hk => by omega⟩
theorem DRows.rows {B n m : Nat} {v : Value} {q : Nat → Nat → Int} (hd : DRows B h v n m q) : Rows h v n (fun _ => m) q := by
  obtain ⟨bk, h1, h2⟩ := hd
  exact ⟨_, h1.cells, fun k hk => rowI_ints (w := 0) ⟨_, _, (h2 k hk).1⟩⟩
theorem DRows.keep {B o n m : Nat} {g : AHeap} {v : Value} {q : Nat → Nat → Int} (hd : DRows B h v n m q) (hk : Keep o h g) (ho : o < B) : DRows B g v n m q := by
  obtain ⟨bk, h1, h2⟩ := hd
  refine ⟨bk, h1.keep hk ho, fun k hkn => ?_⟩
  obtain ⟨a1, a2, a3, a4, a5⟩ := h2 k hkn
  exact ⟨hk.sub _ _ _ _ (by omega) a1, a2, Nat.lt_of_lt_of_le a3 hk.up, a4, a5⟩
theorem DRows.sub {B n m : Nat} {g : AHeap} {v : Value} {q : Nat → Nat → Int} (hd : DRows B h v n m q) (hs : Sub All h g) (hup : h.next ≤ g.next) : DRows B g v n m q := by
  obtain ⟨bk, h1, h2⟩ := hd
  refine ⟨bk, h1.sub hs, fun k hkn => ?_⟩
  obtain ⟨a1, a2, a3, a4, a5⟩ := h2 k hkn
  exact ⟨hs _ _ _ _ trivial a1, a2, Nat.lt_of_lt_of_le a3 hup, a4, a5⟩
theorem DRows.push {B n m b : Nat} {g h1 : AHeap} {v : Value} {q : Nat → Nat → Int} (hd : DRows B g v n m q) (hs : Sub All g h) (hup : g.next ≤ h.next) (hbg : g.next ≤ b) (hB : h.floor ≤ B) (hf : h.next + 2 < far) (hBn : B ≤ g.next) (hl : h.get b = some (.row (rowI m (q n)) true 1)) (hb : b < h.next) (hx : New h h1 [.slice (some ⟨b, 0, none⟩) m unk] 0) (hn : n + 1 ≤ 1000) :
    ∃ v' g', appendA 1 24 h1 v (.slice (some ⟨h.next, 0, none⟩) 1 1) = some (v', g') ∧ DRows B g' v' (n + 1) m q ∧ Kept h1 g' v ∧ oneCell v' = true ∧ (∀ a k c, v = .slice (some a) k c → B ≤ a.block) ∧ v' = .slice (some ⟨h1.next, 0, none⟩) (n + 1) unk := by
  obtain ⟨bk, g1, g2⟩ := hd
  have hnx := hx.next
  have hfl := hx.floor
  let bk' : Nat → Nat := fun i => if i = n then b else bk i
  have g1' : GrowC B h1 v 1 n (fun k _ => .slice (some ⟨bk' k, 0, none⟩) m unk) := ((g1.sub hs).sub hx.sub).congr fun k j hk hj => by show Value.slice (some ⟨bk k, 0, none⟩) m unk = .slice (some ⟨if k = n then b else bk k, 0, none⟩) m unk; rw [if_neg (by omega)]
  obtain ⟨v', g', e, ev, gv, hk⟩ := g1'.append (bytes := 24) (cap := 1) (by omega) (by omega) (by omega) hx.get rfl rfl (fun j hj => by rw [one_get j hj]; show some _ = some (Value.slice (some ⟨if n = n then b else bk n, 0, none⟩) m unk); rw [if_pos rfl]) (by simp [maxBytes]; omega) (by simp [maxBytes]; omega)
  have hkn := hk.next
  refine ⟨v', g', e, ⟨bk', gv, fun i hi => ?_⟩, hk, gv.one, fun a k c e => (g1.block e).1, ev⟩
  have hout : ∀ x c d, v' = .slice (some x) c d → x.block = h1.next := fun x c d e' => by rw [ev] at e'; cases e'; rfl
  by_cases hin : i = n
  · subst hin
    have hbi : bk' i = b := by show (if i = i then b else bk i) = b; rw [if_pos rfl]
    rw [hbi]
    refine ⟨?_, by omega, by omega, fun x c d e' => by have := hout x c d e'; omega, fun j hj hji => ?_⟩
    · rw [hk.old b (by omega) fun x c d e' => by have := (g1.block e').2; omega, hx.old b hb]; exact hl
    · show (if j = i then b else bk j) ≠ b
      rw [if_neg hji]; have := (g2 j (by omega)).2.2.1; omega
  · have hbi : bk' i = bk i := by show (if i = n then b else bk i) = bk i; rw [if_neg hin]
    rw [hbi]
    obtain ⟨a1, a2, a3, a4, a5⟩ := g2 i (by omega)
    refine ⟨?_, a2, by omega, fun x c d e' => by have := hout x c d e'; omega, fun j hj hji => ?_⟩
    · rw [hk.old (bk i) (by omega) fun x c d e' => a4 x c d e', hx.old (bk i) (by omega)]; exact hs _ _ _ _ trivial a1
    · show (if j = n then b else bk j) ≠ bk i
      by_cases e : j = n
      · rw [if_pos e]; omega
      · rw [if_neg e]; exact a5 j (by omega) hji
theorem cells_at' {g : AHeap} {v : Value} {s n : Nat} {c : Nat → Nat → Value} (hc : Cells h v s n c) (hg : ∀ a k cap, v = .slice (some a) k cap → g.get a.block = h.get a.block) : Cells g v s n c := by
  obtain ⟨a, cap, e, hsp, h0 | ⟨b, o, cs, w, gr, e1, e2, e3⟩⟩ := hc
  · exact ⟨a, cap, e, hsp, .inl h0⟩
  · subst e1
    exact ⟨_, cap, e, hsp, .inr ⟨b, o, cs, w, gr, rfl, by rw [hg _ _ _ e]; exact e2, e3⟩⟩
/-! ### The bounds of a yard without samples -/
theorem blueN_mono {b c q : Nat → Int} : ∀ n, (∀ k, k < n → b k ≤ c k ∧ 0 ≤ q k) → blueN b q n ≤ blueN c q n
  | 0, _ => by simp [blueN]
  | n + 1, hh => by
    have h1 := blueN_mono n fun k hk => hh k (by omega)
    obtain ⟨h2, h3⟩ := hh n (by omega)
    have h4 := Int.mul_le_mul_of_nonneg_right h2 h3
    simp only [blueN]
    omega
theorem blueN_bump {b q : Nat → Int} {f : Nat} : ∀ n, blueN b (fun k => if k = f then q k + 1 else q k) n = blueN b q n + if f < n then b f else 0
  | 0 => by simp [blueN]
  | n + 1 => by
    simp only [blueN]
    rw [blueN_bump n]
    by_cases e : n = f
    · subst e
      rw [if_neg (Nat.lt_irrefl n), if_pos rfl, if_pos (Nat.lt_succ_self n), Int.mul_add, Int.mul_one]
      omega
    · rw [if_neg e]
      by_cases e2 : f < n
      · rw [if_pos e2, if_pos (by omega)]; omega
      · rw [if_neg e2, if_neg (by omega)]; omega
theorem bare_ends {W : MY} (hf : faultN W = 0) (hs : W.ns = 0) : (fun j => if j < W.nf then W.lo j else 0) ∈ truths W ∧ (fun j => if j < W.nf then W.hi j else 0) ∈ truths W := by
  have hG := good_of hf
  refine ⟨?_, ?_⟩ <;> rw [truths_mem] <;> refine ⟨⟨fun j hj => ?_, fun j hj => ?_⟩, fun k hk => by omega⟩
  · simp only [hj, if_true]; have := hG.f j hj; omega
  · have e : ¬ j < W.nf := by omega
    simp only [e, if_false]
  · simp only [hj, if_true]; have := hG.f j hj; omega
  · have e : ¬ j < W.nf := by omega
    simp only [e, if_false]
theorem bare_lo {W : MY} (hf : faultN W = 0) (hs : W.ns = 0) {v : Nat} (hv : v < W.nv) : loN (fun t => blueN t (W.q v) W.nf) (truths W) = blueN W.lo (W.q v) W.nf := by
  obtain ⟨h1, _⟩ := bare_ends hf hs
  have hne := List.ne_nil_of_mem h1
  obtain ⟨v1, v2⟩ := (good_of hf).v v hv
  refine Int.le_antisymm ?_ ?_
  · have := (le_loN (val := fun t => blueN t (W.q v) W.nf) hne).1 (Int.le_refl _) _ h1
    have e : blueN (fun j => if j < W.nf then W.lo j else 0) (W.q v) W.nf = blueN W.lo (W.q v) W.nf := blueN_congr _ fun k hk => by rw [if_pos hk]
    simp only [e] at this
    exact this
  · rw [le_loN hne]
    intro t ht
    exact blueN_mono _ fun k hk => ⟨((truths_mem.1 ht).1.1 k hk).1, (v2 k (by omega)).1⟩
theorem bare_hi {W : MY} (hf : faultN W = 0) (hs : W.ns = 0) {v : Nat} (hv : v < W.nv) : hiN (fun t => blueN t (W.q v) W.nf) (truths W) = blueN W.hi (W.q v) W.nf := by
  obtain ⟨_, h1⟩ := bare_ends hf hs
  have hne := List.ne_nil_of_mem h1
  obtain ⟨v1, v2⟩ := (good_of hf).v v hv
  refine Int.le_antisymm ?_ ?_
  · rw [hiN_le hne]
    intro t ht
    exact blueN_mono _ fun k hk => ⟨((truths_mem.1 ht).1.1 k hk).2, (v2 k (by omega)).1⟩
  · have := (hiN_le (val := fun t => blueN t (W.q v) W.nf) hne).1 (Int.le_refl _) _ h1
    have e : blueN (fun j => if j < W.nf then W.hi j else 0) (W.q v) W.nf = blueN W.hi (W.q v) W.nf := blueN_congr _ fun k hk => by rw [if_pos hk]
    simp only [e] at this
    exact this
/-- the yard without its samples; with one bundle more -/
def bare (Y : MY) : MY := { Y with ns := 0 }
def bumped (Y : MY) (one f : Nat) : MY := { Y with ns := 0, cnt := fun _ => Y.nf, q := fun v k => if v = one then (if k = f then Y.q v k + 1 else Y.q v k) else Y.q v k }
theorem bare_fault {Y : MY} (hf : faultN Y = 0) : faultN (bare Y) = 0 := by
  have hG := good_of hf
  have h1 : SizesOk (bare Y) := ⟨hG.sz.1, hG.sz.2.1, Nat.zero_le _⟩
  have h4 : SampsOk (bare Y) := fun k hk => absurd hk (Nat.not_lt_zero _)
  unfold faultN at hf ⊢
  rw [if_neg (by simpa using hG.sz), if_pos ⟨hG.f, hG.v, hG.s⟩] at hf
  rw [if_neg (by simpa using h1), if_pos ⟨hG.f, hG.v, h4⟩]
  exact hf
theorem bumped_fault {Y : MY} (hf : faultN Y = 0) {one f : Nat} (ho : one < Y.nv) (hff : f < Y.nf) (h9 : Y.q one f ≠ 9) : faultN (bumped Y one f) = 0 := by
  have hG := good_of hf
  have h1 : SizesOk (bumped Y one f) := ⟨hG.sz.1, hG.sz.2.1, Nat.zero_le _⟩
  have h2 : VatsOk (bumped Y one f) := fun v hv => by
    obtain ⟨v1, v2⟩ := hG.v v hv
    refine ⟨rfl, fun k hk => ?_⟩
    have hk : k < Y.nf := hk
    have h3 := v2 k (by omega)
    show 0 ≤ (if v = one then (if k = f then Y.q v k + 1 else Y.q v k) else Y.q v k) ∧ (if v = one then (if k = f then Y.q v k + 1 else Y.q v k) else Y.q v k) ≤ 9
    by_cases e : v = one
    · rw [if_pos e]
      by_cases e2 : k = f
      · subst e e2
        rw [if_pos rfl]; omega
      · rw [if_neg e2]; exact h3
    · rw [if_neg e]; exact h3
  have h4 : SampsOk (bumped Y one f) := fun k hk => absurd hk (Nat.not_lt_zero _)
  unfold faultN at hf ⊢
  rw [if_neg (by simpa using hG.sz), if_pos ⟨hG.f, hG.v, hG.s⟩] at hf
  rw [if_neg (by simpa using h1), if_pos ⟨hG.f, h2, h4⟩]
  exact hf
end Go.Vm.Vat

namespace Go.Vm.Vat
open Go.Proofs
set_option linter.unusedSimpArgs false
set_option linter.unusedVariables false
set_option maxRecDepth 10000
variable {n : Nat} {h : AHeap}
def s60 : SCode := (.seq (.ops [⟨(some 4), none, .alloc [(.int .i64 (0)), (.int .i64 (0))]⟩]) (.seq (.ops [⟨(some 5), none, .mov (T 0)⟩, ⟨(some 6), none, .mov (T 1)⟩, ⟨(some 7), none, .build #[(0, 1), (1, 1)] [(.int .i64 (0)), (.int .i64 (0))] [0, 1] [(T 5), (T 6)]⟩, ⟨none, none, .store 2 (T 4) (T 7)⟩]) .ret))
theorem fok60 : FnOk Try.prog 60 8 s60 [.cellN 4 2] := ⟨Try.f60, _, Try.func60, rfl, Try.ntmps60, by kernel_rfl, by kernel_rfl⟩
theorem between_c (hn : 1 ≤ n) (hr : h.next + 2 < far) (lo hi : Int) : call n (.func (.func 60) #[] #[]) [.int .i64 lo, .int .i64 hi] h = some (.agg ⟨[.int .i64 lo, .int .i64 hi]⟩, h) := by
  obtain ⟨n, rfl⟩ : ∃ p, n = p + 1 := ⟨n - 1, by omega⟩
  refine call_plain0 fok60 rfl rfl (by simp) rfl ?_
  have hr : h.shutAll.next + 2 < far := hr
  have hfl : h.shutAll.floor ≤ h.shutAll.next := Nat.le_refl _
  generalize h.shutAll = h at hr hfl
  simp only [s60, W_seq, W_ops]
  refine ops_alloc (by omega) rfl fun h2 hx2 => ?_
  have n2 := hx2.next
  have f2 := hx2.floor
  simp only [rn0, rn1, rn2, rn3, rn4, rn5, rn6, rn7, rn8, if_true, if_false, Nat.le_refl, true_and, and_true, decide_true, decide_false, Bool.not_true, Bool.not_false, reduceIte, Nat.reduceEqDiff, Nat.reduceAdd, Nat.reduceMul, Nat.reduceSub, Nat.reduceLeDiff, Nat.reduceLT, build_range]
  refine step_store (vs := [.int .i64 lo, .int .i64 hi]) rfl hx2.get (by omega) (by omega) rfl rfl rfl (by simp) fun h3 hs => ?_
  rw [splice2] at hs
  have := hs.row.whole (n := 2) rfl
  simp only [rn0, rn1, rn2, rn3, rn4, rn5, rn6, rn7, rn8, if_true, if_false, Nat.le_refl, true_and, and_true, decide_true, decide_false, Bool.not_true, Bool.not_false, reduceIte, Nat.reduceEqDiff, Nat.reduceAdd, Nat.reduceMul, Nat.reduceSub, Nat.reduceLeDiff, Nat.reduceLT, this]
def s16 : SCode := (.seq (.ops [⟨(some 3), none, .box (T 0)⟩, ⟨(some 6), none, .mov (.const (.bool false))⟩]) (.seq (.seq (.ops [⟨(some 18), none, .loadN 3 (T 3)⟩, ⟨(some 19), none, .call (.func 62) [(T 18)]⟩, ⟨(some 20), none, .not (T 19)⟩, ⟨(some 21), none, .mov (T 20)⟩, ⟨(some 22), (some (21, false)), .fieldAddr 0 (T 3)⟩, ⟨(some 23), (some (21, false)), .load1 (T 22)⟩, ⟨(some 24), (some (21, false)), .len (T 23)⟩, ⟨(some 25), (some (21, false)), .int2 .eql (T 24) (.const (.int .i64 (0)))⟩, ⟨(some 26), none, .pick (T 21) (.const (.bool true)) (T 25)⟩, ⟨(some 27), none, .mov (T 26)⟩, ⟨(some 28), (some (27, false)), .fieldAddr 1 (T 3)⟩, ⟨(some 29), (some (27, false)), .load1 (T 28)⟩, ⟨(some 30), (some (27, false)), .len (T 29)⟩, ⟨(some 31), (some (27, false)), .int2 .eql (T 30) (.const (.int .i64 (0)))⟩, ⟨(some 32), none, .pick (T 27) (.const (.bool true)) (T 31)⟩]) (.cond (T 32) (.seq (.ops [⟨(some 33), none, .call (.func 24) []⟩, ⟨(some 6), none, .mov (T 33)⟩]) .ret) .skip)) (.seq (.draw [⟨.free, ⟨(some 34), none, .mov (T 1)⟩⟩, ⟨.free, ⟨(some 35), none, .plain (.convert 5 3 (T 34)) 3⟩⟩, ⟨.free, ⟨(some 36), none, .fieldAddr 1 (T 3)⟩⟩, ⟨.rd1, ⟨(some 37), none, .load1 (T 36)⟩⟩, ⟨.free, ⟨(some 38), none, .len (T 37)⟩⟩, ⟨.free, ⟨(some 39), none, .plain (.binOp .rem 3 (T 35) (T 38) 3) 3⟩⟩, ⟨.free, ⟨(some 40), none, .mov (T 2)⟩⟩, ⟨.free, ⟨(some 41), none, .plain (.convert 5 3 (T 40)) 3⟩⟩, ⟨.free, ⟨(some 42), none, .fieldAddr 0 (T 3)⟩⟩, ⟨.rd1, ⟨(some 43), none, .load1 (T 42)⟩⟩, ⟨.free, ⟨(some 44), none, .len (T 43)⟩⟩, ⟨.free, ⟨(some 45), none, .plain (.binOp .rem 3 (T 41) (T 44) 3) 3⟩⟩, ⟨.free, ⟨(some 7), none, .mov (T 39)⟩⟩, ⟨.free, ⟨(some 8), none, .mov (T 45)⟩⟩]) (.seq (.draw [⟨.rd, ⟨(some 46), none, .loadN 3 (T 3)⟩⟩, ⟨.rd, ⟨(some 47), none, .loadN 3 (T 3)⟩⟩, ⟨.up, ⟨(some 9), none, .alloc [(.slice none 0 0), (.slice none 0 0), (.slice none 0 0)]⟩⟩, ⟨.up, ⟨(some 10), none, .alloc [(.slice none 0 0), (.slice none 0 0), (.slice none 0 0)]⟩⟩, ⟨.up, ⟨none, none, .store 3 (T 9) (T 46)⟩⟩, ⟨.any, ⟨none, none, .store 3 (T 10) (T 47)⟩⟩]) (.seq (.ops [⟨(some 48), none, .fieldAddr 2 (T 9)⟩, ⟨none, none, .store 1 (T 48) (.const (.slice none 0 0))⟩, ⟨(some 49), none, .fieldAddr 2 (T 10)⟩, ⟨none, none, .store 1 (T 49) (.const (.slice none 0 0))⟩, ⟨(some 50), none, .fieldAddr 1 (T 10)⟩, ⟨none, none, .store 1 (T 50) (.const (.slice none 0 0))⟩]) (.seq (.seq (.ops [⟨(some 11), none, .mov (.const (.int .i64 (0)))⟩]) (.block 0 (.loop (.seq (.seq (.ops [⟨(some 51), none, .mov (T 11)⟩, ⟨(some 52), none, .fieldAddr 1 (T 3)⟩, ⟨(some 53), none, .load1 (T 52)⟩, ⟨(some 54), none, .len (T 53)⟩, ⟨(some 55), none, .int2 .lss (T 51) (T 54)⟩]) (.cond (T 55) .skip (.exit 0))) (.seq (.block 1 (.draw [⟨.free, ⟨(some 58), none, .fieldAddr 1 (T 10)⟩⟩, ⟨.rd, ⟨(some 59), none, .load1 (T 58)⟩⟩, ⟨.free, ⟨(some 60), none, .fieldAddr 1 (T 3)⟩⟩, ⟨.rd1, ⟨(some 61), none, .load1 (T 60)⟩⟩, ⟨.free, ⟨(some 62), none, .mov (T 11)⟩⟩, ⟨.free, ⟨(some 63), none, .idxSl 1 (T 61) (T 62)⟩⟩, ⟨.rd1, ⟨(some 64), none, .load1 (T 63)⟩⟩, ⟨.up, ⟨(some 65), none, .call (.func 27) [(T 64)]⟩⟩, ⟨.up, ⟨(some 66), none, .bslice 1 1 [(.slice none 0 0)] [0] [(T 65)]⟩⟩, ⟨.any, ⟨(some 67), none, .append 1 24 (T 59) (T 66)⟩⟩, ⟨.free, ⟨(some 68), none, .fieldAddr 1 (T 10)⟩⟩, ⟨.any, ⟨none, none, .store 1 (T 68) (T 67)⟩⟩])) (.ops [⟨(some 56), none, .mov (T 11)⟩, ⟨(some 57), none, .int2 .add (T 56) (.const (.int .i64 (1)))⟩, ⟨(some 11), none, .mov (T 57)⟩])))))) (.seq (.seq (.ops [⟨(some 69), none, .fieldAddr 1 (T 10)⟩, ⟨(some 70), none, .load1 (T 69)⟩, ⟨(some 71), none, .mov (T 7)⟩, ⟨(some 72), none, .idxSl 1 (T 70) (T 71)⟩, ⟨(some 73), none, .load1 (T 72)⟩, ⟨(some 74), none, .mov (T 8)⟩, ⟨(some 75), none, .idxSl 1 (T 73) (T 74)⟩, ⟨(some 76), none, .load1 (T 75)⟩, ⟨(some 77), none, .int2 .eql (T 76) (.const (.int .i64 (9)))⟩]) (.cond (T 77) (.seq (.ops [⟨(some 78), none, .call (.func 24) []⟩, ⟨(some 6), none, .mov (T 78)⟩]) .ret) .skip)) (.seq (.ops [⟨(some 79), none, .fieldAddr 1 (T 10)⟩, ⟨(some 80), none, .load1 (T 79)⟩, ⟨(some 81), none, .mov (T 7)⟩, ⟨(some 82), none, .idxSl 1 (T 80) (T 81)⟩, ⟨(some 83), none, .load1 (T 82)⟩, ⟨(some 84), none, .mov (T 8)⟩, ⟨(some 85), none, .idxSl 1 (T 83) (T 84)⟩, ⟨(some 86), none, .load1 (T 85)⟩, ⟨(some 87), none, .int2 .add (T 86) (.const (.int .i64 (1)))⟩, ⟨(some 88), none, .idxSl 1 (T 83) (T 84)⟩, ⟨none, none, .store 1 (T 88) (T 87)⟩]) (.seq (.ops [⟨(some 90), none, .loadN 3 (T 9)⟩, ⟨(some 91), none, .call (.func 26) [(T 90)]⟩, ⟨(some 92), none, .call (.func 34) [(T 91)]⟩, ⟨(some 89), none, .mov (T 92)⟩, ⟨(some 93), none, .extract 0 (T 89)⟩, ⟨(some 94), none, .extract 1 (T 89)⟩, ⟨(some 12), none, .mov (T 93)⟩, ⟨(some 13), none, .mov (T 94)⟩]) (.seq (.ops [⟨(some 96), none, .loadN 3 (T 10)⟩, ⟨(some 97), none, .call (.func 26) [(T 96)]⟩, ⟨(some 98), none, .call (.func 34) [(T 97)]⟩, ⟨(some 95), none, .mov (T 98)⟩, ⟨(some 99), none, .extract 0 (T 95)⟩, ⟨(some 100), none, .extract 1 (T 95)⟩, ⟨(some 14), none, .mov (T 99)⟩, ⟨(some 15), none, .mov (T 100)⟩]) (.seq (.seq (.ops [⟨(some 101), none, .mov (T 13)⟩, ⟨(some 102), none, .int2 .neq (T 101) (.const (.int .i64 (0)))⟩, ⟨(some 103), none, .mov (T 102)⟩, ⟨(some 104), (some (103, false)), .mov (T 15)⟩, ⟨(some 105), (some (103, false)), .int2 .neq (T 104) (.const (.int .i64 (0)))⟩, ⟨(some 106), none, .pick (T 103) (.const (.bool true)) (T 105)⟩, ⟨(some 107), none, .mov (T 106)⟩, ⟨(some 108), (some (107, false)), .mov (T 12)⟩, ⟨(some 109), (some (107, false)), .len (T 108)⟩, ⟨(some 110), (some (107, false)), .fieldAddr 1 (T 3)⟩, ⟨(some 111), (some (107, false)), .load1 (T 110)⟩, ⟨(some 112), (some (107, false)), .len (T 111)⟩, ⟨(some 113), (some (107, false)), .int2 .neq (T 109) (T 112)⟩, ⟨(some 114), none, .pick (T 107) (.const (.bool true)) (T 113)⟩, ⟨(some 115), none, .mov (T 114)⟩, ⟨(some 116), (some (115, false)), .mov (T 14)⟩, ⟨(some 117), (some (115, false)), .len (T 116)⟩, ⟨(some 118), (some (115, false)), .mov (T 12)⟩, ⟨(some 119), (some (115, false)), .len (T 118)⟩, ⟨(some 120), (some (115, false)), .int2 .neq (T 117) (T 119)⟩, ⟨(some 121), none, .pick (T 115) (.const (.bool true)) (T 120)⟩]) (.cond (T 121) (.seq (.ops [⟨(some 6), none, .mov (.const (.bool false))⟩]) .ret) .skip)) (.seq (.seq (.ops [⟨(some 16), none, .mov (.const (.int .i64 (0)))⟩]) (.block 2 (.loop (.seq (.seq (.ops [⟨(some 122), none, .mov (T 16)⟩, ⟨(some 123), none, .mov (T 12)⟩, ⟨(some 124), none, .len (T 123)⟩, ⟨(some 125), none, .int2 .lss (T 122) (T 124)⟩]) (.cond (T 125) .skip (.exit 2))) (.seq (.block 3 (.seq (.ops [⟨(some 128), none, .mov (T 12)⟩, ⟨(some 129), none, .mov (T 16)⟩, ⟨(some 130), none, .idxSl 2 (T 128) (T 129)⟩, ⟨(some 131), none, .loadN 2 (T 130)⟩, ⟨(some 17), none, .alloc [(.int .i64 (0)), (.int .i64 (0))]⟩, ⟨none, none, .store 2 (T 17) (T 131)⟩]) (.seq (.seq (.ops [⟨(some 132), none, .mov (T 16)⟩, ⟨(some 133), none, .mov (T 7)⟩, ⟨(some 134), none, .int2 .eql (T 132) (T 133)⟩]) (.cond (T 134) (.draw [⟨.free, ⟨(some 135), none, .mov (T 12)⟩⟩, ⟨.free, ⟨(some 136), none, .mov (T 16)⟩⟩, ⟨.free, ⟨(some 137), none, .idxSl 2 (T 135) (T 136)⟩⟩, ⟨.free, ⟨(some 138), none, .fieldAddr 0 (T 137)⟩⟩, ⟨.rd1, ⟨(some 139), none, .load1 (T 138)⟩⟩, ⟨.free, ⟨(some 140), none, .fieldAddr 0 (T 3)⟩⟩, ⟨.rd1, ⟨(some 141), none, .load1 (T 140)⟩⟩, ⟨.free, ⟨(some 142), none, .mov (T 8)⟩⟩, ⟨.free, ⟨(some 143), none, .idxSl 2 (T 141) (T 142)⟩⟩, ⟨.free, ⟨(some 144), none, .fieldAddr 0 (T 143)⟩⟩, ⟨.rd1, ⟨(some 145), none, .load1 (T 144)⟩⟩, ⟨.free, ⟨(some 146), none, .int2 .add (T 139) (T 145)⟩⟩, ⟨.free, ⟨(some 147), none, .mov (T 12)⟩⟩, ⟨.free, ⟨(some 148), none, .mov (T 16)⟩⟩, ⟨.free, ⟨(some 149), none, .idxSl 2 (T 147) (T 148)⟩⟩, ⟨.free, ⟨(some 150), none, .fieldAddr 1 (T 149)⟩⟩, ⟨.rd1, ⟨(some 151), none, .load1 (T 150)⟩⟩, ⟨.free, ⟨(some 152), none, .fieldAddr 0 (T 3)⟩⟩, ⟨.rd1, ⟨(some 153), none, .load1 (T 152)⟩⟩, ⟨.free, ⟨(some 154), none, .mov (T 8)⟩⟩, ⟨.free, ⟨(some 155), none, .idxSl 2 (T 153) (T 154)⟩⟩, ⟨.free, ⟨(some 156), none, .fieldAddr 1 (T 155)⟩⟩, ⟨.rd1, ⟨(some 157), none, .load1 (T 156)⟩⟩, ⟨.free, ⟨(some 158), none, .int2 .add (T 151) (T 157)⟩⟩, ⟨.any, ⟨(some 159), none, .call (.func 60) [(T 146), (T 158)]⟩⟩, ⟨.any, ⟨none, none, .store 2 (T 17) (T 159)⟩⟩]) .skip)) (.seq (.draw [⟨.free, ⟨(some 160), none, .mov (T 14)⟩⟩, ⟨.free, ⟨(some 161), none, .mov (T 16)⟩⟩, ⟨.free, ⟨(some 162), none, .idxSl 2 (T 160) (T 161)⟩⟩, ⟨.rd1, ⟨(some 163), none, .loadN 2 (T 162)⟩⟩, ⟨.rd1, ⟨(some 164), none, .loadN 2 (T 17)⟩⟩, ⟨.free, ⟨(some 165), none, .bin .neq (.binOp .neq 49 (T 163) (T 164) 49) 4 (T 163) (T 164)⟩⟩]) (.cond (T 165) (.seq (.ops [⟨(some 6), none, .mov (.const (.bool false))⟩]) .ret) .skip))))) (.ops [⟨(some 126), none, .mov (T 16)⟩, ⟨(some 127), none, .int2 .add (T 126) (.const (.int .i64 (1)))⟩, ⟨(some 16), none, .mov (T 127)⟩])))))) (.seq (.ops [⟨(some 166), none, .call (.func 24) []⟩, ⟨(some 6), none, .mov (T 166)⟩]) .ret)))))))))))))
theorem fok16 : FnOk Try.prog 16 167 s16 [.tmp 6] := ⟨Try.f16, _, Try.func16, rfl, Try.ntmps16, by kernel_rfl, by kernel_rfl⟩
set_option maxHeartbeats 4000000 in
theorem bundle_m (hn : 10100 ≤ n) (hr : h.next + 9000000 < far) (hfl : h.floor ≤ h.next) {fv vv sv : Value} {Y : MY} (hy : YardR h fv vv sv Y) (hT : Thin Y) (hf : faultN Y = 0) (hnf : 0 < Y.nf) (hnv : 0 < Y.nv) {a1 a2 : Nat} (w1 : a1 < 256) (w2 : a2 < 256) :
    ∃ v h', call n (.func (.func 16) #[] #[]) [.agg ⟨[fv, vv, sv]⟩, .int .u8 (a1 : Int), .int .u8 (a2 : Int)] h = some (v, h') ∧ v = .bool true := by
  obtain ⟨n, rfl⟩ : ∃ p, n = p + 1 := ⟨n - 1, by omega⟩
  refine call_any0 fok16 rfl rfl (by simp) ?_
  simp only [s16, W_seq, W_ops]
  refine ops_box (cs := [fv, vv, sv]) (by omega) rfl hy.one fun g1 hx1 => ?_
  have n1 := hx1.next
  have f1 := hx1.floor
  have e1 : g1.next = h.next + 1 := n1
  have hy1 := hy.mono hx1.sub
  have x1 := hx1.row.whole (n := 3) rfl
  have r1 := hx1.row
  have hrd := ready_c (n := n) (h := g1) (by omega) (by omega) hy1
  have hrd' : decide (Thin Y ∧ faultN Y = 0) = true := decide_eq_true ⟨hT, hf⟩
  rw [hrd'] at hrd
  obtain ⟨rr, hrw, hq⟩ := hy1.v
  have hG := good_of hf
  obtain ⟨s1, s2, s3⟩ := hG.sz
  have z1 : ¬ (Y.nf : Int) = 0 := by omega
  have z2 : ¬ (Y.nv : Int) = 0 := by omega
  obtain ⟨one, hone⟩ : ∃ x, x = a1 % Y.nv := ⟨_, rfl⟩
  obtain ⟨fld, hfld⟩ : ∃ x, x = a2 % Y.nf := ⟨_, rfl⟩
  have hov : one < Y.nv := by rw [hone]; exact Nat.mod_lt _ hnv
  have hof : fld < Y.nf := by rw [hfld]; exact Nat.mod_lt _ hnf
  have m1 : (a1 : Int).tmod (Y.nv : Int) = (one : Int) := by rw [hone]; rfl
  have m2 : (a2 : Int).tmod (Y.nf : Int) = (fld : Int) := by rw [hfld]; rfl
  simp only [rn0, rn1, rn2, rn3, rn4, rn5, rn6, rn7, rn8, if_true, if_false, Nat.le_refl, true_and, and_true, decide_true, decide_false, Bool.not_true, Bool.not_false, reduceIte, Nat.reduceEqDiff, Nat.reduceAdd, Nat.reduceMul, Nat.reduceSub, Nat.reduceLeDiff, Nat.reduceLT, x1, hrd, r1.ld, Nat.zero_add, List.getElem?_cons_zero, List.getElem?_cons_succ, Cells.len hy1.f, Cells.len hrw, z1, z2]
  refine W_draw All ?_
  simp only [rn0, rn1, rn2, rn3, rn4, rn5, rn6, rn7, rn8, if_true, if_false, Nat.le_refl, true_and, and_true, decide_true, decide_false, Bool.not_true, Bool.not_false, reduceIte, Nat.reduceEqDiff, Nat.reduceAdd, Nat.reduceMul, Nat.reduceSub, Nat.reduceLeDiff, Nat.reduceLT, p_conv8, r_8 w1, r_8 w2, valN_tmp, valN_const, Nat.reduceLT, r1.ld, Nat.zero_add, List.getElem?_cons_zero, List.getElem?_cons_succ, Cells.len hy1.f, Cells.len hrw, r_rem z1, r_rem z2, m1, m2]
  refine W_draw All ?_
  simp only [rn0, rn1, rn2, rn3, rn4, rn5, rn6, rn7, rn8, if_true, if_false, Nat.le_refl, true_and, and_true, decide_true, decide_false, Bool.not_true, Bool.not_false, reduceIte, Nat.reduceEqDiff, Nat.reduceAdd, Nat.reduceMul, Nat.reduceSub, Nat.reduceLeDiff, Nat.reduceLT, x1, hy1.self]
  refine up_row (cs := [nilS, nilS, nilS]) (by omega) rfl rfl (fun g2 hx => hx.sub) fun g2 hx2 => ?_
  have n2 := hx2.next
  have f2 := hx2.floor
  have e2 : g2.next = h.next + 2 := by omega
  simp only [rn0, rn1, rn2, rn3, rn4, rn5, rn6, rn7, rn8, if_true, if_false, Nat.le_refl, true_and, and_true, decide_true, decide_false, Bool.not_true, Bool.not_false, reduceIte, Nat.reduceEqDiff, Nat.reduceAdd, Nat.reduceMul, Nat.reduceSub, Nat.reduceLeDiff, Nat.reduceLT]
  refine up_row (cs := [nilS, nilS, nilS]) (by omega) rfl rfl (fun g3 hx => hx2.sub.trans hx.sub) fun g3 hx3 => ?_
  have n3 := hx3.next
  have f3 := hx3.floor
  have rx3 : g3.get (h.next + 1) = some (.row [nilS, nilS, nilS] true 0) := by rw [hx3.old _ (by omega)]; have := hx2.get; rw [e1] at this; exact this
  have rz3 : g3.get (h.next + 2) = some (.row [nilS, nilS, nilS] true 0) := by have := hx3.get; rw [e2] at this; exact this
  rw [e1, e2]
  simp only [rn0, rn1, rn2, rn3, rn4, rn5, rn6, rn7, rn8, if_true, if_false, Nat.le_refl, true_and, and_true, decide_true, decide_false, Bool.not_true, Bool.not_false, reduceIte, Nat.reduceEqDiff, Nat.reduceAdd, Nat.reduceMul, Nat.reduceSub, Nat.reduceLeDiff, Nat.reduceLT]
  refine up_store (b := h.next + 1) (off := 0) (vs := [fv, vv, sv]) rfl rx3 (by omega) (by omega) rfl hy.one rfl (by simp) (fun g hs => fun i cs w gr t hg => by
    have := AHeap.lt_of_get hg
    rw [hs.old i (by omega)]; exact hx3.sub _ _ _ _ t (hx2.sub _ _ _ _ t hg)) fun g4 hs4 => ?_
  rw [show splice [nilS, nilS, nilS] 0 [fv, vv, sv] = [fv, vv, sv] from rfl] at hs4
  have n4 := hs4.next
  have f4 := hs4.floor
  simp only [rn0, rn1, rn2, rn3, rn4, rn5, rn6, rn7, rn8, if_true, if_false, Nat.le_refl, true_and, and_true, decide_true, decide_false, Bool.not_true, Bool.not_false, reduceIte, Nat.reduceEqDiff, Nat.reduceAdd, Nat.reduceMul, Nat.reduceSub, Nat.reduceLeDiff, Nat.reduceLT]
  refine up_store (b := h.next + 2) (off := 0) (vs := [fv, vv, sv]) rfl (by rw [hs4.old _ (by omega)]; exact rz3) (by omega) (by omega) rfl hy.one rfl (by simp) (fun _ _ => trivial) fun g5 hs5 => ?_
  rw [show splice [nilS, nilS, nilS] 0 [fv, vv, sv] = [fv, vv, sv] from rfl] at hs5
  have n5 := hs5.next
  have f5 := hs5.floor
  have gx5 : g5.get (h.next + 1) = some (.row [fv, vv, sv] true 0) := by rw [hs5.old _ (by omega)]; exact hs4.get
  simp only [rn0, rn1, rn2, rn3, rn4, rn5, rn6, rn7, rn8, if_true, if_false, Nat.le_refl, true_and, and_true, decide_true, decide_false, Bool.not_true, Bool.not_false, reduceIte, Nat.reduceEqDiff, Nat.reduceAdd, Nat.reduceMul, Nat.reduceSub, Nat.reduceLeDiff, Nat.reduceLT, Nat.zero_add]
  refine step_store (b := h.next + 1) (off := 2) (vs := [nilS]) rfl gx5 (by omega) (by omega) rfl rfl rfl (by simp) fun g6 hs6 => ?_
  rw [spliceN2] at hs6
  have n6 := hs6.next
  have f6 := hs6.floor
  have gz6 : g6.get (h.next + 2) = some (.row [fv, vv, sv] true 0) := by rw [hs6.old _ (by omega)]; exact hs5.get
  simp only [rn0, rn1, rn2, rn3, rn4, rn5, rn6, rn7, rn8, if_true, if_false, Nat.le_refl, true_and, and_true, decide_true, decide_false, Bool.not_true, Bool.not_false, reduceIte, Nat.reduceEqDiff, Nat.reduceAdd, Nat.reduceMul, Nat.reduceSub, Nat.reduceLeDiff, Nat.reduceLT, Nat.zero_add]
  refine step_store (b := h.next + 2) (off := 2) (vs := [nilS]) rfl gz6 (by omega) (by omega) rfl rfl rfl (by simp) fun g7 hs7 => ?_
  rw [spliceN2] at hs7
  have n7 := hs7.next
  have f7 := hs7.floor
  simp only [rn0, rn1, rn2, rn3, rn4, rn5, rn6, rn7, rn8, if_true, if_false, Nat.le_refl, true_and, and_true, decide_true, decide_false, Bool.not_true, Bool.not_false, reduceIte, Nat.reduceEqDiff, Nat.reduceAdd, Nat.reduceMul, Nat.reduceSub, Nat.reduceLeDiff, Nat.reduceLT, Nat.zero_add]
  refine step_store (b := h.next + 2) (off := 1) (vs := [nilS]) rfl hs7.get (by omega) (by omega) rfl rfl rfl (by simp) fun g8 hs8 => ?_
  rw [show splice [fv, vv, nilS] 1 [nilS] = [fv, nilS, nilS] from rfl] at hs8
  have n8 := hs8.next
  have f8 := hs8.floor
  have old8 : ∀ i, i < h.next + 1 → g8.get i = g1.get i := fun i hi => by rw [hs8.old i (by omega), hs7.old i (by omega), hs6.old i (by omega), hs5.old i (by omega), hs4.old i (by omega), hx3.old i (by omega), hx2.old i (by omega)]
  have gx8 : g8.get (h.next + 1) = some (.row [fv, vv, nilS] true 0) := by rw [hs8.old _ (by omega), hs7.old _ (by omega)]; exact hs6.get
  have gz8 : g8.get (h.next + 2) = some (.row [fv, nilS, nilS] true 0) := hs8.get
  have s18 : Sub All g1 g8 := fun i cs w gr t hg => by rw [old8 i (by have := AHeap.lt_of_get hg; omega)]; exact hg
  have e8 : g8.next = h.next + 3 := by omega
  have r8 := r1.mono s18
  have hy8 := hy1.mono s18
  clear hs4 hs5 hs6 hs7 hs8 hx2 hx3 gx5 gz6 rx3 rz3
  have hall : ∀ {g : AHeap}, Keep (h.next + 2) g8 g → Sub All g1 g := fun st i cs w gr t hg => st.sub i cs w gr (by have := AHeap.lt_of_get hg; omega) (s18 _ _ _ _ t hg)
  have rk : ∀ {g : AHeap}, Keep (h.next + 2) g8 g → Row g h.next [fv, vv, sv] := fun st => r8.keep st (by omega)
  simp only [rn0, rn1, rn2, rn3, rn4, rn5, rn6, rn7, rn8, if_true, if_false, Nat.le_refl, true_and, and_true, decide_true, decide_false, Bool.not_true, Bool.not_false, reduceIte, Nat.reduceEqDiff, Nat.reduceAdd, Nat.reduceMul, Nat.reduceSub, Nat.reduceLeDiff, Nat.reduceLT]
  refine W_loop Y.nv (fun i f g ms => (∃ zv, Keep (h.next + 2) g8 g ∧ g.get (h.next + 2) = some (.row [fv, zv, nilS] true 0) ∧ DRows g8.next g zv i Y.nf Y.q ∧ g.next ≤ g8.next + 5 * i) ∧ ms = [] ∧ f 3 = .pointer (some ⟨h.next, 0, none⟩) ∧ f 7 = .int .i64 (one : Int) ∧ f 8 = .int .i64 (fld : Int) ∧ f 9 = .pointer (some ⟨h.next + 1, 0, none⟩) ∧ f 10 = .pointer (some ⟨h.next + 2, 0, none⟩) ∧ f 11 = .int .i64 (i : Int)) (by simp; omega) ?_ ?_ ?_
  · simp only [rn0, rn1, rn2, rn3, rn4, rn5, rn6, rn7, rn8, if_true, if_false, Nat.le_refl, true_and, and_true, decide_true, decide_false, Bool.not_true, Bool.not_false, reduceIte, Nat.reduceEqDiff, Nat.reduceAdd, Nat.reduceMul, Nat.reduceSub, Nat.reduceLeDiff, Nat.reduceLT]
    exact ⟨⟨_, Keep.refl, gz8, .nil, by omega⟩, rfl⟩
  · rintro i f g ms hi ⟨⟨zv, st, go, gd, hgn⟩, rfl, p3, p7, p8, p9, p10, p11⟩
    have hi' : (i : Int) < (Y.nv : Int) := by omega
    have hwi : wrapF .i64 ((i : Int) + 1) = ((i + 1 : Nat) : Int) := by rw [wrap_in (by omega) (by omega)]; rfl
    have hup := st.up
    have hfg := st.floor
    have hyg := hy1.mono (hall st)
    obtain ⟨rr, hrw, hq⟩ := hyg.v
    have hrow : Row g (h.next + 2) [fv, zv, nilS] := ⟨_, _, go⟩
    have hcnt : Y.cnt i = Y.nf := (hG.v i hi).1
    have hqi := hq i hi
    rw [hcnt] at hqi
    obtain ⟨b, g9, el, hgb, m9, b1, b2⟩ := list_w (n := n) (h := g) (by omega) (by omega) hqi (by omega) hnf
    have n9 := m9.next
    have u9 := m9.up
    have f9 := m9.floor
    obtain ⟨bk0, gc0, _⟩ := id gd
    have hzself := gc0.cells.self
    have hzb : ∀ x c d, zv = .slice (some x) c d → x.block < g.next := fun x c d e => (gc0.block e).2
    simp only [rn0, rn1, rn2, rn3, rn4, rn5, rn6, rn7, rn8, if_true, if_false, Nat.le_refl, true_and, and_true, decide_true, decide_false, Bool.not_true, Bool.not_false, reduceIte, Nat.reduceEqDiff, Nat.reduceAdd, Nat.reduceMul, Nat.reduceSub, Nat.reduceLeDiff, Nat.reduceLT, p3, p7, p8, p9, p10, p11, (rk st).ld, Nat.zero_add, List.getElem?_cons_zero, List.getElem?_cons_succ, Cells.len hrw, hi']
    refine W_draw All ?_
    simp only [rn0, rn1, rn2, rn3, rn4, rn5, rn6, rn7, rn8, if_true, if_false, Nat.le_refl, true_and, and_true, decide_true, decide_false, Bool.not_true, Bool.not_false, reduceIte, Nat.reduceEqDiff, Nat.reduceAdd, Nat.reduceMul, Nat.reduceSub, Nat.reduceLeDiff, Nat.reduceLT, p3, p7, p8, p9, p10, p11, (rk st).ld, hrow.ld, Nat.zero_add, List.getElem?_cons_zero, List.getElem?_cons_succ, hzself, Cells.idx hrw hi, Cells.ld hrw hi Nat.zero_lt_one, el, sl_row (v := .slice (some ⟨b, 0, none⟩) Y.nf unk) rfl]
    refine ⟨⟨by omega, m9.sub⟩, ?_⟩
    refine up_slice (by omega) rfl (fun g10 hx => m9.sub.trans hx.sub) fun g10 hx10 => ?_
    have n10 := hx10.next
    have f10 := hx10.floor
    obtain ⟨v', g11, e11, gd11, hk11, ho11, hvB, _⟩ := gd.push (h := g9) (h1 := g10) (b := b) m9.sub u9 b1 (by omega) (by omega) (by omega) hgb b2 hx10 (by omega)
    have n11 := hk11.next
    have f11 := hk11.floor
    have st10 : Keep (h.next + 2) g8 g10 := st.trans ⟨fun i cs w gr t hg => hx10.sub _ _ _ _ trivial (m9.sub _ _ _ _ trivial hg), by omega, by omega⟩
    obtain ⟨st11, go11⟩ := grew st10 hk11 (fun a k c e => hvB a k c e) (by omega) (hx10.sub _ _ _ _ trivial (m9.sub _ _ _ _ trivial go))
    simp only [rn0, rn1, rn2, rn3, rn4, rn5, rn6, rn7, rn8, if_true, if_false, Nat.le_refl, true_and, and_true, decide_true, decide_false, Bool.not_true, Bool.not_false, reduceIte, Nat.reduceEqDiff, Nat.reduceAdd, Nat.reduceMul, Nat.reduceSub, Nat.reduceLeDiff, Nat.reduceLT, p3, p7, p8, p9, p10, p11, e11, Nat.zero_add]
    refine ⟨by omega, up_store (b := h.next + 2) (off := 1) (vs := [v']) rfl go11 (by omega) (by omega) (by cases v' <;> first | rfl | cases ho11) (by simp [allB, ho11]) rfl (by simp) (fun _ _ => trivial) fun g12 hs => ?_⟩
    rw [show splice [fv, zv, nilS] 1 [v'] = [fv, v', nilS] from rfl] at hs
    have n12 := hs.next
    simp only [rn0, rn1, rn2, rn3, rn4, rn5, rn6, rn7, rn8, if_true, if_false, Nat.le_refl, true_and, and_true, decide_true, decide_false, Bool.not_true, Bool.not_false, reduceIte, Nat.reduceEqDiff, Nat.reduceAdd, Nat.reduceMul, Nat.reduceSub, Nat.reduceLeDiff, Nat.reduceLT, p3, p7, p8, p9, p10, p11, hwi]
    exact ⟨_, set_keep st11 hs, hs.get, gd11.keep hs.keep (by omega), by omega⟩
  rintro f g ms ⟨⟨zv, st, go, gd, hgn⟩, rfl, p3, p7, p8, p9, p10, p11⟩
  have hup := st.up
  have hfg := st.floor
  have hyg := hy1.mono (hall st)
  obtain ⟨rr, hrw, hq⟩ := hyg.v
  have hrow : Row g (h.next + 2) [fv, zv, nilS] := ⟨_, _, go⟩
  obtain ⟨bk, gc, gb⟩ := gd
  obtain ⟨k1, k2, k3, k4, k5⟩ := gb one hov
  have lv := (show Row g (bk one) (rowI Y.nf (Y.q one)) from ⟨_, _, k1⟩)
  have lq : loadCell g (.pointer (some ⟨bk one, fld, none⟩)) = some (.int .i64 (Y.q one fld)) := by rw [lv.ld, rowI_get hof]
  obtain ⟨v1, v2⟩ := hG.v one hov
  have hqr := v2 fld (by omega)
  have haw : ∀ g, call n (.func (.func 24) #[] #[]) [] g = some (.bool true, g) := fun g => awake_c (n := n) (h := g) (by omega)
  by_cases h9 : Y.q one fld = 9
  · simp only [rn0, rn1, rn2, rn3, rn4, rn5, rn6, rn7, rn8, if_true, if_false, Nat.le_refl, true_and, and_true, decide_true, decide_false, Bool.not_true, Bool.not_false, reduceIte, Nat.reduceEqDiff, Nat.reduceAdd, Nat.reduceMul, Nat.reduceSub, Nat.reduceLeDiff, Nat.reduceLT, p3, p7, p8, p9, p10, p11, (rk st).ld, hrow.ld, Nat.zero_add, List.getElem?_cons_zero, List.getElem?_cons_succ, Cells.len hrw, Int.lt_irrefl, Cells.idx gc.cells hov, Cells.ld gc.cells hov Nat.zero_lt_one, idxSl_p (o := bk one) hof, lq, h9, haw]
  have hwq : wrapF .i64 (Y.q one fld + 1) = Y.q one fld + 1 := wrap_in (by omega) (by omega)
  simp only [rn0, rn1, rn2, rn3, rn4, rn5, rn6, rn7, rn8, if_true, if_false, Nat.le_refl, true_and, and_true, decide_true, decide_false, Bool.not_true, Bool.not_false, reduceIte, Nat.reduceEqDiff, Nat.reduceAdd, Nat.reduceMul, Nat.reduceSub, Nat.reduceLeDiff, Nat.reduceLT, p3, p7, p8, p9, p10, p11, (rk st).ld, hrow.ld, Nat.zero_add, List.getElem?_cons_zero, List.getElem?_cons_succ, Cells.len hrw, Int.lt_irrefl, Cells.idx gc.cells hov, Cells.ld gc.cells hov Nat.zero_lt_one, idxSl_p (o := bk one) hof, lq, h9, hwq]
  refine step_store (b := bk one) (off := fld) (vs := [.int .i64 (Y.q one fld + 1)]) rfl k1 (by omega) (by omega) rfl rfl rfl (by rw [rowI_len]; omega) fun g2 hs2 => ?_
  rw [rowI_splice hof] at hs2
  have n2' := hs2.next
  have f2' := hs2.floor
  have hsub2 : ∀ i, i ≠ bk one → g2.get i = g.get i := hs2.old
  have sub12 : Sub All g1 g2 := fun i cs w gr t hg => by rw [hs2.old i (by have := AHeap.lt_of_get hg; omega)]; exact hall st _ _ _ _ t hg
  have r2 := r1.mono sub12
  have rx2 : Row g2 (h.next + 1) [fv, vv, nilS] := ⟨_, _, by rw [hs2.old _ (by omega)]; exact st.sub _ _ _ _ (by omega) gx8⟩
  have rz2 : Row g2 (h.next + 2) [fv, zv, nilS] := ⟨_, _, by rw [hs2.old _ (by omega)]; exact go⟩
  have hy2 := hy1.mono sub12
  have hX : YardR g2 fv vv nilS (bare Y) := ⟨hy2.f, hy2.v, ⟨none, 0, rfl, fun x e => (by cases e), .inl rfl⟩⟩
  have hZ : YardR g2 fv zv nilS (bumped Y one fld) := by
    refine ⟨hy2.f, ⟨fun k => .slice (some ⟨bk k, 0, none⟩) Y.nf unk, ?_, fun k hk => ?_⟩, ⟨none, 0, rfl, fun x e => (by cases e), .inl rfl⟩⟩
    · exact cells_at' gc.cells fun x c d e => hs2.old _ (k4 x c d e).symm
    · have hk : k < Y.nv := hk
      by_cases e : k = one
      · subst e
        have : (bumped Y k fld).q k = fun j => if j = fld then Y.q k fld + 1 else Y.q k j := by
          funext j
          show (if k = k then (if j = fld then Y.q k j + 1 else Y.q k j) else Y.q k j) = _
          rw [if_pos rfl]
          by_cases e2 : j = fld
          · subst e2; rfl
          · rw [if_neg e2, if_neg e2]
        rw [this]
        exact rowI_ints (w := 0) ⟨_, _, hs2.get⟩
      · have : (bumped Y one fld).q k = Y.q k := by
          funext j
          show (if k = one then _ else Y.q k j) = _
          rw [if_neg e]
        rw [this]
        exact rowI_ints (w := 0) ⟨_, _, by rw [hs2.old _ (k5 k hk e)]; exact (gb k hk).1⟩
  have hfx := bare_fault hf
  have hfz := bumped_fault hf hov hof h9
  have hTX : Thin (bare Y) := ⟨hT.1, hT.2.1, Nat.zero_le _, hT.2.2.2⟩
  have hTZ : Thin (bumped Y one fld) := ⟨hT.1, hT.2.1, Nat.zero_le _, fun _ _ => hT.1⟩
  obtain ⟨F1, V1, S1, g3, ey1, hy1', m3⟩ := yard_c (n := n) (h := g2) (by omega) (by omega) (by omega) hX hTX
  have n3' := m3.next
  have u3' := m3.up
  have f3' := m3.floor
  obtain ⟨b1v, g4, eb1, m4, hb1⟩ := boundsV_c (n := n) (h := g3) (by omega) (by omega) (by omega) hy1' hTX
  have n4' := m4.next
  have u4' := m4.up
  have f4' := m4.floor
  have s24 : Sub All g2 g4 := m3.sub.trans m4.sub
  obtain ⟨F2, V2, S2, g5, ey2, hy2', m5⟩ := yard_c (n := n) (h := g4) (by omega) (by omega) (by omega) (hZ.mono s24) hTZ
  have n5' := m5.next
  have u5' := m5.up
  have f5' := m5.floor
  obtain ⟨b2v, g6, eb2, m6, hb2⟩ := boundsV_c (n := n) (h := g5) (by omega) (by omega) (by omega) hy2' hTZ
  have n6' := m6.next
  have u6' := m6.up
  have f6' := m6.floor
  have s26 : Sub All g2 g6 := s24.trans (m5.sub.trans m6.sub)
  obtain ⟨tx, _⟩ := bare_ends hfx rfl
  obtain ⟨tz, _⟩ := bare_ends hfz rfl
  rcases hb1 with ⟨h0, _⟩ | ⟨_, h0, _⟩ | ⟨_, _, l1, rfl, hl1⟩
  · exact absurd hfx h0
  · exact absurd h0 (List.ne_nil_of_mem tx)
  rcases hb2 with ⟨h0, _⟩ | ⟨_, h0, _⟩ | ⟨_, _, l2, rfl, hl2⟩
  · exact absurd hfz h0
  · exact absurd h0 (List.ne_nil_of_mem tz)
  have w2x := rx2.whole (n := 3) rfl
  have w4z := (rz2.mono s24).whole (n := 3) rfl
  have r6 := r2.mono s26
  have hy6 := hy2.mono s26
  obtain ⟨rr6, hrw6, _⟩ := hy6.v
  have hl1' : Ranges g6 l1 Y.nv _ _ := Cells.mono hl1 (m5.sub.trans m6.sub)
  have hl2' : Ranges g6 l2 Y.nv _ _ := hl2
  simp only [rn0, rn1, rn2, rn3, rn4, rn5, rn6, rn7, rn8, if_true, if_false, Nat.le_refl, true_and, and_true, decide_true, decide_false, Bool.not_true, Bool.not_false, reduceIte, Nat.reduceEqDiff, Nat.reduceAdd, Nat.reduceMul, Nat.reduceSub, Nat.reduceLeDiff, Nat.reduceLT, p3, p7, p8, p9, p10, p11, w2x, ey1, eb1, ex0, ex1, w4z, ey2, eb2, Int.reduceEq, Cells.len hl1', Cells.len hl2', r6.ld, Nat.zero_add, List.getElem?_cons_zero, List.getElem?_cons_succ, Cells.len hrw6]
  refine W_loop Y.nv (fun i f g ms => (Sub All g6 g ∧ g.floor = g6.floor ∧ g6.next ≤ g.next ∧ g.next ≤ g6.next + 5 * i) ∧ ms = [] ∧ f 3 = .pointer (some ⟨h.next, 0, none⟩) ∧ f 7 = .int .i64 (one : Int) ∧ f 8 = .int .i64 (fld : Int) ∧ f 12 = l1 ∧ f 14 = l2 ∧ f 16 = .int .i64 (i : Int)) (by simp; omega) ?_ ?_ ?_
  · simp only [rn0, rn1, rn2, rn3, rn4, rn5, rn6, rn7, rn8, if_true, if_false, Nat.le_refl, true_and, and_true, decide_true, decide_false, Bool.not_true, Bool.not_false, reduceIte, Nat.reduceEqDiff, Nat.reduceAdd, Nat.reduceMul, Nat.reduceSub, Nat.reduceLeDiff, Nat.reduceLT, p3, p7, p8, p9, p10, p11]
    exact ⟨by omega, rfl⟩
  · rintro i f g ms hi ⟨⟨sg, fg, ug, bg⟩, rfl, p3, p7, p8, p12, p14, p16⟩
    have hi' : (i : Int) < (Y.nv : Int) := by omega
    have hwi : wrapF .i64 ((i : Int) + 1) = ((i + 1 : Nat) : Int) := by rw [wrap_in (by omega) (by omega)]; rfl
    have A1 : Ranges g l1 Y.nv _ _ := Cells.mono hl1' sg
    have A2 : Ranges g l2 Y.nv _ _ := Cells.mono hl2' sg
    have lo1 : loN (fun t => blueN t ((bare Y).q i) (bare Y).nf) (truths (bare Y)) = blueN Y.lo (Y.q i) Y.nf := bare_lo hfx rfl hi
    have hi1 : hiN (fun t => blueN t ((bare Y).q i) (bare Y).nf) (truths (bare Y)) = blueN Y.hi (Y.q i) Y.nf := bare_hi hfx rfl hi
    have lo2 : loN (fun t => blueN t ((bumped Y one fld).q i) (bumped Y one fld).nf) (truths (bumped Y one fld)) = blueN Y.lo ((bumped Y one fld).q i) Y.nf := bare_lo hfz rfl hi
    have hi2 : hiN (fun t => blueN t ((bumped Y one fld).q i) (bumped Y one fld).nf) (truths (bumped Y one fld)) = blueN Y.hi ((bumped Y one fld).q i) Y.nf := bare_hi hfz rfl hi
    have a1 := ranges_ld A1 hi
    have a2 := ranges_ld A2 hi
    rw [lo1, hi1] at a1
    rw [lo2, hi2] at a2
    simp only [rn0, rn1, rn2, rn3, rn4, rn5, rn6, rn7, rn8, if_true, if_false, Nat.le_refl, true_and, and_true, decide_true, decide_false, Bool.not_true, Bool.not_false, reduceIte, Nat.reduceEqDiff, Nat.reduceAdd, Nat.reduceMul, Nat.reduceSub, Nat.reduceLeDiff, Nat.reduceLT, p3, p7, p8, p12, p14, p16, Cells.len A1, hi', Cells.idx A1 hi, a1]
    refine step_new (vs := [.int .i64 (blueN Y.lo (Y.q i) Y.nf), .int .i64 (blueN Y.hi (Y.q i) Y.nf)]) (by omega) (by omega) rfl (by simp only [rn0, rn1, rn2, rn3, rn4, rn5, rn6, rn7, rn8, if_true, if_false, Nat.le_refl, true_and, and_true, decide_true, decide_false, Bool.not_true, Bool.not_false, reduceIte, Nat.reduceEqDiff, Nat.reduceAdd, Nat.reduceMul, Nat.reduceSub, Nat.reduceLeDiff, Nat.reduceLT]; rfl) rfl rfl rfl fun g7 hx7 => ?_
    have n7' := hx7.next
    have f7' := hx7.floor
    have A17 : Ranges g7 l1 Y.nv _ _ := Cells.mono A1 hx7.sub
    have A27 : Ranges g7 l2 Y.nv _ _ := Cells.mono A2 hx7.sub
    have a27 := ranges_ld A27 hi
    rw [lo2, hi2] at a27
    have w7 := hx7.row.whole (n := 2) rfl
    have he7 := fun (a0 a1 : Int) (f : Fr) (e1 : f 163 = .agg ⟨[.int .i64 a0, .int .i64 a1]⟩) (e2 : f 164 = .agg ⟨[.int .i64 a0, .int .i64 a1]⟩) => neq49 (h := g7) (N := 167) (f := f) (x := T 163) (y := T 164) (ty := 4) (u := 49) (by rw [valN_tmp (by omega)]; exact e1) (by rw [valN_tmp (by omega)]; exact e2)
    by_cases hio : i = one
    · subst hio
      have q1 : loadCell g7 (ptrO l1 2 i 0) = some (.int .i64 (blueN Y.lo (Y.q i) Y.nf)) := by rw [← lo1]; exact Cells.ld A17 hi (by omega)
      have q2 : loadCell g7 (ptrO l1 2 i 1) = some (.int .i64 (blueN Y.hi (Y.q i) Y.nf)) := by rw [← hi1]; exact Cells.ld A17 hi (by omega)
      have hyF := ((hy6.mono sg).mono hx7.sub).f
      have q3 : loadCell g7 (ptrO fv 2 fld 0) = some (.int .i64 (Y.lo fld)) := Cells.ld hyF hof (by omega)
      have q4 : loadCell g7 (ptrO fv 2 fld 1) = some (.int .i64 (Y.hi fld)) := Cells.ld hyF hof (by omega)
      have r7 := (r6.mono sg).mono hx7.sub
      obtain ⟨v1', v2'⟩ := hG.v i hi
      have bl := blueN_bound (b := Y.lo) (q := Y.q i) (n := Y.nf) (by omega) (fun k hk => by have := hG.f k hk; omega) (fun j hj => v2' j (by omega)) Y.nf (Nat.le_refl _)
      have bh := blueN_bound (b := Y.hi) (q := Y.q i) (n := Y.nf) (by omega) (fun k hk => by have := hG.f k hk; omega) (fun j hj => v2' j (by omega)) Y.nf (Nat.le_refl _)
      have hff := hG.f fld hof
      have c180 : (180 : Int) * Y.nf ≤ 900 := by omega
      have wq1 : wrapF .i64 (blueN Y.lo (Y.q i) Y.nf + Y.lo fld) = blueN Y.lo (Y.q i) Y.nf + Y.lo fld := wrap_in (by omega) (by omega)
      have wq2 : wrapF .i64 (blueN Y.hi (Y.q i) Y.nf + Y.hi fld) = blueN Y.hi (Y.q i) Y.nf + Y.hi fld := wrap_in (by omega) (by omega)
      have ebt := between_c (n := n) (h := g7) (by omega) (by omega) (blueN Y.lo (Y.q i) Y.nf + Y.lo fld) (blueN Y.hi (Y.q i) Y.nf + Y.hi fld)
      have hqq : (bumped Y i fld).q i = fun k => if k = fld then Y.q i k + 1 else Y.q i k := by funext k; show (if i = i then _ else _) = _; rw [if_pos rfl]
      rw [hqq, blueN_bump, blueN_bump, if_pos hof, if_pos hof] at a27
      simp only [rn0, rn1, rn2, rn3, rn4, rn5, rn6, rn7, rn8, if_true, if_false, Nat.le_refl, true_and, and_true, decide_true, decide_false, Bool.not_true, Bool.not_false, reduceIte, Nat.reduceEqDiff, Nat.reduceAdd, Nat.reduceMul, Nat.reduceSub, Nat.reduceLeDiff, Nat.reduceLT, p3, p7, p8, p12, p14, p16]
      refine W_draw All ?_
      simp only [rn0, rn1, rn2, rn3, rn4, rn5, rn6, rn7, rn8, if_true, if_false, Nat.le_refl, true_and, and_true, decide_true, decide_false, Bool.not_true, Bool.not_false, reduceIte, Nat.reduceEqDiff, Nat.reduceAdd, Nat.reduceMul, Nat.reduceSub, Nat.reduceLeDiff, Nat.reduceLT, p3, p7, p8, p12, p14, p16, Cells.idx A17 hi, Cells.fld A17 hi, q1, q2, r7.ld, Nat.zero_add, List.getElem?_cons_zero, List.getElem?_cons_succ, Cells.idx hyF hof, Cells.fld hyF hof, q3, q4, wq1, wq2, ebt]
      refine up_store (b := g.next) (off := 0) (vs := [.int .i64 (blueN Y.lo (Y.q i) Y.nf + Y.lo fld), .int .i64 (blueN Y.hi (Y.q i) Y.nf + Y.hi fld)]) rfl hx7.get (by omega) (by omega) rfl rfl rfl (by simp) (fun _ _ => trivial) fun g8 hs8' => ?_
      rw [splice2] at hs8'
      have n8' := hs8'.next
      have f8' := hs8'.floor
      have w8 := hs8'.row.whole (n := 2) rfl
      have sg8 : Sub All g6 g8 := fun j cs w gr t hg => by
        have hlt := AHeap.lt_of_get (sg _ _ _ _ t hg)
        rw [hs8'.old j (by omega)]; exact hx7.sub _ _ _ _ t (sg _ _ _ _ t hg)
      have A28 : Ranges g8 l2 Y.nv _ _ := Cells.mono hl2' sg8
      have a28 := ranges_ld A28 hi
      have he8 := fun (a0 a1 : Int) (f : Fr) (e1 : f 163 = .agg ⟨[.int .i64 a0, .int .i64 a1]⟩) (e2 : f 164 = .agg ⟨[.int .i64 a0, .int .i64 a1]⟩) => neq49 (h := g8) (N := 167) (f := f) (x := T 163) (y := T 164) (ty := 4) (u := 49) (by rw [valN_tmp (by omega)]; exact e1) (by rw [valN_tmp (by omega)]; exact e2)
      rw [lo2, hi2, hqq, blueN_bump, blueN_bump, if_pos hof, if_pos hof] at a28
      simp only [rn0, rn1, rn2, rn3, rn4, rn5, rn6, rn7, rn8, if_true, if_false, Nat.le_refl, true_and, and_true, decide_true, decide_false, Bool.not_true, Bool.not_false, reduceIte, Nat.reduceEqDiff, Nat.reduceAdd, Nat.reduceMul, Nat.reduceSub, Nat.reduceLeDiff, Nat.reduceLT, p3, p7, p8, p12, p14, p16]
      refine W_draw All ?_
      simp only [rn0, rn1, rn2, rn3, rn4, rn5, rn6, rn7, rn8, if_true, if_false, Nat.le_refl, true_and, and_true, decide_true, decide_false, Bool.not_true, Bool.not_false, reduceIte, Nat.reduceEqDiff, Nat.reduceAdd, Nat.reduceMul, Nat.reduceSub, Nat.reduceLeDiff, Nat.reduceLT, p3, p7, p8, p12, p14, p16, Cells.idx A28 hi, a28, w8, x_binA, binA_neqAgg]
      rw [he8 (blueN Y.lo (Y.q i) Y.nf + Y.lo fld) (blueN Y.hi (Y.q i) Y.nf + Y.hi fld) _ (by simp only [rn0, rn1, rn2, rn3, rn4, rn5, rn6, rn7, rn8, if_true, if_false, Nat.le_refl, true_and, and_true, decide_true, decide_false, Bool.not_true, Bool.not_false, reduceIte, Nat.reduceEqDiff, Nat.reduceAdd, Nat.reduceMul, Nat.reduceSub, Nat.reduceLeDiff, Nat.reduceLT, p3, p7, p8, p12, p14, p16]) (by simp only [rn0, rn1, rn2, rn3, rn4, rn5, rn6, rn7, rn8, if_true, if_false, Nat.le_refl, true_and, and_true, decide_true, decide_false, Bool.not_true, Bool.not_false, reduceIte, Nat.reduceEqDiff, Nat.reduceAdd, Nat.reduceMul, Nat.reduceSub, Nat.reduceLeDiff, Nat.reduceLT, p3, p7, p8, p12, p14, p16])]
      simp only [rn0, rn1, rn2, rn3, rn4, rn5, rn6, rn7, rn8, if_true, if_false, Nat.le_refl, true_and, and_true, decide_true, decide_false, Bool.not_true, Bool.not_false, reduceIte, Nat.reduceEqDiff, Nat.reduceAdd, Nat.reduceMul, Nat.reduceSub, Nat.reduceLeDiff, Nat.reduceLT, p3, p7, p8, p12, p14, p16, hwi]
      exact ⟨sg8, by omega, by omega, by omega⟩
    · have hio' : ¬ (i : Int) = (one : Int) := by omega
      have hqq : (bumped Y one fld).q i = Y.q i := by funext k; show (if i = one then _ else _) = _; rw [if_neg hio]
      rw [hqq] at a27
      simp only [rn0, rn1, rn2, rn3, rn4, rn5, rn6, rn7, rn8, if_true, if_false, Nat.le_refl, true_and, and_true, decide_true, decide_false, Bool.not_true, Bool.not_false, reduceIte, Nat.reduceEqDiff, Nat.reduceAdd, Nat.reduceMul, Nat.reduceSub, Nat.reduceLeDiff, Nat.reduceLT, p3, p7, p8, p12, p14, p16, hio']
      refine W_draw All ?_
      simp only [rn0, rn1, rn2, rn3, rn4, rn5, rn6, rn7, rn8, if_true, if_false, Nat.le_refl, true_and, and_true, decide_true, decide_false, Bool.not_true, Bool.not_false, reduceIte, Nat.reduceEqDiff, Nat.reduceAdd, Nat.reduceMul, Nat.reduceSub, Nat.reduceLeDiff, Nat.reduceLT, p3, p7, p8, p12, p14, p16, Cells.idx A27 hi, a27, w7, x_binA, binA_neqAgg]
      rw [he7 (blueN Y.lo (Y.q i) Y.nf) (blueN Y.hi (Y.q i) Y.nf) _ (by simp only [rn0, rn1, rn2, rn3, rn4, rn5, rn6, rn7, rn8, if_true, if_false, Nat.le_refl, true_and, and_true, decide_true, decide_false, Bool.not_true, Bool.not_false, reduceIte, Nat.reduceEqDiff, Nat.reduceAdd, Nat.reduceMul, Nat.reduceSub, Nat.reduceLeDiff, Nat.reduceLT, p3, p7, p8, p12, p14, p16]) (by simp only [rn0, rn1, rn2, rn3, rn4, rn5, rn6, rn7, rn8, if_true, if_false, Nat.le_refl, true_and, and_true, decide_true, decide_false, Bool.not_true, Bool.not_false, reduceIte, Nat.reduceEqDiff, Nat.reduceAdd, Nat.reduceMul, Nat.reduceSub, Nat.reduceLeDiff, Nat.reduceLT, p3, p7, p8, p12, p14, p16])]
      simp only [rn0, rn1, rn2, rn3, rn4, rn5, rn6, rn7, rn8, if_true, if_false, Nat.le_refl, true_and, and_true, decide_true, decide_false, Bool.not_true, Bool.not_false, reduceIte, Nat.reduceEqDiff, Nat.reduceAdd, Nat.reduceMul, Nat.reduceSub, Nat.reduceLeDiff, Nat.reduceLT, p3, p7, p8, p12, p14, p16, hwi]
      exact ⟨sg.trans hx7.sub, by omega, by omega, by omega⟩
  · rintro f g ms ⟨⟨sg, fg, ug, bg⟩, rfl, p3, p7, p8, p12, p14, p16⟩
    simp only [rn0, rn1, rn2, rn3, rn4, rn5, rn6, rn7, rn8, if_true, if_false, Nat.le_refl, true_and, and_true, decide_true, decide_false, Bool.not_true, Bool.not_false, reduceIte, Nat.reduceEqDiff, Nat.reduceAdd, Nat.reduceMul, Nat.reduceSub, Nat.reduceLeDiff, Nat.reduceLT, p3, p7, p8, p12, p14, p16, Cells.len hl1', Int.lt_irrefl, haw]
end Go.Vm.Vat

namespace Go.Vm.Vat
open Go.Proofs
set_option linter.unusedSimpArgs false
set_option linter.unusedVariables false
set_option maxRecDepth 10000
variable {n : Nat} {h : AHeap}
theorem bundle_c (hn : 10200 ≤ n) (hr : h.next + 9000000 < far) (hfl : h.floor ≤ h.next) {fv vv sv : Value} {Y : MY} (hy : YardR h fv vv sv Y) (a1 : Int) (wf1 : (Lit.int .u8 a1).wf = true) (a2 : Int) (wf2 : (Lit.int .u8 a2).wf = true) :
    ∃ v h', call n (.func (.func 16) #[] #[]) [.agg ⟨[fv, vv, sv]⟩, .int .u8 a1, .int .u8 a2] h = some (v, h') ∧ v = .bool true := by
  obtain ⟨k1, rfl, h1⟩ := wf8 wf1
  obtain ⟨k2, rfl, h2⟩ := wf8 wf2
  by_cases hg : (Thin Y ∧ faultN Y = 0) ∧ 0 < Y.nf ∧ 0 < Y.nv
  · obtain ⟨⟨g1, g2⟩, g3, g4⟩ := hg
    exact bundle_m (by omega) hr hfl hy g1 g2 g3 g4 h1 h2
  obtain ⟨n, rfl⟩ : ∃ p, n = p + 1 := ⟨n - 1, by omega⟩
  refine call_any0 fok16 rfl rfl (by simp) ?_
  simp only [s16, W_seq, W_ops]
  refine ops_box (cs := [fv, vv, sv]) (by omega) rfl hy.one fun g1 hx1 => ?_
  have n1 := hx1.next
  have hy1 := hy.mono hx1.sub
  have x1 := hx1.row.whole (n := 3) rfl
  have r1 := hx1.row
  have hrd := ready_c (n := n) (h := g1) (by omega) (by omega) hy1
  have haw := awake_c (n := n) (h := g1) (by omega)
  by_cases c1 : Thin Y ∧ faultN Y = 0
  case neg =>
    rw [decide_eq_false c1] at hrd
    simp only [rn0, rn1, rn2, rn3, rn4, rn5, rn6, rn7, rn8, if_true, if_false, Nat.le_refl, true_and, and_true, decide_true, decide_false, Bool.not_true, Bool.not_false, reduceIte, Nat.reduceEqDiff, Nat.reduceAdd, Nat.reduceMul, Nat.reduceSub, Nat.reduceLeDiff, Nat.reduceLT, x1, hrd, haw]
  rw [decide_eq_true c1] at hrd
  obtain ⟨rr, hrw, hq⟩ := hy1.v
  by_cases c2 : (Y.nf : Int) = 0
  · simp only [rn0, rn1, rn2, rn3, rn4, rn5, rn6, rn7, rn8, if_true, if_false, Nat.le_refl, true_and, and_true, decide_true, decide_false, Bool.not_true, Bool.not_false, reduceIte, Nat.reduceEqDiff, Nat.reduceAdd, Nat.reduceMul, Nat.reduceSub, Nat.reduceLeDiff, Nat.reduceLT, x1, hrd, r1.ld, Nat.zero_add, List.getElem?_cons_zero, List.getElem?_cons_succ, Cells.len hy1.f, Cells.len hrw, c2, haw]
  have c3 : (Y.nv : Int) = 0 := by
    apply Classical.byContradiction
    intro hn
    exact hg ⟨c1, by omega, by omega⟩
  simp only [rn0, rn1, rn2, rn3, rn4, rn5, rn6, rn7, rn8, if_true, if_false, Nat.le_refl, true_and, and_true, decide_true, decide_false, Bool.not_true, Bool.not_false, reduceIte, Nat.reduceEqDiff, Nat.reduceAdd, Nat.reduceMul, Nat.reduceSub, Nat.reduceLeDiff, Nat.reduceLT, x1, hrd, r1.ld, Nat.zero_add, List.getElem?_cons_zero, List.getElem?_cons_succ, Cells.len hy1.f, Cells.len hrw, c2, c3, haw]
end Go.Vm.Vat
