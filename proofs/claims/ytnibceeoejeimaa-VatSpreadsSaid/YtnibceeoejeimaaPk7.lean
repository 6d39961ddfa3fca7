/- Texts of the proofs of this seat, put together: VatSpread, VatMore, VatSpread2, VatSpread3, VatBefore, VatLeave, VatSome, VatFirstL, VatShort, VatSpPure, VatSpPut, VatNeeds2, VatNeeds3, VatNeeded, VatNoBetter, VatCloser, VatLeftA, VatWiderP, VatSpRef. -/
import Derived.Test.YtnibceeoejeimaaPk6
import Derived.Laws.Entries

namespace Go.Vm.Vat
open Go.Proofs
set_option linter.unusedSimpArgs false
set_option linter.unusedVariables false
set_option maxRecDepth 10000
variable {n : Nat} {h : AHeap}
/-! ### The best spread -/
/-- the least blue of a spread, of what each vat surely has with so many bundles -/
def lowS (S : Nat → Nat → Int) (nv : Nat) (c : Nat → Int) : Int := minN (S 0 (c 0).toNat) (fun v => S v (c v).toNat) nv
noncomputable def spStep (S : Nat → Nat → Int) (nv : Nat) (s : (Nat → Int) × Int) (c : Nat → Int) : ((Nat → Int) × Int) × Bool := (if s.2 < lowS S nv c then (c, lowS S nv c) else s, true)
noncomputable def spRun (S : Nat → Nat → Int) (nv many : Nat) : (Nat → Int) × Int := (runL (spStep S nv) ((fun _ => 0), -1) (enumS (nv - 1) 0 many fun _ => 0)).1
/-- the table of what each vat surely has, as far as it is filled -/
def sureL (S : Nat → Nat → Int) (m v k : Nat) : List Value := (List.range 40).map fun i => .int .i64 (if (i / 10 < v ∧ i % 10 < m) ∨ (i / 10 = v ∧ i % 10 < k) then S (i / 10) (i % 10) else 0)
theorem sureL_len {S : Nat → Nat → Int} {m v k : Nat} : (sureL S m v k).length = 40 := by simp [sureL]
theorem sureL_one {S : Nat → Nat → Int} {m v k : Nat} : allB oneCell (sureL S m v k) = true := by rw [allB_iff]; intro v hv; obtain ⟨i, _, rfl⟩ := List.mem_map.1 hv; rfl
theorem sureL_next {S : Nat → Nat → Int} {m v : Nat} : sureL S m v m = sureL S m (v + 1) 0 := by
  unfold sureL
  congr 1
  funext i
  congr 1
  by_cases c : i / 10 < v + 1 ∧ i % 10 < m
  · rw [if_pos (by omega), if_pos (.inl c)]
  · rw [if_neg (by omega), if_neg (by omega)]
theorem sureL_zero {S : Nat → Nat → Int} {m : Nat} : sureL S m 0 0 = (List.range 40).map fun _ => .int .i64 0 := by
  unfold sureL
  congr 1
  funext i
  rw [if_neg (by omega)]
theorem sureL_splice {S : Nat → Nat → Int} {m v k : Nat} (hv : v < 4) (hk : k < 10) : splice (sureL S m v k) (v * 10 + k) [.int .i64 (S v k)] = sureL S m v (k + 1) := by
  refine map_splice (by simp; omega) (fun i hi hc => ?_) (fun j hj => ?_)
  · simp only [List.length_cons, List.length_nil] at hc
    congr 1
    by_cases c : (i / 10 < v ∧ i % 10 < m) ∨ (i / 10 = v ∧ i % 10 < k)
    · rw [if_pos c, if_pos (by omega)]
    · rw [if_neg c, if_neg (by omega)]
  · simp only [List.length_cons, List.length_nil] at hj
    obtain rfl : j = 0 := by omega
    simp only [Nat.add_zero, List.getElem?_cons_zero]
    rw [if_pos (by omega), show (v * 10 + k) / 10 = v by omega, show (v * 10 + k) % 10 = k by omega]
theorem sureL_get {S : Nat → Nat → Int} {m v j k : Nat} (hv : j < v) (h4 : j < 4) (hk : k < m) (h10 : k < 10) : (sureL S m v 0)[j * 10 + k]? = some (.int .i64 (S j k)) := by
  unfold sureL
  rw [List.getElem?_map, List.getElem?_range (by omega), Option.map_some, if_pos (by omega), show (j * 10 + k) / 10 = j by omega, show (j * 10 + k) % 10 = k by omega]
theorem idxArr_s {l s k b o : Nat} (hk : k < l) : indexArr l s (.pointer (some ⟨b, o, none⟩)) (.int .i64 (k : Int)) = some (.pointer (some ⟨b, o + k * s, none⟩)) := by
  show placeAt ⟨b, o, none⟩ (Int.ofNat k) l s = _
  unfold placeAt
  simp only [blt_iff.2 hk, cond_true]
theorem enumS_len : ∀ (d i r : Nat) (c : Nat → Int), (enumS d i r c).length ≤ (r + 1) ^ d
  | 0, _, _, _ => by simp [enumS]
  | d + 1, i, r, c => by
    simp only [enumS]
    have : ∀ k, k ≤ r + 1 → ((List.range k).flatMap fun (k : Nat) => enumS d (i + 1) (r - k) fun j => if j = i then (k : Int) else c j).length ≤ k * (r + 1) ^ d := by
      intro k
      induction k with
      | zero => intro _; simp
      | succ k ih =>
        intro hk
        rw [List.range_succ, List.flatMap_append, List.length_append, Nat.succ_mul]
        have h1 := ih (by omega)
        have h2 := enumS_len d (i + 1) (r - k) fun j => if j = i then (k : Int) else c j
        have h3 : (r - k + 1) ^ d ≤ (r + 1) ^ d := Nat.pow_le_pow_left (by omega) d
        simp only [List.flatMap_cons, List.flatMap_nil, List.append_nil]
        omega
    have := this (r + 1) (Nat.le_refl _)
    rw [Nat.pow_succ, Nat.mul_comm]
    exact this
def s120 : SCode := (.seq (.ops [⟨(some 2), none, .box (T 0)⟩, ⟨(some 3), none, .box (T 1)⟩, ⟨(some 4), none, .mov (.const .nilFunc)⟩]) (.seq (.ops [⟨(some 5), none, .mkfunc 127 [] [(T 2), (T 3)]⟩, ⟨(some 4), none, .mov (T 5)⟩]) .ret))
theorem fok120 : FnOk Try.prog 120 6 s120 [.tmp 4] := ⟨Try.f120, _, Try.func120, rfl, Try.ntmps120, by kernel_rfl, by kernel_rfl⟩
theorem allSpreads_c (hn : 1 ≤ n) (hr : h.next + 2 < far) (nv many : Int) :
    ∃ h', call n (.func (.func 120) #[] #[]) [.int .i64 nv, .int .i64 many] h = some (.func (.func 127) ⟨[]⟩ ⟨[.pointer (some ⟨h.next, 0, none⟩), .pointer (some ⟨h.next + 1, 0, none⟩)]⟩, h') ∧ Old h h' 2 ∧ Row h' h.next [.int .i64 nv] ∧ Row h' (h.next + 1) [.int .i64 many] := by
  obtain ⟨n, rfl⟩ : ∃ p, n = p + 1 := ⟨n - 1, by omega⟩
  suffices hs : ∃ v h', call (n + 1) (.func (.func 120) #[] #[]) [.int .i64 nv, .int .i64 many] h = some (v, h') ∧ v = .func (.func 127) ⟨[]⟩ ⟨[.pointer (some ⟨h.next, 0, none⟩), .pointer (some ⟨h.next + 1, 0, none⟩)]⟩ ∧ Old h h' 2 ∧ Row h' h.next [.int .i64 nv] ∧ Row h' (h.next + 1) [.int .i64 many] by
    obtain ⟨v, h', e, rfl, hx⟩ := hs
    exact ⟨h', e, hx⟩
  refine call_any0 fok120 rfl rfl (by simp) ?_
  simp only [s120, W_seq, W_ops]
  refine ops_box (cs := [.int .i64 nv]) (by omega) rfl rfl fun g1 hx1 => ?_
  have n1 := hx1.next
  have f1 := hx1.floor
  refine ops_box (cs := [.int .i64 many]) (by omega) rfl rfl fun g2 hx2 => ?_
  have n2 := hx2.next
  have f2 := hx2.floor
  have e1 : g1.next = h.next + 1 := n1
  simp only [rn0, rn1, rn2, rn3, rn4, rn5, rn6, rn7, rn8, if_true, if_false, Nat.le_refl, true_and, and_true, decide_true, decide_false, Bool.not_true, Bool.not_false, reduceIte, Nat.reduceEqDiff, Nat.reduceAdd, Nat.reduceMul, Nat.reduceSub, Nat.reduceLeDiff, Nat.reduceLT, e1]
  have := hx2.row
  rw [e1] at this
  exact ⟨⟨fun i hi => by rw [hx2.old i (by omega), hx1.old i hi], by omega, by omega⟩, hx1.row.mono hx2.sub, this⟩
theorem res_41 {a b : Nat} {f : Fr} {x y : Value} (h1 : loadAgg 4 h (f a) = some x) (h2 : loadCell h (f b) = some y) : resV f h [.cellN a 4, .cell1 b] = some (.tuple ⟨[x, y]⟩) := by
  simp [resV, resL, res1, h1, h2]
/-- what lies in memory while the spreads are gone through -/
structure JS (h2 : AHeap) (p : Nat) (s : (Nat → Int) × Int) (g : AHeap) : Prop where
  old : ∀ i, i < h2.next → i ≠ p + 1 → i ≠ p + 2 → g.get i = h2.get i
  bst : g.get (p + 1) = some (.row (arr4 s.1) true 0)
  lst : g.get (p + 2) = some (.row [.int .i64 s.2] true 0)
  up : h2.next + 3 ≤ g.next
noncomputable def s101 : SCode := (.seq (.ops [⟨(some 3), none, .box (T 0)⟩, ⟨(some 6), none, .alloc [(.int .i64 (0)), (.int .i64 (0)), (.int .i64 (0)), (.int .i64 (0))]⟩, ⟨(some 7), none, .alloc [(.int .i64 (0))]⟩]) (.seq (.ops [⟨(some 8), none, .alloc [(.int .i64 (0)), (.int .i64 (0)), (.int .i64 (0)), (.int .i64 (0)), (.int .i64 (0)), (.int .i64 (0)), (.int .i64 (0)), (.int .i64 (0)), (.int .i64 (0)), (.int .i64 (0)), (.int .i64 (0)), (.int .i64 (0)), (.int .i64 (0)), (.int .i64 (0)), (.int .i64 (0)), (.int .i64 (0)), (.int .i64 (0)), (.int .i64 (0)), (.int .i64 (0)), (.int .i64 (0)), (.int .i64 (0)), (.int .i64 (0)), (.int .i64 (0)), (.int .i64 (0)), (.int .i64 (0)), (.int .i64 (0)), (.int .i64 (0)), (.int .i64 (0)), (.int .i64 (0)), (.int .i64 (0)), (.int .i64 (0)), (.int .i64 (0)), (.int .i64 (0)), (.int .i64 (0)), (.int .i64 (0)), (.int .i64 (0)), (.int .i64 (0)), (.int .i64 (0)), (.int .i64 (0)), (.int .i64 (0))]⟩]) (.seq (.seq (.ops [⟨(some 14), none, .fieldAddr 0 (T 3)⟩, ⟨(some 15), none, .fieldAddr 1 (T 14)⟩, ⟨(some 16), none, .load1 (T 15)⟩, ⟨(some 17), none, .len (T 16)⟩, ⟨(some 18), none, .mov (.const (.int .i64 (0)))⟩]) (.block 0 (.loop (.seq (.ops [⟨(some 19), none, .int2 .lss (T 18) (T 17)⟩]) (.seq (.cond (T 19) .skip (.exit 0)) (.seq (.block 1 (.seq (.ops [⟨(some 20), none, .mov (T 18)⟩, ⟨(some 9), none, .mov (T 20)⟩]) (.seq (.ops [⟨(some 21), none, .mov (T 2)⟩, ⟨(some 22), none, .int2 .add (T 21) (.const (.int .i64 (1)))⟩, ⟨(some 23), none, .mov (.const (.int .i64 (0)))⟩]) (.block 2 (.loop (.seq (.ops [⟨(some 24), none, .int2 .lss (T 23) (T 22)⟩]) (.seq (.cond (T 24) .skip (.exit 2)) (.seq (.block 3 (.seq (.ops [⟨(some 25), none, .mov (T 23)⟩, ⟨(some 10), none, .mov (T 25)⟩]) (.draw [⟨.free, ⟨(some 26), none, .mov (T 9)⟩⟩, ⟨.free, ⟨(some 27), none, .mov (T 10)⟩⟩, ⟨.rd1, ⟨(some 28), none, .loadN 4 (T 3)⟩⟩, ⟨.free, ⟨(some 29), none, .mov (T 9)⟩⟩, ⟨.free, ⟨(some 30), none, .mov (T 1)⟩⟩, ⟨.free, ⟨(some 31), none, .mov (T 10)⟩⟩, ⟨.any, ⟨(some 32), none, .call (.func 99) [(T 28), (T 29), (T 30), (T 31)]⟩⟩, ⟨.free, ⟨(some 33), none, .idxArr 4 10 (T 8) (T 26)⟩⟩, ⟨.free, ⟨(some 34), none, .idxArr 10 1 (T 33) (T 27)⟩⟩, ⟨.any, ⟨none, none, .store 1 (T 34) (T 32)⟩⟩]))) (.ops [⟨(some 35), none, .int2 .add (T 23) (.const (.int .i64 (1)))⟩, ⟨(some 23), none, .mov (T 35)⟩]))))))))) (.ops [⟨(some 36), none, .int2 .add (T 18) (.const (.int .i64 (1)))⟩, ⟨(some 18), none, .mov (T 36)⟩]))))))) (.seq (.ops [⟨none, none, .store 1 (T 7) (.const (.int .i64 (-1)))⟩]) (.seq (.seq (.ops [⟨(some 37), none, .fieldAddr 0 (T 3)⟩, ⟨(some 38), none, .fieldAddr 1 (T 37)⟩, ⟨(some 39), none, .load1 (T 38)⟩, ⟨(some 40), none, .len (T 39)⟩, ⟨(some 41), none, .mov (T 2)⟩, ⟨(some 42), none, .call (.func 120) [(T 40), (T 41)]⟩]) (.block 4 (.range (T 42) #[43] (rangeOf Try.f101 0).1 (rangeOf Try.f101 0).2))) (.seq (.draw [⟨.rd1, ⟨(some 72), none, .loadN 4 (T 6)⟩⟩, ⟨.rd, ⟨(some 73), none, .load1 (T 7)⟩⟩, ⟨.up, ⟨none, none, .store 4 (T 6) (T 72)⟩⟩, ⟨.any, ⟨none, none, .store 1 (T 7) (T 73)⟩⟩]) .ret))))))
theorem fok101 : FnOk Try.prog 101 74 s101 [.cellN 6 4, .cell1 7] := ⟨Try.f101, _, Try.func101, rfl, Try.ntmps101, by kernel_rfl, by kernel_rfl⟩
def ra101_0 : SCode := (.ops [⟨(some 11), none, .alloc [(.int .i64 (0)), (.int .i64 (0)), (.int .i64 (0)), (.int .i64 (0))]⟩, ⟨none, none, .store 4 (T 11) (T 43)⟩])
theorem raok101_0 : compCode Try.prog 74 (rangeOf Try.f101 0).1 = some ra101_0 := by kernel_rfl
def rb101_0 : SCode := (.block 5 (.seq (.ops [⟨(some 44), none, .idxArr 4 1 (T 11) (.const (.int .i64 (0)))⟩, ⟨(some 45), none, .load1 (T 44)⟩, ⟨(some 46), none, .idxArr 4 10 (T 8) (.const (.int .i64 (0)))⟩, ⟨(some 47), none, .idxArr 10 1 (T 46) (T 45)⟩, ⟨(some 48), none, .load1 (T 47)⟩, ⟨(some 12), none, .mov (T 48)⟩]) (.seq (.seq (.ops [⟨(some 49), none, .fieldAddr 0 (T 3)⟩, ⟨(some 50), none, .fieldAddr 1 (T 49)⟩, ⟨(some 51), none, .load1 (T 50)⟩, ⟨(some 52), none, .len (T 51)⟩, ⟨(some 53), none, .mov (.const (.int .i64 (0)))⟩]) (.block 6 (.loop (.seq (.ops [⟨(some 54), none, .int2 .lss (T 53) (T 52)⟩]) (.seq (.cond (T 54) .skip (.exit 6)) (.seq (.block 7 (.seq (.ops [⟨(some 55), none, .mov (T 53)⟩, ⟨(some 13), none, .mov (T 55)⟩]) (.draw [⟨.free, ⟨(some 56), none, .mov (T 12)⟩⟩, ⟨.free, ⟨(some 57), none, .mov (T 13)⟩⟩, ⟨.free, ⟨(some 58), none, .mov (T 13)⟩⟩, ⟨.free, ⟨(some 59), none, .idxArr 4 1 (T 11) (T 58)⟩⟩, ⟨.rd1, ⟨(some 60), none, .load1 (T 59)⟩⟩, ⟨.free, ⟨(some 61), none, .idxArr 4 10 (T 8) (T 57)⟩⟩, ⟨.free, ⟨(some 62), none, .idxArr 10 1 (T 61) (T 60)⟩⟩, ⟨.rd1, ⟨(some 63), none, .load1 (T 62)⟩⟩, ⟨.any, ⟨(some 64), none, .bslice 1 1 [(.int .i64 (0))] [0] [(T 63)]⟩⟩, ⟨.any, ⟨(some 65), none, .call (.func 94) [(T 56), (T 64)]⟩⟩, ⟨.free, ⟨(some 12), none, .mov (T 65)⟩⟩]))) (.ops [⟨(some 66), none, .int2 .add (T 53) (.const (.int .i64 (1)))⟩, ⟨(some 53), none, .mov (T 66)⟩]))))))) (.seq (.ops [⟨(some 67), none, .mov (T 12)⟩, ⟨(some 68), none, .load1 (T 7)⟩, ⟨(some 69), none, .int2 .gtr (T 67) (T 68)⟩]) (.cond (T 69) (.ops [⟨(some 70), none, .loadN 4 (T 11)⟩, ⟨(some 71), none, .mov (T 12)⟩, ⟨none, none, .store 4 (T 6) (T 70)⟩, ⟨none, none, .store 1 (T 7) (T 71)⟩]) .skip)))))
theorem rbok101_0 : compCode Try.prog 74 (rangeOf Try.f101 0).2 = some rb101_0 := by kernel_rfl
theorem bestSpread_c (hn : 10060 ≤ n) (hr : h.next + 200000 < far) (hfl : h.floor ≤ h.next) {F V S tv : Value} {Y : MY} {f many : Nat} (hy : YardR h F V S Y) (hf0 : faultN Y = 0) (hL : truths Y ≠ []) (htr : TruthsR h tv (truths Y)) (hlong : Long tv) (hv0 : 0 < Y.nv) (hf : f < Y.nf) (hm : many ≤ 9) :
    ∃ v h', call n (.func (.func 101) #[] #[]) [.agg ⟨[F, V, S, tv]⟩, .int .i64 (f : Int), .int .i64 (many : Int)] h = some (v, h') ∧ v = .tuple ⟨[.agg ⟨arr4 (spRun (fun v k => sureN Y v f k (truths Y)) Y.nv many).1⟩, .int .i64 (spRun (fun v k => sureN Y v f k (truths Y)) Y.nv many).2]⟩ ∧ Made h h' 120000 := by
  obtain ⟨n, rfl⟩ : ∃ p, n = p + 1 := ⟨n - 1, by omega⟩
  generalize hSS : (fun v k => sureN Y v f k (truths Y)) = SS
  have hS : ∀ v k, SS v k = sureN Y v f k (truths Y) := fun v k => by rw [← hSS]
  clear hSS
  have hG := good_of hf0
  obtain ⟨z1, z2, z3⟩ := hG.sz
  have ho4 : allB oneCell [F, V, S, tv] = true := by have h1 := hy.one; have h2 := Cells.one htr; simp [allB] at h1 ⊢; simp [h1, h2]
  refine call_any0 fok101 rfl rfl (by simp) ?_
  simp only [s101, W_seq, W_ops]
  refine ops_box (cs := [F, V, S, tv]) (by omega) rfl ho4 fun g1 hx1 => ?_
  have n1 := hx1.next
  have f1 := hx1.floor
  have e1 : g1.next = h.next + 1 := n1
  simp only [rn0, rn1, rn2, rn3, rn4, rn5, rn6, rn7, rn8, if_true, if_false, Nat.le_refl, true_and, and_true, decide_true, decide_false, Bool.not_true, Bool.not_false, reduceIte, Nat.reduceEqDiff, Nat.reduceAdd, Nat.reduceMul, Nat.reduceSub, Nat.reduceLeDiff, Nat.reduceLT]
  refine step_row (cs := arr4 fun _ => 0) (by omega) rfl arr4_one fun g2 hx2 => ?_
  have n2 := hx2.next
  have f2 := hx2.floor
  have e2 : g2.next = h.next + 2 := by omega
  simp only [rn0, rn1, rn2, rn3, rn4, rn5, rn6, rn7, rn8, if_true, if_false, Nat.le_refl, true_and, and_true, decide_true, decide_false, Bool.not_true, Bool.not_false, reduceIte, Nat.reduceEqDiff, Nat.reduceAdd, Nat.reduceMul, Nat.reduceSub, Nat.reduceLeDiff, Nat.reduceLT]
  refine step_row (cs := [.int .i64 0]) (by omega) rfl rfl fun g3 hx3 => ?_
  have n3 := hx3.next
  have f3 := hx3.floor
  have e3 : g3.next = h.next + 3 := by omega
  simp only [rn0, rn1, rn2, rn3, rn4, rn5, rn6, rn7, rn8, if_true, if_false, Nat.le_refl, true_and, and_true, decide_true, decide_false, Bool.not_true, Bool.not_false, reduceIte, Nat.reduceEqDiff, Nat.reduceAdd, Nat.reduceMul, Nat.reduceSub, Nat.reduceLeDiff, Nat.reduceLT]
  refine step_row (cs := sureL SS (many + 1) 0 0) (by omega) (by rw [sureL_zero]; rfl) sureL_one fun g4 hx4 => ?_
  have n4 := hx4.next
  have f4 := hx4.floor
  have e4 : g4.next = h.next + 4 := by omega
  rw [e1, e2, e3]
  have s4 : Sub All h g4 := hx1.sub.trans (hx2.sub.trans (hx3.sub.trans hx4.sub))
  have r1 : Row g4 h.next [F, V, S, tv] := ((hx1.row.mono hx2.sub).mono hx3.sub).mono hx4.sub
  have k1 : g4.get (h.next + 1) = some (.row (arr4 fun _ => 0) true 0) := by rw [hx4.old _ (by omega), hx3.old _ (by omega)]; have := hx2.get; rw [e1] at this; exact this
  have k2 : g4.get (h.next + 2) = some (.row [.int .i64 0] true 0) := by rw [hx4.old _ (by omega)]; have := hx3.get; rw [e2] at this; exact this
  have k3 : g4.get (h.next + 3) = some (.row (sureL SS (many + 1) 0 0) true 0) := by have := hx4.get; rw [e3] at this; exact this
  have hy4 := hy.mono s4
  obtain ⟨rr, hrw, hq⟩ := hy4.v
  have hwm : wrapF .i64 ((many : Int) + 1) = ((many + 1 : Nat) : Int) := by rw [wrap_in (by omega) (by omega)]; rfl
  -- what holds while the table is filled
  have kin : ∀ {g : AHeap}, Keep (h.next + 3) g4 g → Sub All h g := fun hk i cs w gr t hg => hk.sub _ _ _ _ (by have := AHeap.lt_of_get hg; omega) (s4 _ _ _ _ t hg)
  have r1k : ∀ {g : AHeap}, Keep (h.next + 3) g4 g → Row g h.next [F, V, S, tv] := fun hk => r1.keep hk (by omega)
  simp only [rn0, rn1, rn2, rn3, rn4, rn5, rn6, rn7, rn8, if_true, if_false, Nat.le_refl, true_and, and_true, decide_true, decide_false, Bool.not_true, Bool.not_false, reduceIte, Nat.reduceEqDiff, Nat.reduceAdd, Nat.reduceMul, Nat.reduceSub, Nat.reduceLeDiff, Nat.reduceLT, r1.ld, Nat.zero_add, List.getElem?_cons_zero, List.getElem?_cons_succ, Cells.len hrw]
  refine W_loop Y.nv (fun v f' g ms => (Keep (h.next + 3) g4 g ∧ g.next = g4.next ∧ g.get (h.next + 3) = some (.row (sureL SS (many + 1) v 0) true 0)) ∧ ms = [] ∧ f' 1 = .int .i64 (f : Int) ∧ f' 2 = .int .i64 (many : Int) ∧ f' 3 = .pointer (some ⟨h.next, 0, none⟩) ∧ f' 6 = .pointer (some ⟨h.next + 1, 0, none⟩) ∧ f' 7 = .pointer (some ⟨h.next + 2, 0, none⟩) ∧ f' 8 = .pointer (some ⟨h.next + 3, 0, none⟩) ∧
    f' 17 = .int .i64 (Y.nv : Int) ∧ f' 18 = .int .i64 (v : Int)) (by simp; omega) ?_ ?_ ?_
  · simp only [rn0, rn1, rn2, rn3, rn4, rn5, rn6, rn7, rn8, if_true, if_false, Nat.le_refl, true_and, and_true, decide_true, decide_false, Bool.not_true, Bool.not_false, reduceIte, Nat.reduceEqDiff, Nat.reduceAdd, Nat.reduceMul, Nat.reduceSub, Nat.reduceLeDiff, Nat.reduceLT]
    exact ⟨⟨Keep.refl, k3⟩, rfl⟩
  · rintro v f' g ms hv ⟨⟨kg, ng, gg⟩, rfl, p1, p2, p3, p6, p7, p8, p17, p18⟩
    have hv' : (v : Int) < (Y.nv : Int) := by omega
    have hwv : wrapF .i64 ((v : Int) + 1) = ((v + 1 : Nat) : Int) := by rw [wrap_in (by omega) (by omega)]; rfl
    simp only [rn0, rn1, rn2, rn3, rn4, rn5, rn6, rn7, rn8, if_true, if_false, Nat.le_refl, true_and, and_true, decide_true, decide_false, Bool.not_true, Bool.not_false, reduceIte, Nat.reduceEqDiff, Nat.reduceAdd, Nat.reduceMul, Nat.reduceSub, Nat.reduceLeDiff, Nat.reduceLT, p1, p2, p3, p6, p7, p8, p17, p18, hv', hwm]
    refine W_loop (many + 1) (fun k f' g ms => (Keep (h.next + 3) g4 g ∧ g.next = g4.next ∧ g.get (h.next + 3) = some (.row (sureL SS (many + 1) v k) true 0)) ∧ ms = [] ∧ f' 1 = .int .i64 (f : Int) ∧ f' 2 = .int .i64 (many : Int) ∧ f' 3 = .pointer (some ⟨h.next, 0, none⟩) ∧ f' 6 = .pointer (some ⟨h.next + 1, 0, none⟩) ∧ f' 7 = .pointer (some ⟨h.next + 2, 0, none⟩) ∧ f' 8 = .pointer (some ⟨h.next + 3, 0, none⟩) ∧
      f' 17 = .int .i64 (Y.nv : Int) ∧ f' 18 = .int .i64 (v : Int) ∧ f' 9 = .int .i64 (v : Int) ∧ f' 22 = .int .i64 ((many + 1 : Nat) : Int) ∧ f' 23 = .int .i64 (k : Int)) (by simp; omega) ?_ ?_ ?_
    · simp only [rn0, rn1, rn2, rn3, rn4, rn5, rn6, rn7, rn8, if_true, if_false, Nat.le_refl, true_and, and_true, decide_true, decide_false, Bool.not_true, Bool.not_false, reduceIte, Nat.reduceEqDiff, Nat.reduceAdd, Nat.reduceMul, Nat.reduceSub, Nat.reduceLeDiff, Nat.reduceLT, p1, p2, p3, p6, p7, p8, p17, p18]
      exact ⟨⟨kg, ng, gg⟩, rfl⟩
    · rintro k f' g ms hk ⟨⟨kg, ng, gg⟩, rfl, p1, p2, p3, p6, p7, p8, p17, p18, p9, p22, p23⟩
      have hk' : (k : Int) < ((many + 1 : Nat) : Int) := by omega
      have hwk : wrapF .i64 ((k : Int) + 1) = ((k + 1 : Nat) : Int) := by rw [wrap_in (by omega) (by omega)]; rfl
      have fg := kg.floor
      have es := sureBlue_c (n := n) (h := g) (v := v) (f := f) (many := k) (by omega) (by omega) (hy.mono (kin kg)) hf0 hL (Cells.mono htr (kin kg)) hlong (by omega) hf (by omega)
      rw [← hS] at es
      simp only [rn0, rn1, rn2, rn3, rn4, rn5, rn6, rn7, rn8, if_true, if_false, Nat.le_refl, true_and, and_true, decide_true, decide_false, Bool.not_true, Bool.not_false, reduceIte, Nat.reduceEqDiff, Nat.reduceAdd, Nat.reduceMul, Nat.reduceSub, Nat.reduceLeDiff, Nat.reduceLT, p1, p2, p3, p6, p7, p8, p17, p18, p9, p22, p23, hk']
      refine W_draw All ?_
      simp only [rn0, rn1, rn2, rn3, rn4, rn5, rn6, rn7, rn8, if_true, if_false, Nat.le_refl, true_and, and_true, decide_true, decide_false, Bool.not_true, Bool.not_false, reduceIte, Nat.reduceEqDiff, Nat.reduceAdd, Nat.reduceMul, Nat.reduceSub, Nat.reduceLeDiff, Nat.reduceLT, p1, p2, p3, p6, p7, p8, p17, p18, p9, p22, p23, (r1k kg).whole (n := 4) rfl, es, idxArr_s (l := 4) (s := 10) (k := v) (by omega), idxArr_s (l := 10) (s := 1) (k := k) (by omega)]
      refine up_store (b := h.next + 3) (off := v * 10 + k) (vs := [.int .i64 (SS v k)]) (by simp) gg (by omega) (by omega) rfl rfl rfl (by rw [sureL_len]; simp; omega) (fun _ _ => trivial) fun g5 hs5 => ?_
      rw [sureL_splice (by omega) (by omega)] at hs5
      have n5 := hs5.next
      have f5 := hs5.floor
      simp only [rn0, rn1, rn2, rn3, rn4, rn5, rn6, rn7, rn8, if_true, if_false, Nat.le_refl, true_and, and_true, decide_true, decide_false, Bool.not_true, Bool.not_false, reduceIte, Nat.reduceEqDiff, Nat.reduceAdd, Nat.reduceMul, Nat.reduceSub, Nat.reduceLeDiff, Nat.reduceLT, p1, p2, p3, p6, p7, p8, p17, p18, p9, p22, p23, hwk]
      exact ⟨kg.trans hs5.keep, by omega, hs5.get⟩
    · rintro f' g ms ⟨⟨kg, ng, gg⟩, rfl, p1, p2, p3, p6, p7, p8, p17, p18, p9, p22, p23⟩
      rw [sureL_next] at gg
      simp only [rn0, rn1, rn2, rn3, rn4, rn5, rn6, rn7, rn8, if_true, if_false, Nat.le_refl, true_and, and_true, decide_true, decide_false, Bool.not_true, Bool.not_false, reduceIte, Nat.reduceEqDiff, Nat.reduceAdd, Nat.reduceMul, Nat.reduceSub, Nat.reduceLeDiff, Nat.reduceLT, p1, p2, p3, p6, p7, p8, p17, p18, p9, p22, p23, Int.lt_irrefl, hwv]
      exact ⟨kg, ng, gg⟩
  rintro f' g5 ms ⟨⟨kg, ng, gg⟩, rfl, p1, p2, p3, p6, p7, p8, p17, p18⟩
  have fg := kg.floor
  have q1 : g5.get (h.next + 1) = some (.row (arr4 fun _ => 0) true 0) := kg.sub _ _ _ _ (by omega) k1
  have q2 : g5.get (h.next + 2) = some (.row [.int .i64 0] true 0) := kg.sub _ _ _ _ (by omega) k2
  simp only [rn0, rn1, rn2, rn3, rn4, rn5, rn6, rn7, rn8, if_true, if_false, Nat.le_refl, true_and, and_true, decide_true, decide_false, Bool.not_true, Bool.not_false, reduceIte, Nat.reduceEqDiff, Nat.reduceAdd, Nat.reduceMul, Nat.reduceSub, Nat.reduceLeDiff, Nat.reduceLT, p1, p2, p3, p6, p7, p8, p17, p18, Int.lt_irrefl]
  refine step_store (vs := [.int .i64 (-1)]) rfl q2 (by omega) (by omega) rfl rfl rfl (by simp) fun g6 hs6 => ?_
  rw [splice1] at hs6
  have n6 := hs6.next
  have f6 := hs6.floor
  have s6 : Sub All h g6 := fun i cs w gr t hg => by rw [hs6.old i (by have := AHeap.lt_of_get hg; omega)]; exact kin kg _ _ _ _ t hg
  have r16 : Row g6 h.next [F, V, S, tv] := by
    obtain ⟨w, gr, e⟩ := r1k kg
    exact ⟨w, gr, by rw [hs6.old _ (by omega)]; exact e⟩
  have hy6 := hy.mono s6
  obtain ⟨rr6, hrw6, hq6⟩ := hy6.v
  obtain ⟨g7, eA, ho7, ra7, rb7⟩ := allSpreads_c (n := n) (h := g6) (by omega) (by omega) (Y.nv : Int) (many : Int)
  have n7 := ho7.next
  have f7 := ho7.floor
  have e6 : g6.next = h.next + 4 := by omega
  rw [e6] at eA ra7 rb7
  simp only [rn0, rn1, rn2, rn3, rn4, rn5, rn6, rn7, rn8, if_true, if_false, Nat.le_refl, true_and, and_true, decide_true, decide_false, Bool.not_true, Bool.not_false, reduceIte, Nat.reduceEqDiff, Nat.reduceAdd, Nat.reduceMul, Nat.reduceSub, Nat.reduceLeDiff, Nat.reduceLT, p1, p2, p3, p6, p7, p8, p17, p18, r16.ld, Nat.zero_add, List.getElem?_cons_zero, List.getElem?_cons_succ, Cells.len hrw6, eA]
  refine W_range' rfl (by omega) (by simp only [rn0, rn1, rn2, rn3, rn4, rn5, rn6, rn7, rn8, if_true, if_false, Nat.le_refl, true_and, and_true, decide_true, decide_false, Bool.not_true, Bool.not_false, reduceIte, Nat.reduceEqDiff, Nat.reduceAdd, Nat.reduceMul, Nat.reduceSub, Nat.reduceLeDiff, Nat.reduceLT]; rfl) fun f0 hf0 ts hv h2 hl => ?_
  have c3 : f0 3 = .pointer (some ⟨h.next, 0, none⟩) := by rw [hf0]; simp only [rn0, rn1, rn2, rn3, rn4, rn5, rn6, rn7, rn8, if_true, if_false, Nat.le_refl, true_and, and_true, decide_true, decide_false, Bool.not_true, Bool.not_false, reduceIte, Nat.reduceEqDiff, Nat.reduceAdd, Nat.reduceMul, Nat.reduceSub, Nat.reduceLeDiff, Nat.reduceLT, p3]
  have c6 : f0 6 = .pointer (some ⟨h.next + 1, 0, none⟩) := by rw [hf0]; simp only [rn0, rn1, rn2, rn3, rn4, rn5, rn6, rn7, rn8, if_true, if_false, Nat.le_refl, true_and, and_true, decide_true, decide_false, Bool.not_true, Bool.not_false, reduceIte, Nat.reduceEqDiff, Nat.reduceAdd, Nat.reduceMul, Nat.reduceSub, Nat.reduceLeDiff, Nat.reduceLT, p6]
  have c7 : f0 7 = .pointer (some ⟨h.next + 2, 0, none⟩) := by rw [hf0]; simp only [rn0, rn1, rn2, rn3, rn4, rn5, rn6, rn7, rn8, if_true, if_false, Nat.le_refl, true_and, and_true, decide_true, decide_false, Bool.not_true, Bool.not_false, reduceIte, Nat.reduceEqDiff, Nat.reduceAdd, Nat.reduceMul, Nat.reduceSub, Nat.reduceLeDiff, Nat.reduceLT, p7]
  have c8 : f0 8 = .pointer (some ⟨h.next + 3, 0, none⟩) := by rw [hf0]; simp only [rn0, rn1, rn2, rn3, rn4, rn5, rn6, rn7, rn8, if_true, if_false, Nat.le_refl, true_and, and_true, decide_true, decide_false, Bool.not_true, Bool.not_false, reduceIte, Nat.reduceEqDiff, Nat.reduceAdd, Nat.reduceMul, Nat.reduceSub, Nat.reduceLeDiff, Nat.reduceLT, p8]
  clear hf0
  have nl := hl.next
  have fl := hl.floor
  have en : g7.next = h.next + 6 := by omega
  have oldh : ∀ i, i < h.next + 4 → h2.get i = g6.get i := fun i hi => by rw [hl.old i (by omega), ho7.old i (by omega)]
  have hbase : ∀ i, i < h.next → ∀ o, h.get i = some o → True := fun _ _ _ _ => trivial
  have sub2 : Sub All h h2 := fun i cs w gr t hg => by rw [oldh i (by have := AHeap.lt_of_get hg; omega)]; exact s6 _ _ _ _ t hg
  have d0 : Row h2 h.next [F, V, S, tv] := by
    obtain ⟨w, gr, e⟩ := r16
    exact ⟨w, gr, by rw [oldh _ (by omega)]; exact e⟩
  have d1 : h2.get (h.next + 1) = some (.row (arr4 fun _ => 0) true 0) := by rw [oldh _ (by omega), hs6.old _ (by omega)]; exact q1
  have d2 : h2.get (h.next + 2) = some (.row [.int .i64 (-1)] true 0) := by rw [oldh _ (by omega)]; exact hs6.get
  have d3 : h2.get (h.next + 3) = some (.row (sureL SS (many + 1) Y.nv 0) true 0) := by rw [oldh _ (by omega), hs6.old _ (by omega)]; exact gg
  have hpv : Row h2 (h.next + 4) [.int .i64 (Y.nv : Int)] := ra7.mono hl.sub
  have hpm : Row h2 (h.next + 5) [.int .i64 (many : Int)] := rb7.mono hl.sub
  have hloop := hl.loop
  have hmark := hl.mark
  rw [en] at hloop hmark
  rw [en]
  rw [en] at hl
  generalize hr0 : loopO _ ts _ _ _ _ = r at hloop ⊢
  have r1' : r.state = .ready := by rw [← hr0]; rfl
  have r2' : View 74 r.tmps f0 := by rw [← hr0]; exact hv
  have r3x : r.params = #[43] := by rw [← hr0]; rfl
  have r4 : compCode Try.prog 74 r.assign = some ra101_0 := by rw [← hr0]; exact raok101_0
  have r5 : compCode Try.prog 74 r.body = some rb101_0 := by rw [← hr0]; exact rbok101_0
  have r6 : leftBy r .norm = r := by rw [← hr0]; rfl
  clear hr0 hl hv
  have hlenE : (enumS (Y.nv - 1) 0 many fun _ => 0).length ≤ 1000 := by
    have h1 := enumS_len (Y.nv - 1) 0 many fun _ => 0
    have h2 : (many + 1) ^ (Y.nv - 1) ≤ 10 ^ (Y.nv - 1) := Nat.pow_le_pow_left (by omega) _
    have h3 : 10 ^ (Y.nv - 1) ≤ 10 ^ 3 := Nat.pow_le_pow_right (by omega) (by omega)
    omega
  have hit := iterS_c (spStep SS Y.nv) (JS h2 h.next) (g := h2) (pv := h.next + 4) (pm := h.next + 5) (K := 20) (N0 := 10020) (n := n) (nv := Y.nv) (many := many) (yv := .func (.yield (h.next + 7)) #[] #[]) ((fun _ => 0), -1) hv0 (by omega) hm hpv hpm rfl (by omega) (by omega) (by omega)
    (fun s g1 g' cs hj hs => by
      have hup := hj.up
      have hsn := hs.next
      exact ⟨fun i hi a1 a2 => by rw [hs.old i (by omega)]; exact hj.old i hi a1 a2, by rw [hs.old _ (by omega)]; exact hj.bst, by rw [hs.old _ (by omega)]; exact hj.lst, by omega⟩)
    (fun g3 ho => by
      have hon := ho.next
      exact ⟨fun i hi _ _ => ho.old i hi, by rw [ho.old _ (by omega)]; exact d1, by rw [ho.old _ (by omega)]; exact d2, by omega⟩)
    (fun m g1 s c hmN it hb hok hj hfg hr1 => by
      obtain ⟨m, rfl⟩ : ∃ p, m = p + 1 := ⟨m - 1, by omega⟩
      rw [call_yield]
      have hup := hj.up
      have hloop1 : g1.get (h.next + 7) = some (.loop r) := by rw [hj.old _ (by omega) (by omega) (by omega)]; exact hloop
      suffices key : ∃ e g', roundA Try.prog (call m) m (h.next + 7) [.agg ⟨arr4 c⟩] g1 = some (.bool (goesOn e), g') ∧ (e = .norm ∧ JS h2 h.next (spStep SS Y.nv s c).1 g' ∧ (∀ i, i < h2.next + 3 → i ≠ h.next + 1 → i ≠ h.next + 2 → g'.get i = g1.get i) ∧ g'.floor = h2.floor ∧ g'.next ≤ g1.next + 20) by
        obtain ⟨e, g', k1, rfl, k2, k3, k4, k5⟩ := key
        have krow : ∀ i cs, i < h2.next + 3 → i ≠ h.next + 1 → i ≠ h.next + 2 → Row g1 i cs → Row g' i cs := fun i cs h1 h2 h3 ⟨w, gr, e⟩ => ⟨w, gr, by rw [k3 i h1 h2 h3]; exact e⟩
        refine ⟨g', k1, k2, ⟨krow _ _ (by omega) (by omega) (by omega) it.v, krow _ _ (by omega) (by omega) (by omega) it.y, krow _ _ (by omega) (by omega) (by omega) it.c⟩, by rw [k3 _ (by omega) (by omega) (by omega)]; exact hb, k4, k5⟩
      refine round_run (f := f0) hloop1 r1' r2' (by rw [r3x]; rfl) (by omega) r4 r5 ?_
      have hset : setFr f0 r.params.toList [.agg ⟨arr4 c⟩] = upd f0 43 (.agg ⟨arr4 c⟩) := by rw [r3x]; rfl
      rw [hset]
      simp only [rn0, rn1, rn2, rn3, rn4, rn5, rn6, rn7, rn8, if_true, if_false, Nat.le_refl, true_and, and_true, decide_true, decide_false, Bool.not_true, Bool.not_false, reduceIte, Nat.reduceEqDiff, Nat.reduceAdd, Nat.reduceMul, Nat.reduceSub, Nat.reduceLeDiff, Nat.reduceLT, ra101_0]
      refine step_new (vs := arr4 c) (by omega) (by omega) rfl (by simp only [rn0, rn1, rn2, rn3, rn4, rn5, rn6, rn7, rn8, if_true, if_false, Nat.le_refl, true_and, and_true, decide_true, decide_false, Bool.not_true, Bool.not_false, reduceIte, Nat.reduceEqDiff, Nat.reduceAdd, Nat.reduceMul, Nat.reduceSub, Nat.reduceLeDiff, Nat.reduceLT]; rfl) arr4_one arr4_len rfl fun g2 hx2 => ?_
      have n2 := hx2.next
      have f2 := hx2.floor
      simp only [rn0, rn1, rn2, rn3, rn4, rn5, rn6, rn7, rn8, if_true, if_false, Nat.le_refl, true_and, and_true, decide_true, decide_false, Bool.not_true, Bool.not_false, reduceIte, Nat.reduceEqDiff, Nat.reduceAdd, Nat.reduceMul, Nat.reduceSub, Nat.reduceLeDiff, Nat.reduceLT]
      refine ⟨by rw [hx2.old _ (by omega)]; exact hloop1, by omega, fun g3 hp3 => ?_⟩
      have n3 := hp3.next
      have f3 := hp3.floor
      have g3old : ∀ i, i < g1.next → i ≠ h.next + 7 → g3.get i = g1.get i := fun i hi hne => by rw [hp3.old i hne, hx2.old i hi]
      have hsub3 : Sub All h g3 := fun i cs w gr t hg => by
        have := AHeap.lt_of_get hg
        rw [g3old i (by omega) (by omega), hj.old i (by omega) (by omega) (by omega)]
        exact sub2 _ _ _ _ t hg
      have hy3 := hy.mono hsub3
      obtain ⟨rr3, hrw3, hq3⟩ := hy3.v
      have rp3 : Row g3 h.next [F, V, S, tv] := by
        obtain ⟨w, gr, e⟩ := d0
        exact ⟨w, gr, by rw [g3old _ (by omega) (by omega), hj.old _ (by omega) (by omega) (by omega)]; exact e⟩
      have rs3 : Row g3 (h.next + 3) (sureL SS (many + 1) Y.nv 0) := ⟨_, _, by rw [g3old _ (by omega) (by omega), hj.old _ (by omega) (by omega) (by omega)]; exact d3⟩
      have rc3 : Row g3 g1.next (arr4 c) := by
        obtain ⟨w, gr, e⟩ := hx2.row
        exact ⟨w, gr, by rw [hp3.old _ (by omega)]; exact e⟩
      have rl3 : g3.get (h.next + 2) = some (.row [.int .i64 s.2] true 0) := by rw [g3old _ (by omega) (by omega)]; exact hj.lst
      have rb3 : g3.get (h.next + 1) = some (.row (arr4 s.1) true 0) := by rw [g3old _ (by omega) (by omega)]; exact hj.bst
      have hcn : ∀ v, v < Y.nv → ∃ k : Nat, c v = k ∧ k ≤ 9 := fun v hv => ⟨(c v).toNat, by have := hok.1 v hv; omega, by have := hok.1 v hv; omega⟩
      have hsum : ∀ v, v < Y.nv → (c v).toNat < many + 1 := fun v hv => by have := hok.1 v hv; omega
      have hcv : ∀ v, v < Y.nv → c v = (((c v).toNat : Nat) : Int) := fun v hv => by have := hok.1 v hv; omega
      have lc : ∀ (g : AHeap) v, v < Y.nv → Row g g1.next (arr4 c) → loadCell g (.pointer (some ⟨g1.next, v, none⟩)) = some (.int .i64 (c v)) := fun g v hv hr => by
        rw [hr.ld]; unfold arr4; rw [List.getElem?_map, List.getElem?_range (by omega)]; rfl
      have lsu : ∀ (g : AHeap) v, v < Y.nv → Row g (h.next + 3) (sureL SS (many + 1) Y.nv 0) → loadCell g (.pointer (some ⟨h.next + 3, v * 10 + (c v).toNat, none⟩)) = some (.int .i64 (SS v (c v).toNat)) := fun g v hv hr => by
        rw [hr.ld]; exact sureL_get hv (by omega) (hsum v hv) (by have := hok.1 v hv; omega)
      have ix2 : ∀ v, v < Y.nv → indexArr 10 1 (.pointer (some ⟨h.next + 3, v * 10, none⟩)) (.int .i64 (c v)) = some (.pointer (some ⟨h.next + 3, v * 10 + (c v).toNat, none⟩)) := fun v hv => by
        have e := hcv v hv
        have hb := hok.1 v hv
        generalize (c v).toNat = x at e
        rw [e, idxArr_p (by omega)]
      have i00 : indexArr 4 1 (.pointer (some ⟨g1.next, 0, none⟩)) (.int .i64 0) = some (.pointer (some ⟨g1.next, 0, none⟩)) := idxArr_p (k := 0) (by omega)
      have i01 : indexArr 4 10 (.pointer (some ⟨h.next + 3, 0, none⟩)) (.int .i64 0) = some (.pointer (some ⟨h.next + 3, 0, none⟩)) := idxArr_s (s := 10) (k := 0) (by omega)
      have ix20 := ix2 0 hv0
      have ls0 := lsu g3 0 hv0 rs3
      simp only [Nat.zero_mul, Nat.zero_add] at ix20 ls0
      simp only [rn0, rn1, rn2, rn3, rn4, rn5, rn6, rn7, rn8, if_true, if_false, Nat.le_refl, true_and, and_true, decide_true, decide_false, Bool.not_true, Bool.not_false, reduceIte, Nat.reduceEqDiff, Nat.reduceAdd, Nat.reduceMul, Nat.reduceSub, Nat.reduceLeDiff, Nat.reduceLT, rb101_0, c3, c6, c7, c8, i00, i01, lc g3 0 hv0 rc3, ix20, ls0, rp3.ld, Nat.zero_add, List.getElem?_cons_zero, List.getElem?_cons_succ, Cells.len hrw3]
      refine W_loop Y.nv (fun v f' g ms => ((∀ i, i < g3.next → g.get i = g3.get i) ∧ g.floor = g3.floor ∧ g3.next ≤ g.next ∧ g.next ≤ g3.next + 2 * v) ∧ ms = [] ∧ f' 3 = .pointer (some ⟨h.next, 0, none⟩) ∧ f' 6 = .pointer (some ⟨h.next + 1, 0, none⟩) ∧ f' 7 = .pointer (some ⟨h.next + 2, 0, none⟩) ∧ f' 8 = .pointer (some ⟨h.next + 3, 0, none⟩) ∧ f' 11 = .pointer (some ⟨g1.next, 0, none⟩) ∧
        f' 12 = .int .i64 (minN (SS 0 (c 0).toNat) (fun v => SS v (c v).toNat) v) ∧ f' 52 = .int .i64 (Y.nv : Int) ∧ f' 53 = .int .i64 (v : Int)) (by simp; omega) ?_ ?_ ?_
      · simp only [rn0, rn1, rn2, rn3, rn4, rn5, rn6, rn7, rn8, if_true, if_false, Nat.le_refl, true_and, and_true, decide_true, decide_false, Bool.not_true, Bool.not_false, reduceIte, Nat.reduceEqDiff, Nat.reduceAdd, Nat.reduceMul, Nat.reduceSub, Nat.reduceLeDiff, Nat.reduceLT, c3, c6, c7, c8]
        exact ⟨⟨fun _ _ => trivial, by omega⟩, rfl, rfl⟩
      · rintro v f' g ms hv ⟨⟨og, fg, ug, bg⟩, rfl, p3, p6, p7, p8, p11, p12, p52, p53⟩
        have hv' : (v : Int) < (Y.nv : Int) := by omega
        have hwv : wrapF .i64 ((v : Int) + 1) = ((v + 1 : Nat) : Int) := by rw [wrap_in (by omega) (by omega)]; rfl
        have rcg : Row g g1.next (arr4 c) := by
          obtain ⟨w, gr, e⟩ := rc3
          exact ⟨w, gr, by rw [og _ (by omega)]; exact e⟩
        have rsg : Row g (h.next + 3) (sureL SS (many + 1) Y.nv 0) := by
          obtain ⟨w, gr, e⟩ := rs3
          exact ⟨w, gr, by rw [og _ (by omega)]; exact e⟩
        simp only [rn0, rn1, rn2, rn3, rn4, rn5, rn6, rn7, rn8, if_true, if_false, Nat.le_refl, true_and, and_true, decide_true, decide_false, Bool.not_true, Bool.not_false, reduceIte, Nat.reduceEqDiff, Nat.reduceAdd, Nat.reduceMul, Nat.reduceSub, Nat.reduceLeDiff, Nat.reduceLT, p3, p6, p7, p8, p11, p12, p52, p53, hv']
        refine W_draw All ?_
        simp only [rn0, rn1, rn2, rn3, rn4, rn5, rn6, rn7, rn8, if_true, if_false, Nat.le_refl, true_and, and_true, decide_true, decide_false, Bool.not_true, Bool.not_false, reduceIte, Nat.reduceEqDiff, Nat.reduceAdd, Nat.reduceMul, Nat.reduceSub, Nat.reduceLeDiff, Nat.reduceLT, p3, p6, p7, p8, p11, p12, p52, p53, idxArr_p (l := 4) (k := v) (b := g1.next) (o := 0) (by omega), idxArr_s (l := 4) (s := 10) (k := v) (b := h.next + 3) (o := 0) (by omega), Nat.zero_add, lc g v hv rcg, ix2 v hv, lsu g v hv rsg, sl_int]
        refine up_slice (by omega) rfl (fun g7 hx => trivial) fun g7 hx7 => ?_
        have n7 := hx7.next
        have f7 := hx7.floor
        have hone : Ints g7 (.slice (some ⟨g.next, 0, none⟩) 1 1) 1 (fun _ => SS v (c v).toNat) := ⟨_, _, rfl, fun x e => by cases e; rfl, .inr ⟨_, 0, _, _, _, rfl, hx7.get, fun i j hi hj => by
          have hi : i = 0 := by omega
          have hj : j = 0 := by omega
          subst hi hj; rfl⟩⟩
        have em := minimum_c (n := m) (h := g7) (m := 1) (by omega) (by omega) hone (minN (SS 0 (c 0).toNat) (fun v => SS v (c v).toNat) v)
        have hmin : minN (minN (SS 0 (c 0).toNat) (fun v => SS v (c v).toNat) v) (fun _ => SS v (c v).toNat) 1 = minN (SS 0 (c 0).toNat) (fun v => SS v (c v).toNat) (v + 1) := by simp only [minN]
        rw [hmin] at em
        simp only [rn0, rn1, rn2, rn3, rn4, rn5, rn6, rn7, rn8, if_true, if_false, Nat.le_refl, true_and, and_true, decide_true, decide_false, Bool.not_true, Bool.not_false, reduceIte, Nat.reduceEqDiff, Nat.reduceAdd, Nat.reduceMul, Nat.reduceSub, Nat.reduceLeDiff, Nat.reduceLT, p3, p6, p7, p8, p11, p12, p52, p53, em, hwv]
        exact ⟨fun i hi => by rw [hx7.old i (by omega)]; exact og i hi, by omega, by omega, by omega⟩
      rintro f' g ms ⟨⟨og, fg, ug, bg⟩, rfl, p3, p6, p7, p8, p11, p12, p52, p53⟩
      change f' 12 = .int .i64 (lowS SS Y.nv c) at p12
      have rcg : Row g g1.next (arr4 c) := by
        obtain ⟨w, gr, e⟩ := rc3
        exact ⟨w, gr, by rw [og _ (by omega)]; exact e⟩
      have rlg : g.get (h.next + 2) = some (.row [.int .i64 s.2] true 0) := by rw [og _ (by omega)]; exact rl3
      have rbg : g.get (h.next + 1) = some (.row (arr4 s.1) true 0) := by rw [og _ (by omega)]; exact rb3
      have kl : g.get (h.next + 7) = some (.loop { r with state := .busy }) := by rw [og _ (by omega)]; exact hp3.get
      have gold : ∀ i, i < g1.next → i ≠ h.next + 7 → g.get i = g1.get i := fun i hi hne => by rw [og i (by omega)]; exact g3old i hi hne
      have l7 : loadCell g (.pointer (some ⟨h.next + 2, 0, none⟩)) = some (.int .i64 s.2) := row_ld0 rlg
      by_cases hlt : s.2 < lowS SS Y.nv c
      · have hst : (spStep SS Y.nv s c).1 = (c, lowS SS Y.nv c) := by unfold spStep; rw [if_pos hlt]
        simp only [rn0, rn1, rn2, rn3, rn4, rn5, rn6, rn7, rn8, if_true, if_false, Nat.le_refl, true_and, and_true, decide_true, decide_false, Bool.not_true, Bool.not_false, reduceIte, Nat.reduceEqDiff, Nat.reduceAdd, Nat.reduceMul, Nat.reduceSub, Nat.reduceLeDiff, Nat.reduceLT, p3, p6, p7, p8, p11, p12, p52, p53, Int.lt_irrefl, l7, hlt, rcg.whole arr4_len]
        refine step_store (b := h.next + 1) (off := 0) (vs := arr4 c) rfl rbg (by omega) (by omega) rfl arr4_one arr4_len (by rw [arr4_len]; omega) fun g6 hs6 => ?_
        rw [splice_all (by rw [arr4_len, arr4_len])] at hs6
        have n6 := hs6.next
        have f6 := hs6.floor
        simp only [rn0, rn1, rn2, rn3, rn4, rn5, rn6, rn7, rn8, if_true, if_false, Nat.le_refl, true_and, and_true, decide_true, decide_false, Bool.not_true, Bool.not_false, reduceIte, Nat.reduceEqDiff, Nat.reduceAdd, Nat.reduceMul, Nat.reduceSub, Nat.reduceLeDiff, Nat.reduceLT, p3, p6, p7, p8, p11, p12, p52, p53]
        refine step_store (b := h.next + 2) (off := 0) (vs := [.int .i64 (lowS SS Y.nv c)]) rfl (by rw [hs6.old _ (by omega)]; exact rlg) (by omega) (by omega) rfl rfl rfl (by simp) fun g7 hs7 => ?_
        rw [splice1] at hs7
        have n7 := hs7.next
        have f7 := hs7.floor
        simp only [rn0, rn1, rn2, rn3, rn4, rn5, rn6, rn7, rn8, if_true, if_false, Nat.le_refl, true_and, and_true, decide_true, decide_false, Bool.not_true, Bool.not_false, reduceIte, Nat.reduceEqDiff, Nat.reduceAdd, Nat.reduceMul, Nat.reduceSub, Nat.reduceLeDiff, Nat.reduceLT]
        refine ⟨by rw [hs7.old _ (by omega), hs6.old _ (by omega)]; exact kl, by omega, by omega, fun g8 hp8 => ⟨?_, ?_, by rw [hp8.floor]; omega, by rw [hp8.next]; omega⟩⟩
        · rw [hst]
          have hn8 := hp8.next
          refine ⟨fun i hi a1 a2 => ?_, ?_, ?_, by omega⟩
          · by_cases e : i = h.next + 7
            · subst e; rw [hp8.get, r6]; exact hloop.symm
            · rw [hp8.old i e, hs7.old i a2, hs6.old i a1, gold i (by omega) e]; exact hj.old i hi a1 a2
          · rw [hp8.old _ (by omega), hs7.old _ (by omega)]; exact hs6.get
          · rw [hp8.old _ (by omega)]; exact hs7.get
        · intro i hi a1 a2
          by_cases e : i = h.next + 7
          · subst e; rw [hp8.get, r6]; exact hloop1.symm
          · rw [hp8.old i e, hs7.old i a2, hs6.old i a1]
            exact gold i (by omega) e
      · have hst : (spStep SS Y.nv s c).1 = s := by unfold spStep; rw [if_neg hlt]
        simp only [rn0, rn1, rn2, rn3, rn4, rn5, rn6, rn7, rn8, if_true, if_false, Nat.le_refl, true_and, and_true, decide_true, decide_false, Bool.not_true, Bool.not_false, reduceIte, Nat.reduceEqDiff, Nat.reduceAdd, Nat.reduceMul, Nat.reduceSub, Nat.reduceLeDiff, Nat.reduceLT, p3, p6, p7, p8, p11, p12, p52, p53, Int.lt_irrefl, l7, hlt]
        refine ⟨kl, by omega, by omega, fun g8 hp8 => ⟨?_, ?_, by rw [hp8.floor]; omega, by rw [hp8.next]; omega⟩⟩
        · rw [hst]
          have hn8 := hp8.next
          refine ⟨fun i hi a1 a2 => ?_, ?_, ?_, by omega⟩
          · by_cases e : i = h.next + 7
            · subst e; rw [hp8.get, r6]; exact hloop.symm
            · rw [hp8.old i e, gold i (by omega) e]; exact hj.old i hi a1 a2
          · rw [hp8.old _ (by omega)]; exact rbg
          · rw [hp8.old _ (by omega)]; exact rlg
        · intro i hi a1 a2
          by_cases e : i = h.next + 7
          · subst e; rw [hp8.get, r6]; exact hloop1.symm
          · rw [hp8.old i e]
            exact gold i (by omega) e)
    (by omega)
  obtain ⟨v5, g8, e8, j8, fl8, n8⟩ := hit
  change JS h2 h.next (spRun SS Y.nv many) g8 at j8
  generalize spRun SS Y.nv many = sr at j8 ⊢
  have hup := j8.up
  refine ⟨v5, g8, .norm, by exact e8, by omega, by omega, by rw [r6, j8.old _ (by omega) (by omega) (by omega)]; exact hloop, fun g9 hp9 => ?_⟩
  have n9 := hp9.next
  have f9 := hp9.floor
  have m9 : g9.get (h.next + 6) = some .deferred := by rw [hp9.old _ (by omega), j8.old _ (by omega) (by omega) (by omega)]; exact hmark
  have b9 : g9.get (h.next + 1) = some (.row (arr4 sr.1) true 0) := by rw [hp9.old _ (by omega)]; exact j8.bst
  have l9 : g9.get (h.next + 2) = some (.row [.int .i64 sr.2] true 0) := by rw [hp9.old _ (by omega)]; exact j8.lst
  have w9 := (show Row g9 (h.next + 1) (arr4 sr.1) from ⟨_, _, b9⟩).whole arr4_len
  have v9 : loadCell g9 (.pointer (some ⟨h.next + 2, 0, none⟩)) = some (.int .i64 sr.2) := row_ld0 l9
  simp only [rn0, rn1, rn2, rn3, rn4, rn5, rn6, rn7, rn8, if_true, if_false, Nat.le_refl, true_and, and_true, decide_true, decide_false, Bool.not_true, Bool.not_false, reduceIte, Nat.reduceEqDiff, Nat.reduceAdd, Nat.reduceMul, Nat.reduceSub, Nat.reduceLeDiff, Nat.reduceLT]
  refine W_draw All ?_
  simp only [rn0, rn1, rn2, rn3, rn4, rn5, rn6, rn7, rn8, if_true, if_false, Nat.le_refl, true_and, and_true, decide_true, decide_false, Bool.not_true, Bool.not_false, reduceIte, Nat.reduceEqDiff, Nat.reduceAdd, Nat.reduceMul, Nat.reduceSub, Nat.reduceLeDiff, Nat.reduceLT, c6, c7, w9, v9]
  refine up_store (b := h.next + 1) (off := 0) (vs := arr4 sr.1) rfl b9 (by omega) (by omega) rfl arr4_one arr4_len (by rw [arr4_len]; omega) (fun g hs => ?_) fun g10 hs10 => ?_
  · rw [splice_all (cs := arr4 sr.1) (vs := arr4 sr.1) rfl] at hs
    intro i cs w gr _ hg
    by_cases e : i = h.next + 1
    · subst e
      rw [b9] at hg
      cases hg
      exact hs.get
    · rw [hs.old i e]; exact hg
  rw [splice_all (cs := arr4 sr.1) (vs := arr4 sr.1) rfl] at hs10
  have n10 := hs10.next
  have f10 := hs10.floor
  simp only [rn0, rn1, rn2, rn3, rn4, rn5, rn6, rn7, rn8, if_true, if_false, Nat.le_refl, true_and, and_true, decide_true, decide_false, Bool.not_true, Bool.not_false, reduceIte, Nat.reduceEqDiff, Nat.reduceAdd, Nat.reduceMul, Nat.reduceSub, Nat.reduceLeDiff, Nat.reduceLT, c6, c7]
  refine up_store (b := h.next + 2) (off := 0) (vs := [.int .i64 sr.2]) rfl (by rw [hs10.old _ (by omega)]; exact l9) (by omega) (by omega) rfl rfl rfl (by simp) (fun g hs => trivial) fun g11 hs11 => ?_
  rw [splice1] at hs11
  have n11 := hs11.next
  have f11 := hs11.floor
  simp only [rn0, rn1, rn2, rn3, rn4, rn5, rn6, rn7, rn8, if_true, if_false, Nat.le_refl, true_and, and_true, decide_true, decide_false, Bool.not_true, Bool.not_false, reduceIte, Nat.reduceEqDiff, Nat.reduceAdd, Nat.reduceMul, Nat.reduceSub, Nat.reduceLeDiff, Nat.reduceLT]
  refine ret_mark (.inr rfl) (by rw [hs11.old _ (by omega), hs10.old _ (by omega)]; exact m9) (by omega) (by omega) fun g12 hp12 => ?_
  have n12 := hp12.next
  have f12 := hp12.floor
  have w12 := (show Row g12 (h.next + 1) (arr4 sr.1) from ⟨_, _, by rw [hp12.old _ (by omega), hs11.old _ (by omega)]; exact hs10.get⟩).whole arr4_len
  have v12 : loadCell g12 (.pointer (some ⟨h.next + 2, 0, none⟩)) = some (.int .i64 sr.2) := row_ld0 (by rw [hp12.old _ (by omega)]; exact hs11.get)
  refine ⟨_, res_41 (x := .agg ⟨arr4 sr.1⟩) (y := .int .i64 sr.2) (by simp only [rn0, rn1, rn2, rn3, rn4, rn5, rn6, rn7, rn8, if_true, if_false, Nat.le_refl, true_and, and_true, decide_true, decide_false, Bool.not_true, Bool.not_false, reduceIte, Nat.reduceEqDiff, Nat.reduceAdd, Nat.reduceMul, Nat.reduceSub, Nat.reduceLeDiff, Nat.reduceLT, c6, w12]) (by simp only [rn0, rn1, rn2, rn3, rn4, rn5, rn6, rn7, rn8, if_true, if_false, Nat.le_refl, true_and, and_true, decide_true, decide_false, Bool.not_true, Bool.not_false, reduceIte, Nat.reduceEqDiff, Nat.reduceAdd, Nat.reduceMul, Nat.reduceSub, Nat.reduceLeDiff, Nat.reduceLT, c7, v12]), rfl, ?_⟩
  refine ⟨fun i cs w gr t hg => ?_, by omega, by omega, by omega⟩
  have := AHeap.lt_of_get hg
  rw [hp12.old i (by omega), hs11.old i (by omega), hs10.old i (by omega), hp9.old i (by omega), j8.old i (by omega) (by omega) (by omega)]
  exact sub2 _ _ _ _ t hg
end Go.Vm.Vat

namespace Go.Vm.Vat
open Go.Proofs
set_option linter.unusedSimpArgs false
set_option linter.unusedVariables false
set_option maxRecDepth 10000
variable {n : Nat} {h : AHeap}
end Go.Vm.Vat

namespace Go.Vm.Vat
open Go.Proofs
set_option linter.unusedSimpArgs false
set_option linter.unusedVariables false
set_option maxRecDepth 10000
variable {n : Nat} {h : AHeap}
theorem x_eqNil {P : Program} {cf : CallF} {N : Nat} {f : Fr} {w : Bool} {x y : Operand} : sem P cf N f h (.eqNil w x y) = eqNilA w (val f x) (val f y) h := id rfl
theorem eqNil_no {w : Bool} {a : Addr} {k c k2 c2 : Nat} : eqNilA w (.slice (some a) k c) (.slice none k2 c2) h = some (.bool (!w), h) := id rfl
def s102 : SCode := (.seq (.ops [⟨(some 2), none, .mov (.const (.slice none 0 0))⟩]) (.seq (.seq (.ops [⟨(some 3), none, .mov (T 0)⟩, ⟨(some 4), none, .eqNil true (T 3) (.const (.slice none 0 0))⟩]) (.cond (T 4) (.seq (.ops [⟨(some 2), none, .mov (.const (.slice none 0 0))⟩]) .ret) .skip)) (.seq (.ops [⟨(some 5), none, .bslice 1 0 [(.int .i64 (0))] [] []⟩, ⟨(some 6), none, .mov (T 0)⟩, ⟨(some 7), none, .append 1 8 (T 5) (T 6)⟩, ⟨(some 2), none, .mov (T 7)⟩]) .ret)))
theorem fok102 : FnOk Try.prog 102 8 s102 [.tmp 2] := ⟨Try.f102, _, Try.func102, rfl, Try.ntmps102, by kernel_rfl, by kernel_rfl⟩
theorem clone_c (hn : 1 ≤ n) (hr : h.next + 2 < far) {b cap m : Nat} {a : Nat → Int} (hi : Ints h (.slice (some ⟨b, 0, none⟩) m cap) m a) (hm : m ≤ 30) :
    ∃ v' h', call n (.func (.func 102) #[] #[]) [.slice (some ⟨b, 0, none⟩) m cap] h = some (v', h') ∧ Ints h' v' m a ∧ Made h h' 2 ∧ oneCell v' = true ∧ ∀ a k c, v' = .slice (some a) k c → h.next ≤ a.block ∧ a.block < h'.next := by
  obtain ⟨n, rfl⟩ : ∃ p, n = p + 1 := ⟨n - 1, by omega⟩
  refine call_any0 fok102 rfl rfl (by simp) ?_
  simp only [rn0, rn1, rn2, rn3, rn4, rn5, rn6, rn7, rn8, if_true, if_false, Nat.le_refl, true_and, and_true, decide_true, decide_false, Bool.not_true, Bool.not_false, reduceIte, Nat.reduceEqDiff, Nat.reduceAdd, Nat.reduceMul, Nat.reduceSub, Nat.reduceLeDiff, Nat.reduceLT, s102, build_none, x_eqNil, eqNil_no]
  refine step_slice (by omega) rfl fun h1 hx => ?_
  have hi1 := Cells.mono hi hx.sub
  obtain ⟨x, k, e1, e2⟩ := Ints.cells hi1
  have hap := append_none (s := 1) (bytes := 8) (b := h.next) ⟨x, k, e1⟩ e2 (by simp) (by simp [maxBytes]; omega) (by simp [maxBytes]; omega)
  by_cases hz : m = 0
  · rw [if_pos hz] at hap
    simp only [rn0, rn1, rn2, rn3, rn4, rn5, rn6, rn7, rn8, if_true, if_false, Nat.le_refl, true_and, and_true, decide_true, decide_false, Bool.not_true, Bool.not_false, reduceIte, Nat.reduceEqDiff, Nat.reduceAdd, Nat.reduceMul, Nat.reduceSub, Nat.reduceLeDiff, Nat.reduceLT, hap]
    refine ⟨⟨_, _, by rw [hz], fun x e => by cases e; rfl, .inl hz⟩, ⟨hx.sub, by rw [hx.next]; omega, by rw [hx.next]; omega, hx.floor⟩, rfl, fun a k c e => by cases e; exact ⟨Nat.le_refl _, by rw [hx.next]; exact Nat.lt_succ_self _⟩⟩
  · rw [if_neg hz] at hap
    simp only [rn0, rn1, rn2, rn3, rn4, rn5, rn6, rn7, rn8, if_true, if_false, Nat.le_refl, true_and, and_true, decide_true, decide_false, Bool.not_true, Bool.not_false, reduceIte, Nat.reduceEqDiff, Nat.reduceAdd, Nat.reduceMul, Nat.reduceSub, Nat.reduceLeDiff, Nat.reduceLT, hap]
    refine step_slice (by rw [hx.next]; omega) (by rw [allB_iff]; intro v hv; obtain ⟨i, _, rfl⟩ := List.mem_map.1 hv; rfl) fun h2 hx2 => ?_
    simp only [rn0, rn1, rn2, rn3, rn4, rn5, rn6, rn7, rn8, if_true, if_false, Nat.le_refl, true_and, and_true, decide_true, decide_false, Bool.not_true, Bool.not_false, reduceIte, Nat.reduceEqDiff, Nat.reduceAdd, Nat.reduceMul, Nat.reduceSub, Nat.reduceLeDiff, Nat.reduceLT]
    refine ⟨⟨_, _, rfl, fun x e => by cases e; rfl, .inr ⟨_, 0, _, _, _, rfl, hx2.get, fun k j hk hj => ?_⟩⟩, ⟨hx.sub.trans hx2.sub, by rw [hx2.next, hx.next]; omega, by rw [hx2.next, hx.next]; omega, by rw [hx2.floor, hx.floor]⟩, rfl, fun a k c e => by cases e; exact ⟨by show h.next ≤ h1.next; rw [hx.next]; omega, by rw [hx2.next]; exact Nat.lt_succ_self _⟩⟩
    rw [show 0 + k * 1 + j = k by omega, List.getElem?_map, List.getElem?_range hk]
    rfl
def s100 : SCode := (.seq (.ops [⟨(some 2), none, .mov (.const (.bool false))⟩]) (.seq (.ops [⟨(some 3), none, .mov (T 0)⟩, ⟨(some 4), none, .int2 .leq (.const (.int .i64 (0))) (T 3)⟩, ⟨(some 5), none, .mov (T 4)⟩, ⟨(some 6), (some (5, true)), .mov (T 0)⟩, ⟨(some 7), (some (5, true)), .int2 .leq (T 6) (.const (.int .i64 (9)))⟩, ⟨(some 8), none, .pick (T 5) (T 7) (.const (.bool false))⟩, ⟨(some 2), none, .mov (T 8)⟩]) .ret))
theorem fok100 : FnOk Try.prog 100 9 s100 [.tmp 2] := ⟨Try.f100, _, Try.func100, rfl, Try.ntmps100, by kernel_rfl, by kernel_rfl⟩
theorem isFurther_c (hn : 1 ≤ n) (m : Int) : call n (.func (.func 100) #[] #[]) [.int .i64 m] h = some (.bool (decide (0 ≤ m ∧ m ≤ 9)), h) := by
  obtain ⟨n, rfl⟩ : ∃ p, n = p + 1 := ⟨n - 1, by omega⟩
  refine call_plain0 fok100 rfl rfl (by simp) rfl ?_
  by_cases c1 : 0 ≤ m <;> by_cases c2 : m ≤ 9 <;> simp only [rn0, rn1, rn2, rn3, rn4, rn5, rn6, rn7, rn8, if_true, if_false, Nat.le_refl, true_and, and_true, decide_true, decide_false, Bool.not_true, Bool.not_false, reduceIte, Nat.reduceEqDiff, Nat.reduceAdd, Nat.reduceMul, Nat.reduceSub, Nat.reduceLeDiff, Nat.reduceLT, s100, c1, c2, and_self, and_false, false_and]
/-- what Spread asks of its arguments -/
def SpreadArgs (Y : MY) (field many : Int) : Prop := (0 ≤ field ∧ field ≤ (Y.nf : Int) - 1) ∧ 0 ≤ many ∧ many ≤ 9
open Classical in
/-- the error of Spread -/
noncomputable def spreadE (Y : MY) (field many : Int) : Int := if faultN Y ≠ 0 then faultN Y else if ¬ SpreadArgs Y field many then 2 else if truths Y = [] then 11 else if Y.nv = 0 then 7 else 0
/-- the best spread, and its least blue -/
noncomputable def bestS (Y : MY) (f many : Nat) : (Nat → Int) × Int := spRun (fun v k => sureN Y v f k (truths Y)) Y.nv many
/-- what Spread answers -/
def SpreadR (h : AHeap) (Y : MY) (field many : Int) (v : Value) (h' : AHeap) : Prop := Made h h' 400000 ∧
  ((spreadE Y field many ≠ 0 ∧ v = .tuple ⟨[nilS, .int .i64 0, .int .i64 (spreadE Y field many)]⟩) ∨
    (spreadE Y field many = 0 ∧ ∃ l, v = .tuple ⟨[l, .int .i64 (bestS Y field.toNat many.toNat).2, .int .i64 0]⟩ ∧ Ints h' l Y.nv (bestS Y field.toNat many.toNat).1 ∧ oneCell l = true ∧ ∀ a k c, l = .slice (some a) k c → h.next ≤ a.block ∧ a.block < h'.next))
theorem ret_ttt {a b c : Nat} {f : Fr} : resV f h [.tmp a, .tmp b, .tmp c] = some (.tuple ⟨[f a, f b, f c]⟩) := id rfl
theorem x_sliceArr {P : Program} {cf : CallF} {N : Nat} {f : Fr} {m s : Nat} {x : Operand} {lo hi : Option Operand} : sem P cf N f h (.sliceArr m s x lo hi) = sliceArr m s h (val f x) (lo.map (val f)) (hi.map (val f)) := id rfl
theorem sliceArr4 {b m : Nat} (hm : m ≤ 4) : sliceArr 4 1 h (.pointer (some ⟨b, 0, none⟩)) none (some (.int .i64 (m : Int))) = some (.slice (some ⟨b, 0, none⟩) m 4, h) := by
  have e1 : boundA 0 none = some 0 := rfl
  have e2 : boundA 4 (some (.int .i64 (m : Int))) = some m := rfl
  have e3 : Nat.ble 0 m = true := ble_iff.2 (Nat.zero_le _)
  have e4 : Nat.ble m 4 = true := ble_iff.2 hm
  have e5 : Nat.beq 4 0 = false := rfl
  unfold sliceArr
  simp only [e1, e2, e3, e4, e5, Bool.and_self, cond_true, cond_false, addrPlus, Nat.zero_mul, Nat.add_zero, Nat.sub_zero]
def s48 : SCode := (.seq (.ops [⟨(some 3), none, .box (T 0)⟩, ⟨(some 6), none, .mov (.const (.slice none 0 0))⟩, ⟨(some 7), none, .mov (.const (.int .i64 (0)))⟩, ⟨(some 8), none, .mov (.const (.int .i64 (0)))⟩]) (.seq (.ops [⟨(some 12), none, .loadN 3 (T 3)⟩, ⟨(some 13), none, .call (.func 78) [(T 12)]⟩, ⟨(some 11), none, .mov (T 13)⟩, ⟨(some 14), none, .extract 0 (T 11)⟩, ⟨(some 15), none, .extract 1 (T 11)⟩, ⟨(some 9), none, .alloc [(.slice none 0 0), (.slice none 0 0), (.slice none 0 0), (.slice none 0 0)]⟩, ⟨none, none, .store 4 (T 9) (T 14)⟩, ⟨(some 8), none, .mov (T 15)⟩]) (.seq (.block 0 (.seq (.ops [⟨(some 17), none, .mov (T 8)⟩, ⟨(some 18), none, .int2 .neq (T 17) (.const (.int .i64 (0)))⟩, ⟨(some 16), none, .mov (T 18)⟩]) (.cond (T 16) (.seq (.ops [⟨(some 19), none, .mov (T 8)⟩, ⟨(some 6), none, .mov (.const (.slice none 0 0))⟩, ⟨(some 7), none, .mov (.const (.int .i64 (0)))⟩, ⟨(some 8), none, .mov (T 19)⟩]) .ret) (.seq (.ops [⟨(some 21), none, .loadN 4 (T 9)⟩, ⟨(some 22), none, .mov (T 1)⟩, ⟨(some 23), none, .call (.func 98) [(T 21), (T 22)]⟩, ⟨(some 24), none, .not (T 23)⟩, ⟨(some 25), none, .mov (T 24)⟩, ⟨(some 26), (some (25, false)), .mov (T 2)⟩, ⟨(some 27), (some (25, false)), .call (.func 100) [(T 26)]⟩, ⟨(some 28), (some (25, false)), .not (T 27)⟩, ⟨(some 29), none, .pick (T 25) (.const (.bool true)) (T 28)⟩, ⟨(some 20), none, .mov (T 29)⟩]) (.cond (T 20) (.seq (.ops [⟨(some 6), none, .mov (.const (.slice none 0 0))⟩, ⟨(some 7), none, .mov (.const (.int .i64 (0)))⟩, ⟨(some 8), none, .mov (.const (.int .i64 (2)))⟩]) .ret) (.seq (.ops [⟨(some 31), none, .fieldAddr 3 (T 9)⟩, ⟨(some 32), none, .load1 (T 31)⟩, ⟨(some 33), none, .len (T 32)⟩, ⟨(some 34), none, .int2 .eql (T 33) (.const (.int .i64 (0)))⟩, ⟨(some 30), none, .mov (T 34)⟩]) (.cond (T 30) (.seq (.ops [⟨(some 6), none, .mov (.const (.slice none 0 0))⟩, ⟨(some 7), none, .mov (.const (.int .i64 (0)))⟩, ⟨(some 8), none, .mov (.const (.int .i64 (11)))⟩]) .ret) (.seq (.ops [⟨(some 36), none, .fieldAddr 0 (T 9)⟩, ⟨(some 37), none, .fieldAddr 1 (T 36)⟩, ⟨(some 38), none, .load1 (T 37)⟩, ⟨(some 39), none, .len (T 38)⟩, ⟨(some 40), none, .int2 .eql (T 39) (.const (.int .i64 (0)))⟩, ⟨(some 35), none, .mov (T 40)⟩]) (.cond (T 35) (.seq (.ops [⟨(some 6), none, .mov (.const (.slice none 0 0))⟩, ⟨(some 7), none, .mov (.const (.int .i64 (0)))⟩, ⟨(some 8), none, .mov (.const (.int .i64 (7)))⟩]) .ret) .skip))))))))) (.seq (.ops [⟨(some 42), none, .loadN 4 (T 9)⟩, ⟨(some 43), none, .mov (T 1)⟩, ⟨(some 44), none, .mov (T 2)⟩, ⟨(some 45), none, .call (.func 101) [(T 42), (T 43), (T 44)]⟩, ⟨(some 41), none, .mov (T 45)⟩, ⟨(some 46), none, .extract 0 (T 41)⟩, ⟨(some 47), none, .extract 1 (T 41)⟩, ⟨(some 10), none, .alloc [(.int .i64 (0)), (.int .i64 (0)), (.int .i64 (0)), (.int .i64 (0))]⟩, ⟨none, none, .store 4 (T 10) (T 46)⟩, ⟨(some 7), none, .mov (T 47)⟩]) (.seq (.ops [⟨(some 48), none, .fieldAddr 0 (T 9)⟩, ⟨(some 49), none, .fieldAddr 1 (T 48)⟩, ⟨(some 50), none, .load1 (T 49)⟩, ⟨(some 51), none, .len (T 50)⟩, ⟨(some 52), none, .sliceArr 4 1 (T 10) none (some (T 51))⟩, ⟨(some 53), none, .call (.func 102) [(T 52)]⟩, ⟨(some 54), none, .mov (T 7)⟩, ⟨(some 6), none, .mov (T 53)⟩, ⟨(some 7), none, .mov (T 54)⟩, ⟨(some 8), none, .mov (.const (.int .i64 (0)))⟩]) .ret)))))
theorem fok48 : FnOk Try.prog 48 55 s48 [.tmp 6, .tmp 7, .tmp 8] := ⟨Try.f48, _, Try.func48, rfl, Try.ntmps48, by kernel_rfl, by kernel_rfl⟩
open Classical in
theorem spread_c (hn : 10070 ≤ n) (hr : h.next + 600000 < far) (hfl : h.floor ≤ h.next) {F V S : Value} {Y : MY} (hy : YardR h F V S Y) (hY : Thin Y) (field many : Int) :
    ∃ v h', call n (.func (.func 48) #[] #[]) [.agg ⟨[F, V, S]⟩, .int .i64 field, .int .i64 many] h = some (v, h') ∧ SpreadR h Y field many v h' := by
  obtain ⟨n, rfl⟩ : ∃ p, n = p + 1 := ⟨n - 1, by omega⟩
  refine call_any0 fok48 rfl rfl (by simp) ?_
  simp only [s48, W_seq, W_ops]
  refine ops_box (cs := [F, V, S]) (by omega) rfl hy.one fun g1 hx1 => ?_
  have n1 := hx1.next
  have f1 := hx1.floor
  have w1 := hx1.row.whole (n := 3) rfl
  obtain ⟨v, g2, eo, hm, ho⟩ := open_c (n := n) (h := g1) (by omega) (by omega) (by omega) (hy.mono hx1.sub) hY
  have n2 := hm.next
  have u2 := hm.up
  have f2 := hm.floor
  generalize hres : spreadE Y field many = E
  have made : ∀ g g', Sub All h g → Made g g' 130000 → h.next ≤ g.next → g.next ≤ h.next + 240000 → g.floor = h.floor → Made h g' 400000 := fun g g' hs hg h1 h2 h3 => by
    have a1 := hg.next
    have a2 := hg.up
    have a3 := hg.floor
    exact ⟨hs.trans hg.sub, by omega, by omega, by omega⟩
  have made0 : ∀ g, Made g g 130000 := fun g => ⟨Sub.refl, by omega, Nat.le_refl _, rfl⟩
  rcases ho with ⟨hf, rfl⟩ | ⟨hf, tv, rfl, htr, hlong⟩
  · have hE : E = faultN Y := by rw [← hres]; unfold spreadE; rw [if_pos hf]
    simp only [rn0, rn1, rn2, rn3, rn4, rn5, rn6, rn7, rn8, if_true, if_false, Nat.le_refl, true_and, and_true, decide_true, decide_false, Bool.not_true, Bool.not_false, reduceIte, Nat.reduceEqDiff, Nat.reduceAdd, Nat.reduceMul, Nat.reduceSub, Nat.reduceLeDiff, Nat.reduceLT, w1, eo, ex0, ex1]
    refine step_new (vs := [nilS, nilS, nilS, nilS]) (by omega) (by omega) rfl (by simp only [rn0, rn1, rn2, rn3, rn4, rn5, rn6, rn7, rn8, if_true, if_false, Nat.le_refl, true_and, and_true, decide_true, decide_false, Bool.not_true, Bool.not_false, reduceIte, Nat.reduceEqDiff, Nat.reduceAdd, Nat.reduceMul, Nat.reduceSub, Nat.reduceLeDiff, Nat.reduceLT]; rfl) rfl rfl rfl fun g3 hx3 => ?_
    have n3 := hx3.next
    have f3 := hx3.floor
    simp only [rn0, rn1, rn2, rn3, rn4, rn5, rn6, rn7, rn8, if_true, if_false, Nat.le_refl, true_and, and_true, decide_true, decide_false, Bool.not_true, Bool.not_false, reduceIte, Nat.reduceEqDiff, Nat.reduceAdd, Nat.reduceMul, Nat.reduceSub, Nat.reduceLeDiff, Nat.reduceLT, hf, ret_ttt]
    exact ⟨made g3 g3 (hx1.sub.trans (hm.sub.trans hx3.sub)) (made0 _) (by omega) (by omega) (by omega), .inl ⟨by rw [hres, hE]; exact hf, by rw [hres, hE]⟩⟩
  have hG := good_of hf
  obtain ⟨z1, z2, z3⟩ := hG.sz
  have ho4 : allB oneCell [F, V, S, tv] = true := by have h1 := hy.one; have h2 := Cells.one htr; simp [allB] at h1 ⊢; simp [h1, h2]
  have hE : E = if ¬ SpreadArgs Y field many then 2 else if truths Y = [] then 11 else if Y.nv = 0 then 7 else 0 := by rw [← hres]; unfold spreadE; rw [if_neg (by simpa using hf)]
  simp only [rn0, rn1, rn2, rn3, rn4, rn5, rn6, rn7, rn8, if_true, if_false, Nat.le_refl, true_and, and_true, decide_true, decide_false, Bool.not_true, Bool.not_false, reduceIte, Nat.reduceEqDiff, Nat.reduceAdd, Nat.reduceMul, Nat.reduceSub, Nat.reduceLeDiff, Nat.reduceLT, w1, eo, ex0, ex1, hf]
  refine step_new (vs := [F, V, S, tv]) (by omega) (by omega) rfl (by simp only [rn0, rn1, rn2, rn3, rn4, rn5, rn6, rn7, rn8, if_true, if_false, Nat.le_refl, true_and, and_true, decide_true, decide_false, Bool.not_true, Bool.not_false, reduceIte, Nat.reduceEqDiff, Nat.reduceAdd, Nat.reduceMul, Nat.reduceSub, Nat.reduceLeDiff, Nat.reduceLT]; rfl) ho4 rfl rfl fun g3 hx3 => ?_
  have n3 := hx3.next
  have f3 := hx3.floor
  have hs3 : Sub All h g3 := hx1.sub.trans (hm.sub.trans hx3.sub)
  have hy3 := hy.mono hs3
  have w3 := hx3.row.whole (n := 4) rfl
  have htr3 : TruthsR g3 tv (truths Y) := Cells.mono htr hx3.sub
  obtain ⟨rr, hrw, hq⟩ := hy3.v
  have eg := hasField_c (n := n) (h := g3) (by omega) (by omega) hy3.f ho4 field
  have ef := isFurther_c (n := n) (h := g3) (by omega) many
  have M3 := made g3 g3 hs3 (made0 _) (by omega) (by omega) (by omega)
  have bad : ∀ x : Int, E = x → x ≠ 0 → SpreadR h Y field many (.tuple ⟨[nilS, .int .i64 0, .int .i64 x]⟩) g3 := fun x e hx => ⟨M3, .inl ⟨by rw [hres, e]; exact hx, by rw [hres, e]⟩⟩
  by_cases a1 : 0 ≤ field ∧ field ≤ (Y.nf : Int) - 1
  case neg =>
    have h2 := bad 2 (by rw [hE, if_pos fun h => a1 h.1]) (by omega)
    simp only [rn0, rn1, rn2, rn3, rn4, rn5, rn6, rn7, rn8, if_true, if_false, Nat.le_refl, true_and, and_true, decide_true, decide_false, Bool.not_true, Bool.not_false, reduceIte, Nat.reduceEqDiff, Nat.reduceAdd, Nat.reduceMul, Nat.reduceSub, Nat.reduceLeDiff, Nat.reduceLT, w3, eg, a1, ret_ttt]
    exact h2
  by_cases a2 : 0 ≤ many ∧ many ≤ 9
  case neg =>
    have h2 := bad 2 (by rw [hE, if_pos fun h => a2 h.2]) (by omega)
    simp only [rn0, rn1, rn2, rn3, rn4, rn5, rn6, rn7, rn8, if_true, if_false, Nat.le_refl, true_and, and_true, decide_true, decide_false, Bool.not_true, Bool.not_false, reduceIte, Nat.reduceEqDiff, Nat.reduceAdd, Nat.reduceMul, Nat.reduceSub, Nat.reduceLeDiff, Nat.reduceLT, w3, eg, a1, ef, a2, and_self, ret_ttt]
    exact h2
  have hargs : SpreadArgs Y field many := ⟨a1, a2⟩
  rw [if_neg (by simpa using hargs)] at hE
  by_cases he : truths Y = []
  · have h2 := bad 11 (by rw [hE, if_pos he]) (by omega)
    have hl : (truths Y).length = 0 := by rw [he]; rfl
    simp only [rn0, rn1, rn2, rn3, rn4, rn5, rn6, rn7, rn8, if_true, if_false, Nat.le_refl, true_and, and_true, decide_true, decide_false, Bool.not_true, Bool.not_false, reduceIte, Nat.reduceEqDiff, Nat.reduceAdd, Nat.reduceMul, Nat.reduceSub, Nat.reduceLeDiff, Nat.reduceLT, w3, eg, a1, ef, a2, and_self, hx3.row.ld, Nat.zero_add, List.getElem?_cons_zero, List.getElem?_cons_succ, Cells.len htr3, hl, Int.natCast_zero, ret_ttt]
    exact h2
  rw [if_neg he] at hE
  have hl : ¬ ((truths Y).length : Int) = 0 := fun e => he (List.eq_nil_of_length_eq_zero (by omega))
  by_cases hv0 : Y.nv = 0
  · have h2 := bad 7 (by rw [hE, if_pos hv0]) (by omega)
    simp only [rn0, rn1, rn2, rn3, rn4, rn5, rn6, rn7, rn8, if_true, if_false, Nat.le_refl, true_and, and_true, decide_true, decide_false, Bool.not_true, Bool.not_false, reduceIte, Nat.reduceEqDiff, Nat.reduceAdd, Nat.reduceMul, Nat.reduceSub, Nat.reduceLeDiff, Nat.reduceLT, w3, eg, a1, ef, a2, and_self, hx3.row.ld, Nat.zero_add, List.getElem?_cons_zero, List.getElem?_cons_succ, Cells.len htr3, hl, Cells.len hrw, hv0, Int.natCast_zero, ret_ttt]
    exact h2
  rw [if_neg hv0] at hE
  have hv0' : ¬ (Y.nv : Int) = 0 := by omega
  obtain ⟨fN, rfl⟩ : ∃ k : Nat, field = k := ⟨field.toNat, by omega⟩
  obtain ⟨mN, rfl⟩ : ∃ k : Nat, many = k := ⟨many.toNat, by omega⟩
  obtain ⟨bv, g4, eb, rfl, hm4⟩ := bestSpread_c (n := n) (h := g3) (f := fN) (many := mN) (by omega) (by omega) (by omega) hy3 hf he htr3 hlong (by omega) (by omega) (by omega)
  have hbs : spRun (fun v k => sureN Y v fN k (truths Y)) Y.nv mN = bestS Y fN mN := rfl
  rw [hbs] at eb
  generalize hbb : bestS Y fN mN = B at eb
  have n4 := hm4.next
  have u4 := hm4.up
  have f4 := hm4.floor
  simp only [rn0, rn1, rn2, rn3, rn4, rn5, rn6, rn7, rn8, if_true, if_false, Nat.le_refl, true_and, and_true, decide_true, decide_false, Bool.not_true, Bool.not_false, reduceIte, Nat.reduceEqDiff, Nat.reduceAdd, Nat.reduceMul, Nat.reduceSub, Nat.reduceLeDiff, Nat.reduceLT, w3, eg, a1, ef, a2, and_self, hx3.row.ld, Nat.zero_add, List.getElem?_cons_zero, List.getElem?_cons_succ, Cells.len htr3, hl, Cells.len hrw, hv0', eb, ex0, ex1]
  refine step_new (vs := arr4 B.1) (by omega) (by omega) rfl (by simp only [rn0, rn1, rn2, rn3, rn4, rn5, rn6, rn7, rn8, if_true, if_false, Nat.le_refl, true_and, and_true, decide_true, decide_false, Bool.not_true, Bool.not_false, reduceIte, Nat.reduceEqDiff, Nat.reduceAdd, Nat.reduceMul, Nat.reduceSub, Nat.reduceLeDiff, Nat.reduceLT]; rfl) arr4_one arr4_len rfl fun g5 hx5 => ?_
  have n5 := hx5.next
  have f5 := hx5.floor
  have r35 : Row g5 g2.next [F, V, S, tv] := (hx3.row.mono hm4.sub).mono hx5.sub
  have hrw5 := (Cells.mono hrw hm4.sub).mono hx5.sub
  have hin : Ints g5 (.slice (some ⟨g4.next, 0, none⟩) Y.nv 4) Y.nv B.1 := ⟨_, _, rfl, fun x e => by cases e; rfl, .inr ⟨_, 0, _, _, _, rfl, hx5.get, fun k j hk hj => by
    obtain rfl : j = 0 := by omega
    unfold arr4
    rw [List.getElem?_map, List.getElem?_range (by omega), show 0 + k * 1 + 0 = k by omega]; rfl⟩⟩
  obtain ⟨cv, g6, ec, hci, hcm, hc1, hcb⟩ := clone_c (n := n) (h := g5) (by omega) (by omega) hin (by omega)
  have n6 := hcm.next
  have u6 := hcm.up
  have f6 := hcm.floor
  simp only [rn0, rn1, rn2, rn3, rn4, rn5, rn6, rn7, rn8, if_true, if_false, Nat.le_refl, true_and, and_true, decide_true, decide_false, Bool.not_true, Bool.not_false, reduceIte, Nat.reduceEqDiff, Nat.reduceAdd, Nat.reduceMul, Nat.reduceSub, Nat.reduceLeDiff, Nat.reduceLT, r35.ld, Nat.zero_add, List.getElem?_cons_zero, List.getElem?_cons_succ, Cells.len hrw5, sliceArr4 (h := g5) (b := g4.next) (m := Y.nv) (by omega), ec, ret_ttt, x_sliceArr, Option.map_none, Option.map_some]
  refine ⟨⟨hs3.trans (hm4.sub.trans (hx5.sub.trans hcm.sub)), by omega, by omega, by omega⟩, .inr ⟨by rw [hres, hE], cv, ?_, ?_, hc1, fun a k c e => by have := hcb a k c e; omega⟩⟩
  · simp only [Int.toNat_natCast, hbb]
  · simp only [Int.toNat_natCast, hbb]; exact hci
end Go.Vm.Vat

namespace Go.Vm.Vat
open Go.Proofs
set_option linter.unusedSimpArgs false
set_option linter.unusedVariables false
set_option maxRecDepth 10000
variable {n : Nat} {h : AHeap}
/-- what ProveSpread asks -/
def IsSpread (Y : MY) (field : Int) (np : Nat) (p : Nat → Int) (least : Int) : Prop :=
  faultN Y = 0 ∧ truths Y ≠ [] ∧ 0 < Y.nv ∧ (0 ≤ field ∧ field ≤ (Y.nf : Int) - 1) ∧ np = Y.nv ∧ (∀ v, v < np → 0 ≤ p v ∧ p v ≤ 9) ∧ ∀ v, v < np → least ≤ sureN Y v field.toNat (p v).toNat (truths Y)
def s49 : SCode := (.seq (.ops [⟨(some 4), none, .box (T 0)⟩, ⟨(some 8), none, .mov (.const (.bool false))⟩]) (.seq (.ops [⟨(some 13), none, .loadN 3 (T 4)⟩, ⟨(some 14), none, .call (.func 89) [(T 13)]⟩, ⟨(some 12), none, .mov (T 14)⟩, ⟨(some 15), none, .extract 0 (T 12)⟩, ⟨(some 16), none, .extract 1 (T 12)⟩, ⟨(some 9), none, .alloc [(.slice none 0 0), (.slice none 0 0), (.slice none 0 0), (.slice none 0 0)]⟩, ⟨none, none, .store 4 (T 9) (T 15)⟩, ⟨(some 10), none, .mov (T 16)⟩]) (.seq (.seq (.ops [⟨(some 17), none, .mov (T 10)⟩, ⟨(some 18), none, .int2 .neq (T 17) (.const (.int .i64 (0)))⟩, ⟨(some 19), none, .mov (T 18)⟩, ⟨(some 20), (some (19, false)), .fieldAddr 0 (T 9)⟩, ⟨(some 21), (some (19, false)), .fieldAddr 1 (T 20)⟩, ⟨(some 22), (some (19, false)), .load1 (T 21)⟩, ⟨(some 23), (some (19, false)), .len (T 22)⟩, ⟨(some 24), (some (19, false)), .int2 .eql (T 23) (.const (.int .i64 (0)))⟩, ⟨(some 25), none, .pick (T 19) (.const (.bool true)) (T 24)⟩, ⟨(some 26), none, .mov (T 25)⟩, ⟨(some 27), (some (26, false)), .loadN 4 (T 9)⟩, ⟨(some 28), (some (26, false)), .mov (T 1)⟩, ⟨(some 29), (some (26, false)), .call (.func 98) [(T 27), (T 28)]⟩, ⟨(some 30), (some (26, false)), .not (T 29)⟩, ⟨(some 31), none, .pick (T 26) (.const (.bool true)) (T 30)⟩]) (.cond (T 31) (.seq (.ops [⟨(some 8), none, .mov (.const (.bool false))⟩]) .ret) .skip)) (.seq (.seq (.ops [⟨(some 32), none, .mov (T 2)⟩, ⟨(some 33), none, .len (T 32)⟩, ⟨(some 34), none, .fieldAddr 0 (T 9)⟩, ⟨(some 35), none, .fieldAddr 1 (T 34)⟩, ⟨(some 36), none, .load1 (T 35)⟩, ⟨(some 37), none, .len (T 36)⟩, ⟨(some 38), none, .int2 .neq (T 33) (T 37)⟩, ⟨(some 39), none, .mov (T 38)⟩, ⟨(some 40), (some (39, false)), .mov (T 2)⟩, ⟨(some 41), (some (39, false)), .call (.func 103) [(T 40), (.func 100)]⟩, ⟨(some 42), (some (39, false)), .not (T 41)⟩, ⟨(some 43), none, .pick (T 39) (.const (.bool true)) (T 42)⟩]) (.cond (T 43) (.seq (.ops [⟨(some 8), none, .mov (.const (.bool false))⟩]) .ret) .skip)) (.seq (.seq (.ops [⟨(some 44), none, .fieldAddr 0 (T 9)⟩, ⟨(some 45), none, .fieldAddr 1 (T 44)⟩, ⟨(some 46), none, .load1 (T 45)⟩, ⟨(some 47), none, .len (T 46)⟩, ⟨(some 48), none, .mov (.const (.int .i64 (0)))⟩]) (.block 0 (.loop (.seq (.ops [⟨(some 49), none, .int2 .lss (T 48) (T 47)⟩]) (.seq (.cond (T 49) .skip (.exit 0)) (.seq (.block 1 (.seq (.ops [⟨(some 50), none, .mov (T 48)⟩, ⟨(some 11), none, .mov (T 50)⟩]) (.seq (.draw [⟨.rd1, ⟨(some 51), none, .loadN 4 (T 9)⟩⟩, ⟨.free, ⟨(some 52), none, .mov (T 11)⟩⟩, ⟨.free, ⟨(some 53), none, .mov (T 1)⟩⟩, ⟨.free, ⟨(some 54), none, .mov (T 2)⟩⟩, ⟨.free, ⟨(some 55), none, .mov (T 11)⟩⟩, ⟨.free, ⟨(some 56), none, .idxSl 1 (T 54) (T 55)⟩⟩, ⟨.rd1, ⟨(some 57), none, .load1 (T 56)⟩⟩, ⟨.any, ⟨(some 58), none, .call (.func 99) [(T 51), (T 52), (T 53), (T 57)]⟩⟩, ⟨.free, ⟨(some 59), none, .mov (T 3)⟩⟩, ⟨.free, ⟨(some 60), none, .int2 .lss (T 58) (T 59)⟩⟩]) (.cond (T 60) (.seq (.ops [⟨(some 8), none, .mov (.const (.bool false))⟩]) .ret) .skip)))) (.ops [⟨(some 61), none, .int2 .add (T 48) (.const (.int .i64 (1)))⟩, ⟨(some 48), none, .mov (T 61)⟩]))))))) (.seq (.ops [⟨(some 8), none, .mov (.const (.bool true))⟩]) .ret))))))
theorem fok49 : FnOk Try.prog 49 62 s49 [.tmp 8] := ⟨Try.f49, _, Try.func49, rfl, Try.ntmps49, by kernel_rfl, by kernel_rfl⟩
open Classical in
theorem proveSpread_c (hn : 10070 ≤ n) (hr : h.next + 500000 < far) {F V S vp : Value} {Y : MY} {np : Nat} {p : Nat → Int} (hy : YardR h F V S Y) (hY : Thin Y) (hp : Ints h vp np p) (hnp : np ≤ 30) (field least : Int) :
    call n (.func (.func 49) #[] #[]) [.agg ⟨[F, V, S]⟩, .int .i64 field, vp, .int .i64 least] h = some (.bool (decide (IsSpread Y field np p least)), h) := by
  obtain ⟨n, rfl⟩ : ∃ p, n = p + 1 := ⟨n - 1, by omega⟩
  refine call_plain0 fok49 rfl rfl (by simp) rfl ?_
  have hy := hy.shut
  have hp := Cells.shut hp
  have hr : h.shutAll.next + 500000 < far := hr
  have hfl : h.shutAll.floor ≤ h.shutAll.next := Nat.le_refl _
  generalize h.shutAll = h at hy hp hr hfl
  generalize hres : decide (IsSpread Y field np p least) = res
  have no : ¬ IsSpread Y field np p least → res = false := fun hx => by rw [← hres]; exact decide_eq_false hx
  have yes : IsSpread Y field np p least → res = true := fun hx => by rw [← hres]; exact decide_eq_true hx
  clear hres
  simp only [s49, W_seq, W_ops]
  refine ops_box (cs := [F, V, S]) (by omega) rfl hy.one fun g1 hx1 => ?_
  have n1 := hx1.next
  have f1 := hx1.floor
  have w1 := hx1.row.whole (n := 3) rfl
  obtain ⟨v, g2, eo, hm, ho⟩ := openTrue_c (n := n) (h := g1) (by omega) (by omega) (by omega) (hy.mono hx1.sub) hY
  have n2 := hm.next
  have u2 := hm.up
  have f2 := hm.floor
  rcases ho with ⟨hf, rfl⟩ | ⟨hf, he, rfl⟩ | ⟨hf, he, tv, rfl, htr, hlong⟩
  · rw [no fun hx => hf hx.1]
    simp only [rn0, rn1, rn2, rn3, rn4, rn5, rn6, rn7, rn8, if_true, if_false, Nat.le_refl, true_and, and_true, decide_true, decide_false, Bool.not_true, Bool.not_false, reduceIte, Nat.reduceEqDiff, Nat.reduceAdd, Nat.reduceMul, Nat.reduceSub, Nat.reduceLeDiff, Nat.reduceLT, w1, eo, ex0, ex1]
    refine step_new (vs := [nilS, nilS, nilS, nilS]) (by omega) (by omega) rfl (by simp only [rn0, rn1, rn2, rn3, rn4, rn5, rn6, rn7, rn8, if_true, if_false, Nat.le_refl, true_and, and_true, decide_true, decide_false, Bool.not_true, Bool.not_false, reduceIte, Nat.reduceEqDiff, Nat.reduceAdd, Nat.reduceMul, Nat.reduceSub, Nat.reduceLeDiff, Nat.reduceLT]; rfl) rfl rfl rfl fun g3 hx3 => ?_
    simp only [rn0, rn1, rn2, rn3, rn4, rn5, rn6, rn7, rn8, if_true, if_false, Nat.le_refl, true_and, and_true, decide_true, decide_false, Bool.not_true, Bool.not_false, reduceIte, Nat.reduceEqDiff, Nat.reduceAdd, Nat.reduceMul, Nat.reduceSub, Nat.reduceLeDiff, Nat.reduceLT, hf]
  · rw [no fun hx => hx.2.1 he]
    simp only [rn0, rn1, rn2, rn3, rn4, rn5, rn6, rn7, rn8, if_true, if_false, Nat.le_refl, true_and, and_true, decide_true, decide_false, Bool.not_true, Bool.not_false, reduceIte, Nat.reduceEqDiff, Nat.reduceAdd, Nat.reduceMul, Nat.reduceSub, Nat.reduceLeDiff, Nat.reduceLT, w1, eo, ex0, ex1]
    refine step_new (vs := [nilS, nilS, nilS, nilS]) (by omega) (by omega) rfl (by simp only [rn0, rn1, rn2, rn3, rn4, rn5, rn6, rn7, rn8, if_true, if_false, Nat.le_refl, true_and, and_true, decide_true, decide_false, Bool.not_true, Bool.not_false, reduceIte, Nat.reduceEqDiff, Nat.reduceAdd, Nat.reduceMul, Nat.reduceSub, Nat.reduceLeDiff, Nat.reduceLT]; rfl) rfl rfl rfl fun g3 hx3 => ?_
    simp only [rn0, rn1, rn2, rn3, rn4, rn5, rn6, rn7, rn8, if_true, if_false, Nat.le_refl, true_and, and_true, decide_true, decide_false, Bool.not_true, Bool.not_false, reduceIte, Nat.reduceEqDiff, Nat.reduceAdd, Nat.reduceMul, Nat.reduceSub, Nat.reduceLeDiff, Nat.reduceLT, hf, Int.reduceEq]
  have hG := good_of hf
  obtain ⟨z1, z2, z3⟩ := hG.sz
  have ho4 : allB oneCell [F, V, S, tv] = true := by have h1 := hy.one; have h2 := Cells.one htr; simp [allB] at h1 ⊢; simp [h1, h2]
  simp only [rn0, rn1, rn2, rn3, rn4, rn5, rn6, rn7, rn8, if_true, if_false, Nat.le_refl, true_and, and_true, decide_true, decide_false, Bool.not_true, Bool.not_false, reduceIte, Nat.reduceEqDiff, Nat.reduceAdd, Nat.reduceMul, Nat.reduceSub, Nat.reduceLeDiff, Nat.reduceLT, w1, eo, ex0, ex1, hf]
  refine step_new (vs := [F, V, S, tv]) (by omega) (by omega) rfl (by simp only [rn0, rn1, rn2, rn3, rn4, rn5, rn6, rn7, rn8, if_true, if_false, Nat.le_refl, true_and, and_true, decide_true, decide_false, Bool.not_true, Bool.not_false, reduceIte, Nat.reduceEqDiff, Nat.reduceAdd, Nat.reduceMul, Nat.reduceSub, Nat.reduceLeDiff, Nat.reduceLT]; rfl) ho4 rfl rfl fun g3 hx3 => ?_
  have n3 := hx3.next
  have f3 := hx3.floor
  have hs3 : Sub All h g3 := hx1.sub.trans (hm.sub.trans hx3.sub)
  have hy3 := hy.mono hs3
  have hp3 : Ints g3 vp np p := Cells.mono hp hs3
  have w3 := hx3.row.whole (n := 4) rfl
  have htr3 : TruthsR g3 tv (truths Y) := Cells.mono htr hx3.sub
  obtain ⟨rr, hrw, hq⟩ := hy3.v
  have eg := hasField_c (n := n) (h := g3) (by omega) (by omega) hy3.f ho4 field
  by_cases hv0 : Y.nv = 0
  · rw [no fun hx => by have := hx.2.2.1; omega]
    simp only [rn0, rn1, rn2, rn3, rn4, rn5, rn6, rn7, rn8, if_true, if_false, Nat.le_refl, true_and, and_true, decide_true, decide_false, Bool.not_true, Bool.not_false, reduceIte, Nat.reduceEqDiff, Nat.reduceAdd, Nat.reduceMul, Nat.reduceSub, Nat.reduceLeDiff, Nat.reduceLT, hx3.row.ld, Nat.zero_add, List.getElem?_cons_zero, List.getElem?_cons_succ, Cells.len hrw, hv0, Int.natCast_zero]
  have hv0' : ¬ (Y.nv : Int) = 0 := by omega
  by_cases a1 : 0 ≤ field ∧ field ≤ (Y.nf : Int) - 1
  case neg =>
    rw [no fun hx => a1 hx.2.2.2.1]
    simp only [rn0, rn1, rn2, rn3, rn4, rn5, rn6, rn7, rn8, if_true, if_false, Nat.le_refl, true_and, and_true, decide_true, decide_false, Bool.not_true, Bool.not_false, reduceIte, Nat.reduceEqDiff, Nat.reduceAdd, Nat.reduceMul, Nat.reduceSub, Nat.reduceLeDiff, Nat.reduceLT, w3, hx3.row.ld, Nat.zero_add, List.getElem?_cons_zero, List.getElem?_cons_succ, Cells.len hrw, hv0', eg, a1]
  by_cases a2 : np = Y.nv
  case neg =>
    rw [no fun hx => a2 hx.2.2.2.2.1]
    have a2' : ¬ (np : Int) = (Y.nv : Int) := by omega
    simp only [rn0, rn1, rn2, rn3, rn4, rn5, rn6, rn7, rn8, if_true, if_false, Nat.le_refl, true_and, and_true, decide_true, decide_false, Bool.not_true, Bool.not_false, reduceIte, Nat.reduceEqDiff, Nat.reduceAdd, Nat.reduceMul, Nat.reduceSub, Nat.reduceLeDiff, Nat.reduceLT, w3, hx3.row.ld, Nat.zero_add, List.getElem?_cons_zero, List.getElem?_cons_succ, Cells.len hrw, hv0', eg, a1, Cells.len hp3, a2', and_self]
  subst a2
  have ee := everyInt_c (n := n) (h := g3) (ok := .func (.func 100) #[] #[]) (p := fun i => 0 ≤ p i ∧ p i ≤ 9) (by omega) hp3 (by omega) fun g _ _ i hi => ⟨decide (0 ≤ p i ∧ p i ≤ 9), by simp, isFurther_c (by omega) (p i)⟩
  by_cases a3 : ∀ i, i < Y.nv → 0 ≤ p i ∧ p i ≤ 9
  case neg =>
    rw [no fun hx => a3 hx.2.2.2.2.2.1]
    rw [@decide_eq_false _ (_) a3] at ee
    simp only [rn0, rn1, rn2, rn3, rn4, rn5, rn6, rn7, rn8, if_true, if_false, Nat.le_refl, true_and, and_true, decide_true, decide_false, Bool.not_true, Bool.not_false, reduceIte, Nat.reduceEqDiff, Nat.reduceAdd, Nat.reduceMul, Nat.reduceSub, Nat.reduceLeDiff, Nat.reduceLT, w3, hx3.row.ld, Nat.zero_add, List.getElem?_cons_zero, List.getElem?_cons_succ, Cells.len hrw, hv0', eg, a1, Cells.len hp3, ee, and_self]
  rw [@decide_eq_true _ (_) a3] at ee
  obtain ⟨fN, rfl⟩ : ∃ k : Nat, field = k := ⟨field.toNat, by omega⟩
  have hpv : ∀ v, v < Y.nv → p v = (((p v).toNat : Nat) : Int) := fun v hv => by have := a3 v hv; omega
  have esure : ∀ v, v < Y.nv → call n (.func (.func 99) #[] #[]) [.agg ⟨[F, V, S, tv]⟩, .int .i64 (v : Int), .int .i64 (fN : Int), .int .i64 (p v)] g3 = some (.int .i64 (sureN Y v fN (p v).toNat (truths Y)), g3) := fun v hv => by
    have e := hpv v hv
    have hb := a3 v hv
    generalize (p v).toNat = x at e
    rw [e]
    exact sureBlue_c (n := n) (h := g3) (by omega) (by omega) hy3 hf he htr3 hlong hv (by omega) (by omega)
  simp only [rn0, rn1, rn2, rn3, rn4, rn5, rn6, rn7, rn8, if_true, if_false, Nat.le_refl, true_and, and_true, decide_true, decide_false, Bool.not_true, Bool.not_false, reduceIte, Nat.reduceEqDiff, Nat.reduceAdd, Nat.reduceMul, Nat.reduceSub, Nat.reduceLeDiff, Nat.reduceLT, w3, hx3.row.ld, Nat.zero_add, List.getElem?_cons_zero, List.getElem?_cons_succ, Cells.len hrw, hv0', eg, a1, Cells.len hp3, ee, and_self]
  refine W_loop Y.nv (fun k f g ms => g = g3 ∧ ms = [] ∧ f 1 = .int .i64 (fN : Int) ∧ f 2 = vp ∧ f 3 = .int .i64 least ∧ f 9 = .pointer (some ⟨g2.next, 0, none⟩) ∧ f 47 = .int .i64 (Y.nv : Int) ∧ f 48 = .int .i64 (k : Int) ∧ ∀ v, v < k → least ≤ sureN Y v fN (p v).toNat (truths Y)) (by simp; omega) ?_ ?_ ?_
  · simp only [rn0, rn1, rn2, rn3, rn4, rn5, rn6, rn7, rn8, if_true, if_false, Nat.le_refl, true_and, and_true, decide_true, decide_false, Bool.not_true, Bool.not_false, reduceIte, Nat.reduceEqDiff, Nat.reduceAdd, Nat.reduceMul, Nat.reduceSub, Nat.reduceLeDiff, Nat.reduceLT, Nat.not_lt_zero, false_implies, implies_true]
    trivial
  · rintro k f g ms hk ⟨rfl, rfl, q1, q2, q3, q9, q47, q48, hlt⟩
    have hk' : (k : Int) < (Y.nv : Int) := by omega
    have hw : wrapF .i64 ((k : Int) + 1) = ((k + 1 : Nat) : Int) := by rw [wrap_in (by omega) (by omega)]; rfl
    simp only [rn0, rn1, rn2, rn3, rn4, rn5, rn6, rn7, rn8, if_true, if_false, Nat.le_refl, true_and, and_true, decide_true, decide_false, Bool.not_true, Bool.not_false, reduceIte, Nat.reduceEqDiff, Nat.reduceAdd, Nat.reduceMul, Nat.reduceSub, Nat.reduceLeDiff, Nat.reduceLT, q1, q2, q3, q9, q47, q48, hk']
    refine W_draw All ?_
    by_cases hle : sureN Y k fN (p k).toNat (truths Y) < least
    · rw [no fun hx => by have h2 := hx.2.2.2.2.2.2 k hk; rw [Int.toNat_natCast] at h2; omega]
      simp only [rn0, rn1, rn2, rn3, rn4, rn5, rn6, rn7, rn8, if_true, if_false, Nat.le_refl, true_and, and_true, decide_true, decide_false, Bool.not_true, Bool.not_false, reduceIte, Nat.reduceEqDiff, Nat.reduceAdd, Nat.reduceMul, Nat.reduceSub, Nat.reduceLeDiff, Nat.reduceLT, q1, q2, q3, q9, q47, q48, w3, Cells.idx hp3 hk, Cells.ld hp3 hk Nat.zero_lt_one, esure k hk, hle]
    · simp only [rn0, rn1, rn2, rn3, rn4, rn5, rn6, rn7, rn8, if_true, if_false, Nat.le_refl, true_and, and_true, decide_true, decide_false, Bool.not_true, Bool.not_false, reduceIte, Nat.reduceEqDiff, Nat.reduceAdd, Nat.reduceMul, Nat.reduceSub, Nat.reduceLeDiff, Nat.reduceLT, q1, q2, q3, q9, q47, q48, w3, Cells.idx hp3 hk, Cells.ld hp3 hk Nat.zero_lt_one, esure k hk, hle, hw]
      intro v hv
      by_cases e : v = k
      · subst e; omega
      · exact hlt v (by omega)
  · rintro f g ms ⟨rfl, rfl, q1, q2, q3, q9, q47, q48, hlt⟩
    rw [yes ⟨hf, he, by omega, a1, rfl, a3, fun v hv => by rw [Int.toNat_natCast]; exact hlt v hv⟩]
    simp only [rn0, rn1, rn2, rn3, rn4, rn5, rn6, rn7, rn8, if_true, if_false, Nat.le_refl, true_and, and_true, decide_true, decide_false, Bool.not_true, Bool.not_false, reduceIte, Nat.reduceEqDiff, Nat.reduceAdd, Nat.reduceMul, Nat.reduceSub, Nat.reduceLeDiff, Nat.reduceLT, q1, q2, q3, q9, q47, q48, Int.lt_irrefl]
end Go.Vm.Vat

namespace Go.Vm.Vat
open Go.Proofs
set_option linter.unusedSimpArgs false
set_option linter.unusedVariables false
set_option maxRecDepth 10000
variable {n : Nat} {h : AHeap}
/-! ### Lists in order -/
/-- lexicographically before, both as long -/
def LexLt (a b : Nat → Int) (m : Nat) : Prop := ∃ j, j < m ∧ (∀ i, i < j → a i = b i) ∧ a j < b j
noncomputable instance (a b : Nat → Int) (m : Nat) : Decidable (LexLt a b m) := Classical.propDecidable _
/-- shorter, or as long and before it -/
def Shortlex (a : Nat → Int) (m : Nat) (b : Nat → Int) (k : Nat) : Prop := m < k ∨ m = k ∧ LexLt a b m
noncomputable instance (a : Nat → Int) (m : Nat) (b : Nat → Int) (k : Nat) : Decidable (Shortlex a m b k) := Classical.propDecidable _
end Go.Vm.Vat

namespace Go.Vm.Vat
open Go.Proofs
set_option linter.unusedSimpArgs false
set_option linter.unusedVariables false
set_option maxRecDepth 10000
variable {n : Nat} {h : AHeap}
/-- a list as a function -/
def atL (l : List Int) (i : Nat) : Int := l.getD i 0
/-- what lies in memory meanwhile -/
structure JL (h2 : AHeap) (p : Nat) (s : List Int) (g : AHeap) : Prop where
  old : ∀ i, i < h2.next → i ≠ p + 2 → g.get i = h2.get i
  lst : ∃ v, g.get (p + 2) = some (.row [v] true 0) ∧ Ints g v s.length (atL s) ∧ oneCell v = true ∧ ∀ a k c, v = .slice (some a) k c → a.block = p + 1 ∨ (h2.next + 3 ≤ a.block ∧ a.block < g.next)
  short : s.length ≤ 5
  up : h2.next + 3 ≤ g.next
end Go.Vm.Vat

namespace Go.Vm
variable {P : Program} {N : Nat} {f : Fr} {h : AHeap} {ty t u : TypeId} {x y : Operand}
end Go.Vm
namespace Go.Vm.Vat
open Go.Proofs
set_option linter.unusedSimpArgs false
set_option linter.unusedVariables false
set_option maxRecDepth 10000
variable {n : Nat} {h : AHeap}
end Go.Vm.Vat

namespace Go.Vm.Vat
open Go.Proofs
set_option linter.unusedSimpArgs false
set_option linter.unusedVariables false
set_option maxRecDepth 10000
variable {n : Nat} {h : AHeap}
end Go.Vm.Vat

namespace Go.Vm
variable {P : Program} {N : Nat} {f : Fr} {h : AHeap}
theorem g_un {X : Cx} {Q : WPost} {f : Fr} {h : AHeap} {m : List Nat} {w : Bool} {d : Option Nat} {op : SOp} {L : List SI} : gW X undef w d op L Q f h m = opsW X L Q (putF f d undef) h m := by simp [gW, isB, undef]
end Go.Vm
namespace Go.Vm.Vat
open Go.Proofs
set_option linter.unusedSimpArgs false
set_option linter.unusedVariables false
set_option maxRecDepth 10000
variable {n : Nat} {h : AHeap}
theorem lex_irr {a : Nat → Int} {m : Nat} : ¬ LexLt a a m := fun ⟨j, _, _, h⟩ => by omega
theorem lex_trans {a b c : Nat → Int} {m : Nat} (h1 : LexLt a b m) (h2 : LexLt b c m) : LexLt a c m := by
  obtain ⟨i, i1, i2, i3⟩ := h1
  obtain ⟨j, j1, j2, j3⟩ := h2
  by_cases e : i < j
  · exact ⟨i, i1, fun x hx => by rw [i2 x hx, j2 x (by omega)], by rw [← j2 i e]; exact i3⟩
  · by_cases e2 : i = j
    · subst e2; exact ⟨i, i1, fun x hx => by rw [i2 x hx, j2 x hx], by omega⟩
    · exact ⟨j, j1, fun x hx => by rw [i2 x (by omega), j2 x hx], by rw [i2 j (by omega)]; exact j3⟩
end Go.Vm.Vat

namespace Go.Vm.Vat
open Go.Proofs
set_option linter.unusedSimpArgs false
set_option linter.unusedVariables false
set_option maxRecDepth 10000
variable {n : Nat} {h : AHeap}
/-! ### What the best spread is -/
def sumF (x : Nat → Int) : Nat → Nat → Int
  | _, 0 => 0
  | i, d + 1 => x i + sumF x (i + 1) d
theorem sumF_nonneg {x : Nat → Int} : ∀ (d i : Nat), (∀ j, i ≤ j → j < i + d → 0 ≤ x j) → 0 ≤ sumF x i d
  | 0, _, _ => by simp [sumF]
  | d + 1, i, h => by
    simp only [sumF]
    have h1 := h i (by omega) (by omega)
    have h2 := sumF_nonneg d (i + 1) fun j h1 h2 => h j (by omega) (by omega)
    omega
theorem sumF_le {x : Nat → Int} : ∀ (d i k : Nat), (∀ j, i ≤ j → j < i + d → 0 ≤ x j) → i ≤ k → k < i + d → x k ≤ sumF x i d
  | 0, _, _, _, _, _ => by omega
  | d + 1, i, k, h, h1, h2 => by
    simp only [sumF]
    have h3 := sumF_nonneg d (i + 1) fun j h1 h2 => h j (by omega) (by omega)
    by_cases e : k = i
    · subst e; omega
    · have h4 := sumF_le d (i + 1) k (fun j h1 h2 => h j (by omega) (by omega)) (by omega) (by omega)
      have h5 := h i (by omega) (by omega)
      omega
theorem enumS_mem : ∀ (d i r : Nat) (c x : Nat → Int), x ∈ enumS d i r c ↔ ((∀ j, j < i ∨ i + d < j → x j = c j) ∧ (∀ j, i ≤ j → j ≤ i + d → 0 ≤ x j) ∧ sumF x i (d + 1) = (r : Int))
  | 0, i, r, c, x => by
    simp only [enumS, List.mem_singleton, sumF]
    constructor
    · rintro rfl
      refine ⟨fun j hj => ?_, fun j h1 h2 => ?_, ?_⟩
      · have e : ¬ j = i := by omega
        simp [e]
      · have e : j = i := by omega
        simp [e]
      · simp
    · rintro ⟨h1, h2, h3⟩
      funext j
      by_cases e : j = i
      · subst e; simp; omega
      · simp only [e, if_false]; exact h1 j (by omega)
  | d + 1, i, r, c, x => by
    simp only [enumS, List.mem_flatMap, List.mem_range]
    constructor
    · rintro ⟨k, hk, hx⟩
      obtain ⟨h1, h2, h3⟩ := (enumS_mem d (i + 1) (r - k) _ x).1 hx
      have hxi : x i = (k : Int) := by have := h1 i (by omega); simpa using this
      refine ⟨fun j hj => ?_, fun j a1 a2 => ?_, ?_⟩
      · have := h1 j (by omega)
        have e : ¬ j = i := by omega
        simpa [e] using this
      · by_cases e : j = i
        · subst e; omega
        · exact h2 j (by omega) (by omega)
      · simp only [sumF] at h3 ⊢; omega
    · rintro ⟨h1, h2, h3⟩
      have h4 : sumF x i (d + 1 + 1) = x i + sumF x (i + 1) (d + 1) := rfl
      have h5 := h2 i (by omega) (by omega)
      have h6 := sumF_nonneg (x := x) (d + 1) (i + 1) fun j a1 a2 => h2 j (by omega) (by omega)
      refine ⟨(x i).toNat, by omega, (enumS_mem d (i + 1) _ _ x).2 ⟨fun j hj => ?_, fun j a1 a2 => h2 j (by omega) (by omega), by omega⟩⟩
      by_cases e : j = i
      · subst e; simp; omega
      · simp only [e, if_false]; exact h1 j (by omega)
theorem enumS_sorted : ∀ (d i r : Nat) (c : Nat → Int), (enumS d i r c).Pairwise fun a b => LexLt a b (i + d + 1)
  | 0, _, _, _ => by simp [enumS]
  | d + 1, i, r, c => by
    simp only [enumS]
    rw [List.pairwise_flatMap]
    refine ⟨fun k _ => ?_, ?_⟩
    · have := enumS_sorted d (i + 1) (r - k) fun j => if j = i then (k : Int) else c j
      rw [show i + (d + 1) + 1 = i + 1 + d + 1 by omega]
      exact this
    · refine List.Pairwise.imp (R := fun a b : Nat => a < b) (fun {a b} hab x hx y hy => ?_) List.pairwise_lt_range
      obtain ⟨h1, _, _⟩ := (enumS_mem _ _ _ _ _).1 hx
      obtain ⟨h2, _, _⟩ := (enumS_mem _ _ _ _ _).1 hy
      refine ⟨i, by omega, fun j hj => ?_, ?_⟩
      · have e : ¬ j = i := by omega
        rw [h1 j (by omega), h2 j (by omega)]; simp [e]
      · have e1 := h1 i (by omega)
        have e2 := h2 i (by omega)
        simp only [if_true] at e1 e2
        omega
theorem spStep_go {S : Nat → Nat → Int} {nv : Nat} {s : (Nat → Int) × Int} {c : Nat → Int} : (spStep S nv s c).2 = true := rfl
theorem run_sp {S : Nat → Nat → Int} {nv : Nat} : ∀ (L : List (Nat → Int)) (s : (Nat → Int) × Int),
    ((runL (spStep S nv) s L).1 = s ∧ ∀ c, c ∈ L → lowS S nv c ≤ s.2) ∨
      ∃ l1 b l2, L = l1 ++ b :: l2 ∧ (runL (spStep S nv) s L).1 = (b, lowS S nv b) ∧ s.2 < lowS S nv b ∧ (∀ c, c ∈ l1 → lowS S nv c < lowS S nv b) ∧ ∀ c, c ∈ l2 → lowS S nv c ≤ lowS S nv b
  | [], s => .inl ⟨rfl, fun c hc => by simp at hc⟩
  | x :: L, s => by
    have hr : runL (spStep S nv) s (x :: L) = runL (spStep S nv) (spStep S nv s x).1 L := by simp [runL, spStep_go]
    rw [hr]
    by_cases hx : s.2 < lowS S nv x
    · have hs : (spStep S nv s x).1 = (x, lowS S nv x) := by unfold spStep; rw [if_pos hx]
      rw [hs]
      rcases run_sp L (x, lowS S nv x) with ⟨e, hc⟩ | ⟨l1, b, l2, e, e2, h1, h2, h3⟩
      · exact .inr ⟨[], x, L, rfl, e, hx, fun c hc => by simp at hc, hc⟩
      · have h1 : lowS S nv x < lowS S nv b := h1
        refine .inr ⟨x :: l1, b, l2, by rw [e]; rfl, e2, by omega, fun c hc => ?_, h3⟩
        rcases List.mem_cons.1 hc with rfl | hc
        · exact h1
        · exact h2 c hc
    · have hs : (spStep S nv s x).1 = s := by unfold spStep; rw [if_neg hx]
      rw [hs]
      rcases run_sp L s with ⟨e, hc⟩ | ⟨l1, b, l2, e, e2, h1, h2, h3⟩
      · refine .inl ⟨e, fun c hcm => ?_⟩
        rcases List.mem_cons.1 hcm with rfl | hcm
        · omega
        · exact hc c hcm
      · refine .inr ⟨x :: l1, b, l2, by rw [e]; rfl, e2, h1, fun c hc => ?_, h3⟩
        rcases List.mem_cons.1 hc with rfl | hc
        · omega
        · exact h2 c hc
theorem le_lowS {S : Nat → Nat → Int} {nv : Nat} (hv : 0 < nv) {c : Nat → Int} {b : Int} : b ≤ lowS S nv c ↔ ∀ v, v < nv → b ≤ S v (c v).toNat := by
  unfold lowS
  rw [le_minN]
  exact ⟨fun h => h.2, fun h => ⟨h 0 hv, h⟩⟩
/-- a spread of so many bundles -/
def IsPut (nv many : Nat) (c : Nat → Int) : Prop := (∀ j, nv ≤ j → c j = 0) ∧ (∀ j, j < nv → 0 ≤ c j) ∧ sumF c 0 nv = (many : Int)
theorem put_mem {nv many : Nat} (hv : 0 < nv) {c : Nat → Int} : c ∈ enumS (nv - 1) 0 many (fun _ => 0) ↔ IsPut nv many c := by
  rw [enumS_mem, show nv - 1 + 1 = nv by omega]
  exact ⟨fun ⟨a, b, e⟩ => ⟨fun j hj => a j (by omega), fun j hj => b j (by omega) (by omega), e⟩, fun ⟨a, b, e⟩ => ⟨fun j hj => a j (by omega), fun j _ hj => b j (by omega), e⟩⟩
theorem first_put {nv many : Nat} (hv : 0 < nv) : IsPut nv many fun j => if j = 0 then (many : Int) else 0 := by
  have h0 : ∀ d i, 0 < i → sumF (fun j => if j = 0 then (many : Int) else 0) i d = 0 := by
    intro d
    induction d with
    | zero => intro i _; rfl
    | succ d ih => intro i hi; simp only [sumF]; rw [ih (i + 1) (by omega), if_neg (by omega)]; rfl
  refine ⟨fun j hj => ?_, fun j hj => ?_, ?_⟩
  · have e : ¬ j = 0 := by omega
    simp [e]
  · by_cases e : j = 0 <;> simp [e]
  · obtain ⟨k, rfl⟩ : ∃ k, nv = k + 1 := ⟨nv - 1, by omega⟩
    simp only [sumF]; rw [h0 k 1 (by omega)]; simp
/-- what the best spread is: it has the greatest least blue; of several with this one it is the first -/
theorem spRun_is {S : Nat → Nat → Int} {nv many : Nat} (hv : 0 < nv) (hS : ∀ v k, v < nv → k ≤ many → 0 ≤ S v k) :
    IsPut nv many (spRun S nv many).1 ∧ (spRun S nv many).2 = lowS S nv (spRun S nv many).1 ∧ (∀ c, IsPut nv many c → lowS S nv c ≤ (spRun S nv many).2) ∧
      ∀ c, IsPut nv many c → lowS S nv c = (spRun S nv many).2 → ¬ LexLt c (spRun S nv many).1 nv := by
  have hle : ∀ c, IsPut nv many c → ∀ v, v < nv → (c v).toNat ≤ many := fun c hc v hv => by
    have h1 := sumF_le nv 0 v (fun j _ h => hc.2.1 j (by omega)) (by omega) (by omega)
    have h2 := hc.2.2
    omega
  have hpos : ∀ c, IsPut nv many c → 0 ≤ lowS S nv c := fun c hc => (le_lowS hv).2 fun v hvv => hS v _ hvv (hle c hc v hvv)
  have hsort := enumS_sorted (nv - 1) 0 many fun _ => 0
  rw [show 0 + (nv - 1) + 1 = nv by omega] at hsort
  unfold spRun
  rcases run_sp (S := S) (nv := nv) (enumS (nv - 1) 0 many fun _ => 0) ((fun _ => 0), -1) with ⟨_, hc⟩ | ⟨l1, b, l2, e, e2, h1, h2, h3⟩
  · have h1 := hc _ ((put_mem hv).2 (first_put hv))
    have h2 := hpos _ (first_put (many := many) hv)
    have h1 : lowS S nv _ ≤ -1 := h1
    omega
  · rw [e2]
    refine ⟨(put_mem hv).1 (by rw [e]; simp), rfl, fun c hc => ?_, fun c hc heq hlt => ?_⟩
    · have hm := (put_mem hv).2 hc
      rw [e, List.mem_append, List.mem_cons] at hm
      rcases hm with hm | rfl | hm
      · have := h2 c hm; show lowS S nv c ≤ lowS S nv b; omega
      · exact Int.le_refl _
      · exact h3 c hm
    · have heq : lowS S nv c = lowS S nv b := heq
      have hm := (put_mem hv).2 hc
      rw [e, List.mem_append, List.mem_cons] at hm
      rw [e, List.pairwise_append] at hsort
      rcases hm with hm | rfl | hm
      · have := h2 c hm; omega
      · exact lex_irr hlt
      · have := (List.pairwise_cons.1 hsort.2.1).1 c hm
        exact lex_irr (lex_trans this hlt)
/-! ### In a yard -/
theorem sureN_pos {Y : MY} (hf : faultN Y = 0) (he : truths Y ≠ []) {v f k : Nat} (hv : v < Y.nv) (hff : f < Y.nf) : 0 ≤ sureN Y v f k (truths Y) := by
  have hG := good_of hf
  obtain ⟨v1, v2⟩ := hG.v v hv
  obtain ⟨z1, z2, z3⟩ := hG.sz
  rw [le_sureN he]
  intro t ht
  have hrg := truths_range hf ht
  have b1 := (blueN_bound (b := t) (q := Y.q v) (n := Y.nf) (by omega) hrg (fun j hj => v2 j (by omega)) Y.nf (Nat.le_refl _)).1
  have m1 : (0 : Int) ≤ (k : Int) * t f := Int.mul_nonneg (by omega) (hrg f hff).1
  unfold blueWith
  omega
end Go.Vm.Vat

namespace Go.Vm.Vat
open Go.Proofs
set_option linter.unusedSimpArgs false
set_option linter.unusedVariables false
set_option maxRecDepth 10000
variable {n : Nat} {h : AHeap}
/-! ### Words -/
def Words (h : AHeap) (v : Value) (m : Nat) (a : Nat → Nat) : Prop := Cells h v 1 m (fun k _ => .int .u16 (a k : Int)) ∧ ∀ k, k < m → a k < 65536
theorem Words.mono {g : AHeap} {v : Value} {m : Nat} {a : Nat → Nat} (hw : Words h v m a) (hs : Sub All h g) : Words g v m a := ⟨Cells.mono hw.1 hs, hw.2⟩
end Go.Vm.Vat

namespace Go.Vm.Vat
open Go.Proofs
set_option linter.unusedSimpArgs false
set_option linter.unusedVariables false
set_option maxRecDepth 10000
variable {n : Nat} {h : AHeap}
/-- with so many further bundles the vat surely has the blue -/
def Enough (Y : MY) (v f : Nat) (blue : Int) (L : List (Nat → Int)) (k : Nat) : Prop := ∀ t, t ∈ L → blue ≤ blueWith Y v f k t
def s46 : SCode := (.seq (.ops [⟨(some 4), none, .box (T 0)⟩, ⟨(some 8), none, .mov (.const (.int .i64 (0)))⟩, ⟨(some 9), none, .mov (.const (.int .i64 (0)))⟩]) (.seq (.ops [⟨(some 14), none, .loadN 3 (T 4)⟩, ⟨(some 15), none, .call (.func 78) [(T 14)]⟩, ⟨(some 13), none, .mov (T 15)⟩, ⟨(some 16), none, .extract 0 (T 13)⟩, ⟨(some 17), none, .extract 1 (T 13)⟩, ⟨(some 10), none, .alloc [(.slice none 0 0), (.slice none 0 0), (.slice none 0 0), (.slice none 0 0)]⟩, ⟨none, none, .store 4 (T 10) (T 16)⟩, ⟨(some 11), none, .mov (T 17)⟩]) (.seq (.block 0 (.seq (.ops [⟨(some 19), none, .mov (T 11)⟩, ⟨(some 20), none, .int2 .neq (T 19) (.const (.int .i64 (0)))⟩, ⟨(some 18), none, .mov (T 20)⟩]) (.cond (T 18) (.seq (.ops [⟨(some 21), none, .mov (T 11)⟩, ⟨(some 8), none, .mov (.const (.int .i64 (0)))⟩, ⟨(some 9), none, .mov (T 21)⟩]) .ret) (.seq (.ops [⟨(some 23), none, .loadN 4 (T 10)⟩, ⟨(some 24), none, .mov (T 1)⟩, ⟨(some 25), none, .call (.func 92) [(T 23), (T 24)]⟩, ⟨(some 26), none, .not (T 25)⟩, ⟨(some 27), none, .mov (T 26)⟩, ⟨(some 28), (some (27, false)), .loadN 4 (T 10)⟩, ⟨(some 29), (some (27, false)), .mov (T 2)⟩, ⟨(some 30), (some (27, false)), .call (.func 98) [(T 28), (T 29)]⟩, ⟨(some 31), (some (27, false)), .not (T 30)⟩, ⟨(some 32), none, .pick (T 27) (.const (.bool true)) (T 31)⟩, ⟨(some 33), none, .mov (T 32)⟩, ⟨(some 34), (some (33, false)), .mov (T 3)⟩, ⟨(some 35), (some (33, false)), .int2 .lss (T 34) (.const (.int .i64 (0)))⟩, ⟨(some 36), none, .pick (T 33) (.const (.bool true)) (T 35)⟩, ⟨(some 37), none, .mov (T 36)⟩, ⟨(some 38), (some (37, false)), .mov (T 3)⟩, ⟨(some 39), (some (37, false)), .int2 .gtr (T 38) (.const (.int .i64 (999)))⟩, ⟨(some 40), none, .pick (T 37) (.const (.bool true)) (T 39)⟩, ⟨(some 22), none, .mov (T 40)⟩]) (.cond (T 22) (.seq (.ops [⟨(some 8), none, .mov (.const (.int .i64 (0)))⟩, ⟨(some 9), none, .mov (.const (.int .i64 (2)))⟩]) .ret) (.seq (.ops [⟨(some 42), none, .fieldAddr 3 (T 10)⟩, ⟨(some 43), none, .load1 (T 42)⟩, ⟨(some 44), none, .len (T 43)⟩, ⟨(some 45), none, .int2 .eql (T 44) (.const (.int .i64 (0)))⟩, ⟨(some 41), none, .mov (T 45)⟩]) (.cond (T 41) (.seq (.ops [⟨(some 8), none, .mov (.const (.int .i64 (0)))⟩, ⟨(some 9), none, .mov (.const (.int .i64 (11)))⟩]) .ret) .skip))))))) (.seq (.ops [⟨(some 12), none, .mov (.const (.int .i64 (0)))⟩]) (.seq .skip (.seq (.block 1 (.loop (.block 2 (.seq (.block 3 (.seq (.ops [⟨(some 47), none, .loadN 4 (T 10)⟩, ⟨(some 48), none, .mov (T 1)⟩, ⟨(some 49), none, .mov (T 2)⟩, ⟨(some 50), none, .mov (T 12)⟩, ⟨(some 51), none, .call (.func 99) [(T 47), (T 48), (T 49), (T 50)]⟩, ⟨(some 52), none, .mov (T 3)⟩, ⟨(some 53), none, .int2 .geq (T 51) (T 52)⟩, ⟨(some 46), none, .mov (T 53)⟩]) (.cond (T 46) (.exit 1) (.seq (.ops [⟨(some 55), none, .mov (T 12)⟩, ⟨(some 56), none, .int2 .eql (T 55) (.const (.int .i64 (9)))⟩, ⟨(some 54), none, .mov (T 56)⟩]) (.cond (T 54) (.seq (.ops [⟨(some 8), none, .mov (.const (.int .i64 (0)))⟩, ⟨(some 9), none, .mov (.const (.int .i64 (10)))⟩]) .ret) .skip))))) (.ops [⟨(some 57), none, .mov (T 12)⟩, ⟨(some 58), none, .int2 .add (T 57) (.const (.int .i64 (1)))⟩, ⟨(some 12), none, .mov (T 58)⟩]))))) (.seq (.ops [⟨(some 59), none, .mov (T 12)⟩, ⟨(some 8), none, .mov (T 59)⟩, ⟨(some 9), none, .mov (.const (.int .i64 (0)))⟩]) .ret)))))))
end Go.Vm.Vat

namespace Go.Vm.Vat
open Go.Proofs
set_option linter.unusedSimpArgs false
set_option linter.unusedVariables false
set_option maxRecDepth 10000
variable {n : Nat} {h : AHeap}
def s6 : SCode := (.seq (.ops [⟨(some 4), none, .box (T 0)⟩, ⟨(some 8), none, .mov (.const (.bool false))⟩]) (.seq (.seq (.ops [⟨(some 15), none, .loadN 3 (T 4)⟩, ⟨(some 16), none, .call (.func 23) [(T 15)]⟩, ⟨(some 17), none, .not (T 16)⟩]) (.cond (T 17) (.seq (.ops [⟨(some 18), none, .call (.func 24) []⟩, ⟨(some 8), none, .mov (T 18)⟩]) .ret) .skip)) (.seq (.ops [⟨(some 20), none, .loadN 3 (T 4)⟩, ⟨(some 21), none, .call (.func 26) [(T 20)]⟩, ⟨(some 22), none, .mov (T 1)⟩, ⟨(some 23), none, .mov (T 2)⟩, ⟨(some 24), none, .mov (T 3)⟩, ⟨(some 25), none, .call (.func 46) [(T 21), (T 22), (T 23), (T 24)]⟩, ⟨(some 19), none, .mov (T 25)⟩, ⟨(some 26), none, .extract 0 (T 19)⟩, ⟨(some 27), none, .extract 1 (T 19)⟩, ⟨(some 9), none, .mov (T 26)⟩, ⟨(some 10), none, .mov (T 27)⟩]) (.seq (.ops [⟨(some 11), none, .mov (.const (.int .i64 (0)))⟩]) (.seq (.seq (.ops [⟨(some 28), none, .mov (T 1)⟩, ⟨(some 29), none, .fieldAddr 1 (T 4)⟩, ⟨(some 30), none, .load1 (T 29)⟩, ⟨(some 31), none, .len (T 30)⟩, ⟨(some 32), none, .int2 .sub (T 31) (.const (.int .i64 (1)))⟩, ⟨(some 33), none, .call (.func 42) [(T 28), (.const (.int .i64 (0))), (T 32)]⟩, ⟨(some 34), none, .not (T 33)⟩, ⟨(some 35), none, .mov (T 34)⟩, ⟨(some 36), (some (35, false)), .mov (T 2)⟩, ⟨(some 37), (some (35, false)), .fieldAddr 0 (T 4)⟩, ⟨(some 38), (some (35, false)), .load1 (T 37)⟩, ⟨(some 39), (some (35, false)), .len (T 38)⟩, ⟨(some 40), (some (35, false)), .int2 .sub (T 39) (.const (.int .i64 (1)))⟩, ⟨(some 41), (some (35, false)), .call (.func 42) [(T 36), (.const (.int .i64 (0))), (T 40)]⟩, ⟨(some 42), (some (35, false)), .not (T 41)⟩, ⟨(some 43), none, .pick (T 35) (.const (.bool true)) (T 42)⟩, ⟨(some 44), none, .mov (T 43)⟩, ⟨(some 45), (some (44, false)), .mov (T 3)⟩, ⟨(some 46), (some (44, false)), .call (.func 42) [(T 45), (.const (.int .i64 (0))), (.const (.int .i64 (999)))]⟩, ⟨(some 47), (some (44, false)), .not (T 46)⟩, ⟨(some 48), none, .pick (T 44) (.const (.bool true)) (T 47)⟩]) (.cond (T 48) (.ops [⟨(some 11), none, .mov (.const (.int .i64 (2)))⟩]) .skip)) (.seq (.ops [⟨(some 50), none, .loadN 3 (T 4)⟩, ⟨(some 51), none, .mov (T 11)⟩, ⟨(some 52), none, .call (.func 43) [(T 50), (T 51)]⟩, ⟨(some 49), none, .mov (T 52)⟩, ⟨(some 53), none, .extract 0 (T 49)⟩, ⟨(some 54), none, .extract 1 (T 49)⟩, ⟨(some 12), none, .mov (T 53)⟩, ⟨(some 13), none, .mov (T 54)⟩]) (.seq (.seq (.ops [⟨(some 55), none, .mov (T 13)⟩, ⟨(some 56), none, .int2 .neq (T 55) (.const (.int .i64 (0)))⟩]) (.cond (T 56) (.seq (.ops [⟨(some 57), none, .mov (T 10)⟩, ⟨(some 58), none, .mov (T 13)⟩, ⟨(some 59), none, .int2 .eql (T 57) (T 58)⟩, ⟨(some 60), none, .mov (T 59)⟩, ⟨(some 61), (some (60, true)), .mov (T 9)⟩, ⟨(some 62), (some (60, true)), .int2 .eql (T 61) (.const (.int .i64 (0)))⟩, ⟨(some 63), none, .pick (T 60) (T 62) (.const (.bool false))⟩, ⟨(some 64), none, .mov (T 63)⟩, ⟨(some 65), (some (64, true)), .call (.func 24) []⟩, ⟨(some 66), none, .pick (T 64) (T 65) (.const (.bool false))⟩, ⟨(some 8), none, .mov (T 66)⟩]) .ret) .skip)) (.seq (.seq (.ops [⟨(some 67), none, .loadN 3 (T 4)⟩, ⟨(some 68), none, .mov (T 12)⟩, ⟨(some 69), none, .mov (T 1)⟩, ⟨(some 70), none, .mov (T 2)⟩, ⟨(some 71), none, .mov (T 3)⟩, ⟨(some 72), none, .call (.func 47) [(T 67), (T 68), (T 69), (T 70), (T 71)]⟩, ⟨(some 14), none, .mov (T 72)⟩]) (.seq (.ops [⟨(some 73), none, .mov (T 14)⟩, ⟨(some 74), none, .int2 .geq (T 73) (.const (.int .i64 (0)))⟩]) (.cond (T 74) (.seq (.ops [⟨(some 75), none, .mov (T 10)⟩, ⟨(some 76), none, .int2 .eql (T 75) (.const (.int .i64 (0)))⟩, ⟨(some 77), none, .mov (T 76)⟩, ⟨(some 78), (some (77, true)), .mov (T 9)⟩, ⟨(some 79), (some (77, true)), .mov (T 14)⟩, ⟨(some 80), (some (77, true)), .int2 .eql (T 78) (T 79)⟩, ⟨(some 81), none, .pick (T 77) (T 80) (.const (.bool false))⟩, ⟨(some 82), none, .mov (T 81)⟩, ⟨(some 83), (some (82, true)), .call (.func 24) []⟩, ⟨(some 84), none, .pick (T 82) (T 83) (.const (.bool false))⟩, ⟨(some 8), none, .mov (T 84)⟩]) .ret) .skip))) (.seq (.ops [⟨(some 85), none, .mov (T 10)⟩, ⟨(some 86), none, .int2 .eql (T 85) (.const (.int .i64 (10)))⟩, ⟨(some 87), none, .mov (T 86)⟩, ⟨(some 88), (some (87, true)), .mov (T 9)⟩, ⟨(some 89), (some (87, true)), .int2 .eql (T 88) (.const (.int .i64 (0)))⟩, ⟨(some 90), none, .pick (T 87) (T 89) (.const (.bool false))⟩, ⟨(some 91), none, .mov (T 90)⟩, ⟨(some 92), (some (91, true)), .call (.func 24) []⟩, ⟨(some 93), none, .pick (T 91) (T 92) (.const (.bool false))⟩, ⟨(some 8), none, .mov (T 93)⟩]) .ret)))))))))
end Go.Vm.Vat

namespace Go.Vm.Vat
open Go.Proofs
set_option linter.unusedSimpArgs false
set_option linter.unusedVariables false
set_option maxRecDepth 10000
variable {n : Nat} {h : AHeap}
end Go.Vm.Vat

namespace Go.Vm.Vat
open Go.Proofs
set_option linter.unusedSimpArgs false
set_option linter.unusedVariables false
set_option maxRecDepth 10000
variable {n : Nat} {h : AHeap}
theorem ex30 {x y z : Value} : extractA 0 (.tuple ⟨[x, y, z]⟩) h = some (x, h) := id rfl
theorem ex31 {x y z : Value} : extractA 1 (.tuple ⟨[x, y, z]⟩) h = some (y, h) := id rfl
theorem ex32 {x y z : Value} : extractA 2 (.tuple ⟨[x, y, z]⟩) h = some (z, h) := id rfl
theorem sureN_le {Y : MY} (hf : faultN Y = 0) (he : truths Y ≠ []) {v f k : Nat} (hv : v < Y.nv) (hff : f < Y.nf) (hk : k ≤ 100) : sureN Y v f k (truths Y) ≤ 99999 := by
  have hG := good_of hf
  obtain ⟨v1, v2⟩ := hG.v v hv
  obtain ⟨z1, z2, z3⟩ := hG.sz
  obtain ⟨t, ht⟩ := List.exists_mem_of_ne_nil _ he
  have h1 := (le_sureN he).1 (Int.le_refl (sureN Y v f k (truths Y))) t ht
  have hrg := truths_range hf ht
  have b1 := (blueN_bound (b := t) (q := Y.q v) (n := Y.nf) (by omega) hrg (fun j hj => v2 j (by omega)) Y.nf (Nat.le_refl _)).2
  have m1 : (k : Int) * t f ≤ 100 * 20 := Int.mul_le_mul (by omega) (hrg f hff).2 (hrg f hff).1 (by omega)
  unfold blueWith at h1
  omega
end Go.Vm.Vat

namespace Go.Vm.Vat
open Go.Proofs
set_option linter.unusedSimpArgs false
set_option linter.unusedVariables false
set_option maxRecDepth 10000
variable {n : Nat} {h : AHeap}
/-! ### Of two yards with the same vats, one with no other truths than the other one -/
structure Inner (X Y : MY) : Prop where
  nf : X.nf = Y.nf
  nv : X.nv = Y.nv
  q : X.q = Y.q
  fx : faultN X = 0
  fy : faultN Y = 0
  ne : truths X ≠ []
  sub : ∀ t, t ∈ truths X → t ∈ truths Y
theorem Inner.ney {X Y : MY} (hi : Inner X Y) : truths Y ≠ [] := by
  obtain ⟨t, ht⟩ := List.exists_mem_of_ne_nil _ hi.ne
  exact List.ne_nil_of_mem (hi.sub t ht)
theorem Inner.lo {X Y : MY} (hi : Inner X Y) (val : (Nat → Int) → Int) : loN val (truths Y) ≤ loN val (truths X) := (le_loN hi.ne).2 fun t ht => (le_loN hi.ney).1 (Int.le_refl _) t (hi.sub t ht)
theorem Inner.hi {X Y : MY} (hi : Inner X Y) (val : (Nat → Int) → Int) : hiN val (truths X) ≤ hiN val (truths Y) := (hiN_le hi.ne).2 fun t ht => (hiN_le hi.ney).1 (Int.le_refl _) t (hi.sub t ht)
theorem Inner.with_ {X Y : MY} (hi : Inner X Y) (v f k : Nat) (t : Nat → Int) : blueWith X v f k t = blueWith Y v f k t := by unfold blueWith; rw [hi.nf, hi.q]
theorem Inner.enough {X Y : MY} (hi : Inner X Y) {v f : Nat} {b : Int} {k : Nat} (h : Enough Y v f b (truths Y) k) : Enough X v f b (truths X) k := fun t ht => by rw [hi.with_]; exact h t (hi.sub t ht)
theorem Inner.sure {X Y : MY} (hi : Inner X Y) (v f k : Nat) : sureN Y v f k (truths Y) ≤ sureN X v f k (truths X) := by
  rw [le_sureN hi.ne]
  intro t ht
  rw [hi.with_]
  exact (le_sureN hi.ney).1 (Int.le_refl _) t (hi.sub t ht)
theorem Inner.best {X Y : MY} (hi : Inner X Y) {f k : Nat} (hf : f < Y.nf) (hv : 0 < Y.nv) : (bestS Y f k).2 ≤ (bestS X f k).2 := by
  have hvx : 0 < X.nv := by rw [hi.nv]; exact hv
  obtain ⟨b1, b2, _, _⟩ := spRun_is (S := fun v k => sureN Y v f k (truths Y)) (nv := Y.nv) (many := k) hv fun v k h _ => sureN_pos hi.fy hi.ney h hf
  obtain ⟨_, _, c3, _⟩ := spRun_is (S := fun v k => sureN X v f k (truths X)) (nv := X.nv) (many := k) hvx fun v k h _ => sureN_pos hi.fx hi.ne h (by rw [hi.nf]; exact hf)
  have h1 := c3 (bestS Y f k).1 (by rw [hi.nv]; exact b1)
  refine Int.le_trans ?_ h1
  show (spRun _ Y.nv k).2 ≤ _
  rw [b2, hi.nv]
  exact (le_lowS hv).2 fun v hvv => Int.le_trans ((le_lowS hv).1 (Int.le_refl _) v hvv) (hi.sure v f _)
end Go.Vm.Vat

namespace Go.Vm.Vat
open Go.Proofs
set_option linter.unusedSimpArgs false
set_option linter.unusedVariables false
set_option maxRecDepth 10000
variable {n : Nat} {h : AHeap}
end Go.Vm.Vat

namespace Go.Vm.Vat
open Go.Proofs
set_option linter.unusedSimpArgs false
set_option linter.unusedVariables false
set_option maxRecDepth 10000
variable {n : Nat} {h : AHeap}
/-! ### A yard of which another one is a wider one -/
structure Wid (Y X : MY) : Prop where
  nf : Y.nf = X.nf
  nv : Y.nv = X.nv
  q : Y.q = X.q
  ns : Y.ns = X.ns
  lo : ∀ k, k < Y.nf → X.lo k ≤ Y.lo k ∧ Y.hi k ≤ X.hi k
  right : ∀ c k, k < Y.ns → RightB Y c k → RightB X c k
theorem Wid.truth {Y X : MY} (hw : Wid Y X) {t : Nat → Int} (h : t ∈ truths Y) : t ∈ truths X := by
  rw [truths_mem] at h ⊢
  obtain ⟨⟨h1, h2⟩, h3⟩ := h
  have e := hw.nf
  have e2 := hw.ns
  refine ⟨⟨fun j hj => ?_, fun j hj => h2 j (by omega)⟩, fun k hk => hw.right t k (by omega) (h3 k (by omega))⟩
  have h4 := h1 j (by omega)
  have h5 := hw.lo j (by omega)
  omega
/-- what a slice holds, as a list -/
def flatL (s m : Nat) (c : Nat → Nat → Value) : List Value := (List.range (m * s)).map fun i => c (i / s) (i % s)
theorem flatL_len {s m : Nat} {c : Nat → Nat → Value} : (flatL s m c).length = m * s := by simp [flatL]
theorem flatL_get {s m k j : Nat} {c : Nat → Nat → Value} (hk : k < m) (hj : j < s) : (flatL s m c)[k * s + j]? = some (c k j) := by
  have hlt : k * s + j < m * s := by
    have : (k + 1) * s ≤ m * s := Nat.mul_le_mul_right s hk
    rw [Nat.add_mul] at this
    omega
  unfold flatL
  rw [List.getElem?_map, List.getElem?_range hlt, Option.map_some, Nat.mul_comm k s, Nat.mul_add_div (by omega), Nat.div_eq_of_lt hj, Nat.mul_add_mod, Nat.mod_eq_of_lt hj, Nat.add_zero]
theorem Cells.list {v : Value} {s m : Nat} {c : Nat → Nat → Value} (hs : 0 < s) (hi : Cells h v s m c) : ∃ x k, v = .slice x m k ∧ cellsOfSlice h s v = some (flatL s m c) := by
  obtain ⟨x, cap, rfl, _, h0 | ⟨b, o, cs, w, gr, rfl, h1, h2⟩⟩ := hi
  · subst h0
    refine ⟨x, cap, rfl, ?_⟩
    cases x <;> simp [cellsOfSlice, flatL]
  · refine ⟨_, cap, rfl, ?_⟩
    by_cases hm : m = 0
    · subst hm; simp [cellsOfSlice, flatL]
    have hb : Nat.beq m 0 = false := by
      cases hb : Nat.beq m 0 with
      | false => rfl
      | true => exact absurd (beq_iff.1 hb) hm
    show (bif Nat.beq m 0 then some [] else match h.get b with
      | some (.row cs _ _) => dropK cs o fun r => takeK r (m * s) fun l => some l
      | _ => none) = _
    have hl := (List.getElem?_eq_some_iff.1 (h2 (m - 1) (s - 1) (by omega) (by omega))).1
    have hms : (m - 1) * s + s = m * s := by
      obtain ⟨p, rfl⟩ : ∃ p, m = p + 1 := ⟨m - 1, by omega⟩
      rw [Nat.add_sub_cancel, Nat.add_mul, Nat.one_mul]
    rw [hb, cond_false, h1]
    simp only [dropK_eq, takeK_eq]
    rw [if_pos (by omega), if_pos (by rw [List.length_drop]; omega)]
    congr 1
    apply List.ext_getElem?
    intro i
    simp only [List.getElem?_take, List.getElem?_drop]
    by_cases hi : i < m * s
    · rw [if_pos hi]
      have hd : i / s < m := (Nat.div_lt_iff_lt_mul hs).2 hi
      have hr : i % s < s := Nat.mod_lt _ hs
      have e : i / s * s + i % s = i := by have := Nat.div_add_mod i s; rw [Nat.mul_comm] at this; exact this
      have h3 := h2 (i / s) (i % s) hd hr
      have h4 := flatL_get (c := c) hd hr
      rw [e] at h4
      rw [h4, ← h3]
      congr 1
      omega
    · rw [if_neg hi, List.getElem?_eq_none (by rw [flatL_len]; omega)]
end Go.Vm.Vat

namespace Go.Vm.Vat
open Go.Proofs
set_option linter.unusedSimpArgs false
set_option linter.unusedVariables false
set_option maxRecDepth 10000
variable {n : Nat} {h : AHeap}
/-! ### The reference: all spreads, as lists -/
def consF (x : Int) (c : Nat → Int) : Nat → Int := fun j => if j = 0 then x else c (j - 1)
def enumR : Nat → Nat → List (Nat → Int)
  | 0, r => [fun j => if j = 0 then (r : Int) else 0]
  | d + 1, r => (List.range (r + 1)).flatMap fun (k : Nat) => (enumR d (r - k)).map (consF (k : Int))
theorem enumR_S : ∀ (d i r : Nat) (c : Nat → Int), (∀ j, i + d < j → c j = 0) → enumS d i r c = (enumR d r).map fun x j => if j < i then c j else x (j - i)
  | 0, i, r, c, hc => by
    simp only [enumS, enumR, List.map_cons, List.map_nil]
    congr 1
    funext j
    by_cases e : j = i
    · subst e; simp
    · rcases Nat.lt_or_ge j i with h1 | h1
      · simp [e, h1]
      · rw [if_neg e, if_neg (by omega), if_neg (by omega), hc j (by omega)]
  | d + 1, i, r, c, hc => by
    simp only [enumS, enumR, List.map_flatMap]
    congr 1
    funext k
    rw [enumR_S d (i + 1) (r - k) _ fun j hj => by
      have e : ¬ j = i := by omega
      simp only [e, if_false]; exact hc j (by omega), List.map_map]
    congr 1
    funext x j
    simp only [Function.comp, consF]
    by_cases e : j = i
    · subst e; simp
    · rcases Nat.lt_or_ge j i with h1 | h1
      · rw [if_pos (by omega), if_neg e, if_pos h1]
      · rw [if_neg (by omega), if_neg (by omega), if_neg (by omega)]
        congr 1
theorem enumR_zero (d r : Nat) : enumS d 0 r (fun _ => 0) = enumR d r := by
  rw [enumR_S d 0 r _ fun _ _ => rfl]
  have : (fun (x : Nat → Int) j => if j < 0 then (fun _ => (0 : Int)) j else x (j - 0)) = id := by funext x j; simp
  rw [this, List.map_id]
def bndR : Nat → Nat
  | 0 => 10
  | d + 1 => 10 + 10 * (bndR d + 4 * 10 ^ d)
theorem enumR_len (d r : Nat) (hr : r ≤ 9) : (enumR d r).length ≤ 10 ^ d := by
  rw [← enumR_zero]
  exact Nat.le_trans (enumS_len d 0 r _) (Nat.pow_le_pow_left (by omega) d)
theorem append_one {b m : Nat} {x : Value} {y : Value} {new : List Value} (hb : h.get b = some (.row [x] true 0)) (hm : 0 < m) (hm1 : m ≤ 1000) (hy : ∃ a k, y = .slice a m k) (hyc : cellsOfSlice h 1 y = some new) (hnl : new.length = m) :
    appendA 1 8 h (.slice (some ⟨b, 0, none⟩) 1 1) y = newSlice h (x :: new) (1 + m) unk 1 := by
  obtain ⟨a, k, rfl⟩ := hy
  have e1 : Nat.ble ((1 + m) * 8) maxBytes = true := ble_iff.2 (by simp [maxBytes]; omega)
  have e2 : Nat.ble (1 + m) maxBytes = true := ble_iff.2 (by simp [maxBytes]; omega)
  have e3 : Nat.beq (len new) (m * 1) = true := by rw [len_eq]; exact beq_iff.2 (by omega)
  have e4 : Nat.ble (1 + m) 1 = false := by
    cases hb : Nat.ble (1 + m) 1 with
    | false => rfl
    | true => have := ble_iff.1 hb; omega
  have e5 : cellsOfSlice h 1 (.slice (some ⟨b, 0, none⟩) 1 1) = some [x] := by
    show (bif Nat.beq 1 0 then some [] else match h.get b with
      | some (.row cs _ _) => dropK cs 0 fun r => takeK r (1 * 1) fun l => some l
      | _ => none) = _
    have h10 : Nat.beq 1 0 = false := rfl
    rw [hb, h10, cond_false]
    simp only [dropK_eq, takeK_eq]
    rfl
  have e6 : Nat.blt 1 unk = true := rfl
  unfold appendA
  simp only [hyc, e1, e2, e3, Bool.and_self, cond_true, e4, Bool.false_and, cond_false]
  unfold appendGrow
  simp only [e5, e6, cond_true, app_eq, List.cons_append, List.nil_append]
theorem cells_at {g : AHeap} {v : Value} {s n : Nat} {c : Nat → Nat → Value} (hc : Cells h v s n c) (hg : ∀ a k cap, v = .slice (some a) k cap → g.get a.block = h.get a.block) : Cells g v s n c := by
  obtain ⟨a, cap, e, hsp, h0 | ⟨b, o, cs, w, gr, e1, e2, e3⟩⟩ := hc
  · exact ⟨a, cap, e, hsp, .inl h0⟩
  · subst e1
    exact ⟨_, cap, e, hsp, .inr ⟨b, o, cs, w, gr, rfl, by rw [hg _ _ _ e]; exact e2, e3⟩⟩
/-- rows that lie from B on -/
def FreshRows (B : Nat) (h : AHeap) (v : Value) (n : Nat) (cnt : Nat) (L : List (Nat → Int)) : Prop :=
  n = L.length ∧ ∃ r : Nat → Value, Cells h v 1 n (fun k _ => r k) ∧ (∀ a k c, v = .slice (some a) k c → B ≤ a.block ∧ a.block < h.next) ∧ oneCell v = true ∧
    ∀ i, i < n → Ints h (r i) cnt (L.getD i fun _ => 0) ∧ oneCell (r i) = true ∧ ∀ a m c, r i = .slice (some a) m c → B ≤ a.block ∧ a.block < h.next
theorem GrowRows.fresh {B : Nat} {v : Value} {cnt : Nat} {L : List (Nat → Int)} (hg : GrowRows B h v L.length (fun _ => cnt) fun k => L.getD k fun _ => 0) : FreshRows B h v L.length cnt L := by
  obtain ⟨r, h1, h2⟩ := hg
  refine ⟨rfl, r, h1.cells, fun a k c e => h1.block e, h1.one, fun i hi => ⟨(h2 i hi).1, ?_, fun a m c e => ⟨((h2 i hi).2 a m c e).1, ((h2 i hi).2 a m c e).2.1⟩⟩⟩
  exact Cells.one (h2 i hi).1
/-- one list more -/
theorem GrowRows.push2 {B : Nat} {h1 : AHeap} {v l : Value} {n : Nat} {cnt : Nat → Nat} {q : Nat → Nat → Int} (hg : GrowRows B h v n cnt q) (hB : h.floor ≤ B) (hf : h.next + 2 < far) (hBn : B ≤ h.next) (hl : Ints h l (cnt n) (q n)) (hone : oneCell l = true)
    (hb : ∀ a k c, l = .slice (some a) k c → B ≤ a.block ∧ a.block < h.next ∧ ∀ b m' c', v = .slice (some b) m' c' → a.block ≠ b.block) (hx : New h h1 [l] 0) (hn : (n + 1) * 24 ≤ maxBytes) (hn1 : n + 1 ≤ maxBytes) :
    ∃ v' g, appendA 1 24 h1 v (.slice (some ⟨h.next, 0, none⟩) 1 1) = some (v', g) ∧ GrowRows B g v' (n + 1) cnt q ∧ Kept h1 g v ∧ oneCell v' = true ∧ (∀ a k c, v = .slice (some a) k c → B ≤ a.block) ∧ v' = .slice (some ⟨h1.next, 0, none⟩) (n + 1) unk := by
  obtain ⟨r, g1, g2⟩ := hg
  have hnx := hx.next
  have hfl := hx.floor
  let r' : Nat → Value := fun i => if i = n then l else r i
  have g1' : GrowC B h1 v 1 n (fun k _ => r' k) := (g1.sub hx.sub).congr fun k j hk hj => by show r k = if k = n then l else r k; rw [if_neg (by omega)]
  obtain ⟨v', g, e, ev, gv, hk⟩ := g1'.append (bytes := 24) (cap := 1) (by omega) (by omega) (by omega) hx.get rfl (by simp [allB, hone]) (fun j hj => by rw [one_get j hj]; show some l = some (if n = n then l else r n); rw [if_pos rfl]) hn hn1
  refine ⟨v', g, e, ⟨r', gv, fun i hi => ?_⟩, hk, gv.one, fun a k c e => (g1.block e).1, ev⟩
  have hkn := hk.next
  have hmain : ∀ (x : Value) (m : Nat) (a : Nat → Int), Ints h x m a → (∀ a k c, x = .slice (some a) k c → B ≤ a.block ∧ a.block < h.next ∧ ∀ b m' c', v = .slice (some b) m' c' → a.block ≠ b.block) →
      Ints g x m a ∧ ∀ a k c, x = .slice (some a) k c → B ≤ a.block ∧ a.block < g.next ∧ ∀ b m' c', v' = .slice (some b) m' c' → a.block ≠ b.block := by
    intro x m a hx1 hx2
    refine ⟨Cells.kept (Cells.mono hx1 hx.sub) hk fun a k c e b k' c' e' => (hx2 a k c e).2.2 b k' c' e', fun a k c e => ?_⟩
    obtain ⟨k1, k2, _⟩ := hx2 a k c e
    refine ⟨k1, by omega, fun b m' c' e' => ?_⟩
    rw [ev] at e'
    cases e'
    show a.block ≠ h1.next
    omega
  by_cases hin : i = n
  · subst hin
    have : r' i = l := by show (if i = i then l else r i) = l; rw [if_pos rfl]
    rw [this]
    exact hmain l _ _ hl hb
  · have : r' i = r i := by show (if i = n then l else r i) = r i; rw [if_neg hin]
    rw [this]
    obtain ⟨k1, k2⟩ := g2 i (by omega)
    exact hmain _ _ _ k1 k2
def s104 : SCode := (.seq (.ops [⟨(some 4), none, .mov (.const (.slice none 0 0))⟩]) (.seq (.seq (.ops [⟨(some 9), none, .mov (T 1)⟩, ⟨(some 10), none, .int2 .eql (T 9) (.const (.int .i64 (1)))⟩]) (.cond (T 10) (.seq (.ops [⟨(some 11), none, .mov (T 0)⟩, ⟨(some 12), none, .bslice 1 1 [(.int .i64 (0))] [0] [(T 11)]⟩, ⟨(some 13), none, .bslice 1 1 [(.slice none 0 0)] [0] [(T 12)]⟩, ⟨(some 4), none, .mov (T 13)⟩]) .ret) .skip)) (.seq (.ops [⟨(some 5), none, .mov (.const (.slice none 0 0))⟩]) (.seq (.seq (.ops [⟨(some 6), none, .mov (.const (.int .i64 (0)))⟩]) (.block 0 (.loop (.seq (.seq (.ops [⟨(some 14), none, .mov (T 6)⟩, ⟨(some 15), none, .mov (T 0)⟩, ⟨(some 16), none, .int2 .leq (T 14) (T 15)⟩]) (.cond (T 16) .skip (.exit 0))) (.seq (.block 1 (.seq (.ops [⟨(some 19), none, .mov (T 0)⟩, ⟨(some 20), none, .mov (T 6)⟩, ⟨(some 21), none, .int2 .sub (T 19) (T 20)⟩, ⟨(some 22), none, .mov (T 1)⟩, ⟨(some 23), none, .int2 .sub (T 22) (.const (.int .i64 (1)))⟩, ⟨(some 24), none, .call (.func 104) [(T 21), (T 23)]⟩, ⟨(some 7), none, .mov (T 24)⟩]) (.seq (.ops [⟨(some 8), none, .mov (.const (.int .i64 (0)))⟩]) (.block 2 (.loop (.seq (.seq (.ops [⟨(some 25), none, .mov (T 8)⟩, ⟨(some 26), none, .mov (T 7)⟩, ⟨(some 27), none, .len (T 26)⟩, ⟨(some 28), none, .int2 .lss (T 25) (T 27)⟩]) (.cond (T 28) .skip (.exit 2))) (.seq (.block 3 (.ops [⟨(some 31), none, .mov (T 5)⟩, ⟨(some 32), none, .mov (T 6)⟩, ⟨(some 33), none, .bslice 1 1 [(.int .i64 (0))] [0] [(T 32)]⟩, ⟨(some 34), none, .mov (T 7)⟩, ⟨(some 35), none, .mov (T 8)⟩, ⟨(some 36), none, .idxSl 1 (T 34) (T 35)⟩, ⟨(some 37), none, .load1 (T 36)⟩, ⟨(some 38), none, .append 1 8 (T 33) (T 37)⟩, ⟨(some 39), none, .bslice 1 1 [(.slice none 0 0)] [0] [(T 38)]⟩, ⟨(some 40), none, .append 1 24 (T 31) (T 39)⟩, ⟨(some 5), none, .mov (T 40)⟩])) (.ops [⟨(some 29), none, .mov (T 8)⟩, ⟨(some 30), none, .int2 .add (T 29) (.const (.int .i64 (1)))⟩, ⟨(some 8), none, .mov (T 30)⟩])))))))) (.ops [⟨(some 17), none, .mov (T 6)⟩, ⟨(some 18), none, .int2 .add (T 17) (.const (.int .i64 (1)))⟩, ⟨(some 6), none, .mov (T 18)⟩])))))) (.seq (.ops [⟨(some 41), none, .mov (T 5)⟩, ⟨(some 4), none, .mov (T 41)⟩]) .ret)))))
theorem fok104 : FnOk Try.prog 104 42 s104 [.tmp 4] := ⟨Try.f104, _, Try.func104, rfl, Try.ntmps104, by kernel_rfl, by kernel_rfl⟩
theorem spreads_c : ∀ (d r n : Nat) (h : AHeap), 2000 + d ≤ n → d ≤ 3 → r ≤ 9 → h.next + bndR d < far → h.floor ≤ h.next →
    ∃ v h', call n (.func (.func 104) #[] #[]) [.int .i64 (r : Int), .int .i64 ((d + 1 : Nat) : Int)] h = some (v, h') ∧ Made h h' (bndR d) ∧ FreshRows h.next h' v (enumR d r).length (d + 1) (enumR d r) := by
  intro d
  induction d with
  | zero =>
    intro r n h hn hd hr9 hr hfl
    obtain ⟨n, rfl⟩ : ∃ p, n = p + 1 := ⟨n - 1, by omega⟩
    have hb : bndR 0 = 10 := rfl
    have h1 : ((0 + 1 : Nat) : Int) = 1 := rfl
    refine call_any0 fok104 rfl rfl (by simp) ?_
    simp only [rn0, rn1, rn2, rn3, rn4, rn5, rn6, rn7, rn8, if_true, if_false, Nat.le_refl, true_and, and_true, decide_true, decide_false, Bool.not_true, Bool.not_false, reduceIte, Nat.reduceEqDiff, Nat.reduceAdd, Nat.reduceMul, Nat.reduceSub, Nat.reduceLeDiff, Nat.reduceLT, s104, h1, sl_int]
    refine step_slice (by omega) rfl fun g1 hx1 => ?_
    have n1 := hx1.next
    have f1 := hx1.floor
    simp only [rn0, rn1, rn2, rn3, rn4, rn5, rn6, rn7, rn8, if_true, if_false, Nat.le_refl, true_and, and_true, decide_true, decide_false, Bool.not_true, Bool.not_false, reduceIte, Nat.reduceEqDiff, Nat.reduceAdd, Nat.reduceMul, Nat.reduceSub, Nat.reduceLeDiff, Nat.reduceLT, sl_row (v := .slice (some ⟨h.next, 0, none⟩) 1 1) rfl]
    refine step_slice (by omega) rfl fun g2 hx2 => ?_
    have n2 := hx2.next
    have f2 := hx2.floor
    simp only [rn0, rn1, rn2, rn3, rn4, rn5, rn6, rn7, rn8, if_true, if_false, Nat.le_refl, true_and, and_true, decide_true, decide_false, Bool.not_true, Bool.not_false, reduceIte, Nat.reduceEqDiff, Nat.reduceAdd, Nat.reduceMul, Nat.reduceSub, Nat.reduceLeDiff, Nat.reduceLT]
    refine ⟨⟨hx1.sub.trans hx2.sub, by omega, by omega, by omega⟩, rfl, fun _ => .slice (some ⟨h.next, 0, none⟩) 1 1, ⟨_, _, rfl, fun x e => by cases e; rfl, .inr ⟨_, 0, _, _, _, rfl, hx2.get, fun i j hi hj => ?_⟩⟩, fun a k c e => by cases e; exact ⟨by show h.next ≤ g1.next; omega, by show g1.next < g2.next; omega⟩, rfl, fun i hi => ⟨⟨_, _, rfl, fun x e => by cases e; rfl, .inr ⟨_, 0, _, _, _, rfl, hx2.sub _ _ _ _ trivial hx1.get, fun k j hk hj => ?_⟩⟩, rfl, fun a m c e => by cases e; exact ⟨Nat.le_refl _, by show h.next < g2.next; omega⟩⟩⟩
    · have hi : i < 1 := hi
      obtain rfl : i = 0 := by omega
      obtain rfl : j = 0 := by omega
      rfl
    · have hi : i < 1 := hi
      obtain rfl : i = 0 := by omega
      obtain rfl : k = 0 := by omega
      obtain rfl : j = 0 := by omega
      rfl
  | succ d ih =>
    intro r n h hn hd hr9 hr hfl
    obtain ⟨n, rfl⟩ : ∃ p, n = p + 1 := ⟨n - 1, by omega⟩
    have hb : bndR (d + 1) = 10 + 10 * (bndR d + 4 * 10 ^ d) := rfl
    have hv1 : ¬ ((d + 1 + 1 : Nat) : Int) = 1 := by omega
    have hwv : wrapF .i64 (((d + 1 + 1 : Nat) : Int) - 1) = ((d + 1 : Nat) : Int) := by rw [wrap_in (by omega) (by omega)]; omega
    refine call_any0 fok104 rfl rfl (by simp) ?_
    simp only [rn0, rn1, rn2, rn3, rn4, rn5, rn6, rn7, rn8, if_true, if_false, Nat.le_refl, true_and, and_true, decide_true, decide_false, Bool.not_true, Bool.not_false, reduceIte, Nat.reduceEqDiff, Nat.reduceAdd, Nat.reduceMul, Nat.reduceSub, Nat.reduceLeDiff, Nat.reduceLT, s104, hv1]
    let part : Nat → List (Nat → Int) := fun k => (enumR d (r - k)).map (consF (k : Int))
    have hen : enumR (d + 1) r = (List.range (r + 1)).flatMap part := rfl
    have hpl : ∀ k, (part k).length ≤ 10 ^ d := fun k => by
      show ((enumR d (r - k)).map _).length ≤ _
      rw [List.length_map]; exact enumR_len d _ (by omega)
    have hacc : ∀ k, k ≤ r + 1 → ((List.range k).flatMap part).length ≤ k * 10 ^ d := by
      intro k
      induction k with
      | zero => intro _; simp
      | succ k ihk =>
        intro hk
        rw [List.range_succ, List.flatMap_append, List.length_append, Nat.succ_mul]
        have h1 := ihk (by omega)
        have h2 := hpl k
        simp only [List.flatMap_cons, List.flatMap_nil, List.append_nil]
        omega
    have h10 : 10 ^ d ≤ 10 ^ 2 := Nat.pow_le_pow_right (by omega) (by omega)
    obtain ⟨P, hP⟩ : ∃ P, P = 10 ^ d := ⟨_, rfl⟩
    rw [← hP] at hb hacc hpl h10
    obtain ⟨Bd, hBd⟩ : ∃ B, B = bndR d + 4 * P := ⟨_, rfl⟩
    rw [← hBd] at hb
    have hmulP : ∀ k, k ≤ r + 1 → k * P ≤ 10 * P := fun k hk => Nat.mul_le_mul_right P (by omega)
    have hmulB : ∀ k, k ≤ r + 1 → Bd * k ≤ Bd * 10 := fun k hk => Nat.mul_le_mul_left Bd (by omega)
    refine W_loop (r + 1) (fun k f g ms => (∃ v, Sub All h g ∧ g.floor = h.floor ∧ h.next ≤ g.next ∧ g.next ≤ h.next + Bd * k ∧ GrowRows h.next g v ((List.range k).flatMap part).length (fun _ => d + 1 + 1) (fun i => ((List.range k).flatMap part).getD i fun _ => 0) ∧ f 5 = v) ∧ ms = [] ∧ f 0 = .int .i64 (r : Int) ∧ f 1 = .int .i64 ((d + 1 + 1 : Nat) : Int) ∧ f 6 = .int .i64 (k : Int)) (by simp; omega) ?_ ?_ ?_
    · simp only [rn0, rn1, rn2, rn3, rn4, rn5, rn6, rn7, rn8, if_true, if_false, Nat.le_refl, true_and, and_true, decide_true, decide_false, Bool.not_true, Bool.not_false, reduceIte, Nat.reduceEqDiff, Nat.reduceAdd, Nat.reduceMul, Nat.reduceSub, Nat.reduceLeDiff, Nat.reduceLT]
      exact ⟨⟨_, by omega, .nil, rfl⟩, rfl⟩
    · rintro k f g ms hk ⟨⟨v, hs, fg, ug, bg, gv, p5⟩, rfl, p0, p1, p6⟩
      have hk' : (k : Int) ≤ (r : Int) := by omega
      have hwk : wrapF .i64 ((k : Int) + 1) = ((k + 1 : Nat) : Int) := by rw [wrap_in (by omega) (by omega)]; rfl
      have hwr : wrapF .i64 ((r : Int) - (k : Int)) = ((r - k : Nat) : Int) := by rw [wrap_in (by omega) (by omega)]; omega
      have hB1 := hmulB (k + 1) (by omega)
      have hB2 : Bd * (k + 1) = Bd * k + Bd := Nat.mul_succ _ _
      obtain ⟨v1, g2, ec, m2, hlen, rr, hc1, hb1, ho1, hr1⟩ := ih (r - k) n g (by omega) (by omega) (by omega) (by omega) (by omega)
      have n2 := m2.next
      have u2 := m2.up
      have f2 := m2.floor
      obtain ⟨acc, hac⟩ : ∃ acc, acc = (List.range k).flatMap part := ⟨_, rfl⟩
      have haccl := hacc k (by omega)
      have hmP := hmulP k (by omega)
      rw [← hac] at gv haccl
      have hal : acc.length ≤ 1000 := by omega
      have hl1 := hpl k
      have hpk : (part k).length = (enumR d (r - k)).length := by show ((enumR d (r - k)).map _).length = _; rw [List.length_map]
      obtain ⟨m, hm⟩ : ∃ m, m = (enumR d (r - k)).length := ⟨_, rfl⟩
      rw [← hm] at hc1 hr1 hpk
      have hcat : ∀ i, i < m → (acc ++ part k).getD (acc.length + i) (fun _ => 0) = consF (k : Int) ((enumR d (r - k)).getD i fun _ => 0) := fun i hi => by
        rw [List.getD_eq_getElem?_getD, List.getElem?_append_right (by omega), Nat.add_sub_cancel_left]
        show (((enumR d (r - k)).map (consF (k : Int)))[i]?).getD _ = _
        rw [List.getElem?_map, List.getElem?_eq_getElem (by omega), List.getD_eq_getElem?_getD, List.getElem?_eq_getElem (by omega)]
        rfl
      simp only [rn0, rn1, rn2, rn3, rn4, rn5, rn6, rn7, rn8, if_true, if_false, Nat.le_refl, true_and, and_true, decide_true, decide_false, Bool.not_true, Bool.not_false, reduceIte, Nat.reduceEqDiff, Nat.reduceAdd, Nat.reduceMul, Nat.reduceSub, Nat.reduceLeDiff, Nat.reduceLT, p0, p1, p5, p6, hk', hwr, hwv, ec]
      refine W_loop m (fun i f g' ms => (∃ v, Sub All h g' ∧ (∀ b, g.next ≤ b → b < g2.next → g'.get b = g2.get b) ∧ g'.floor = h.floor ∧ g2.next ≤ g'.next ∧ g'.next ≤ g2.next + 4 * i ∧ GrowRows h.next g' v (acc.length + i) (fun _ => d + 1 + 1) (fun j => (acc ++ part k).getD j fun _ => 0) ∧ (∀ b k' c, v = .slice (some b) k' c → b.block < g.next ∨ g2.next ≤ b.block) ∧ f 5 = v) ∧ ms = [] ∧ f 0 = .int .i64 (r : Int) ∧ f 1 = .int .i64 ((d + 1 + 1 : Nat) : Int) ∧ f 6 = .int .i64 (k : Int) ∧ f 7 = v1 ∧ f 8 = .int .i64 (i : Int)) (by simp; omega) ?_ ?_ ?_
      · simp only [rn0, rn1, rn2, rn3, rn4, rn5, rn6, rn7, rn8, if_true, if_false, Nat.le_refl, true_and, and_true, decide_true, decide_false, Bool.not_true, Bool.not_false, reduceIte, Nat.reduceEqDiff, Nat.reduceAdd, Nat.reduceMul, Nat.reduceSub, Nat.reduceLeDiff, Nat.reduceLT, p0, p1, p5, p6]
        refine ⟨⟨_, hs.trans m2.sub, fun _ _ _ => trivial, by omega, by omega, (gv.sub m2.sub u2).congr (fun _ _ => rfl) fun i hi => ?_, fun b k' c e => .inl ?_, rfl⟩, rfl⟩
        · rw [List.getD_eq_getElem?_getD, List.getD_eq_getElem?_getD, List.getElem?_append_left hi]
        · obtain ⟨r', q1, _⟩ := gv
          exact (q1.block e).2
      · rintro i f g' ms hi ⟨⟨v, hs', hold, fg', ug', bg', gv', hvb, p5⟩, rfl, p0, p1, p6, p7, p8⟩
        have hi' : (i : Int) < (m : Int) := by omega
        have hwi : wrapF .i64 ((i : Int) + 1) = ((i + 1 : Nat) : Int) := by rw [wrap_in (by omega) (by omega)]; rfl
        have hc' : Cells g' v1 1 m fun k _ => rr k := cells_at hc1 fun a k c e => by have := hb1 a k c e; exact hold _ this.1 this.2
        obtain ⟨q1, q2, q3⟩ := hr1 i hi
        have hri : Ints g' (rr i) (d + 1) ((enumR d (r - k)).getD i fun _ => 0) := cells_at q1 fun a k c e => by have := q3 a k c e; exact hold _ this.1 this.2
        simp only [rn0, rn1, rn2, rn3, rn4, rn5, rn6, rn7, rn8, if_true, if_false, Nat.le_refl, true_and, and_true, decide_true, decide_false, Bool.not_true, Bool.not_false, reduceIte, Nat.reduceEqDiff, Nat.reduceAdd, Nat.reduceMul, Nat.reduceSub, Nat.reduceLeDiff, Nat.reduceLT, p0, p1, p5, p6, p7, p8, Cells.len hc', hi', sl_int]
        refine step_slice (by omega) rfl fun g3 hx3 => ?_
        have n3 := hx3.next
        have f3 := hx3.floor
        have hri3 := Cells.mono hri hx3.sub
        obtain ⟨xa, xk, xe, xl⟩ := Ints.cells hri3
        have hap := append_one (h := g3) (b := g'.next) hx3.get (m := d + 1) (by omega) (by omega) ⟨_, _, xe⟩ xl (by simp)
        simp only [rn0, rn1, rn2, rn3, rn4, rn5, rn6, rn7, rn8, if_true, if_false, Nat.le_refl, true_and, and_true, decide_true, decide_false, Bool.not_true, Bool.not_false, reduceIte, Nat.reduceEqDiff, Nat.reduceAdd, Nat.reduceMul, Nat.reduceSub, Nat.reduceLeDiff, Nat.reduceLT, p0, p1, p5, p6, p7, p8, Cells.idx (Cells.mono hc' hx3.sub) hi, Cells.ld (Cells.mono hc' hx3.sub) hi Nat.zero_lt_one, hap]
        refine step_slice (by omega) (by rw [allB_iff]; intro x hx; rcases List.mem_cons.1 hx with rfl | hx; rfl; obtain ⟨_, _, rfl⟩ := List.mem_map.1 hx; rfl) fun g4 hx4 => ?_
        have n4 := hx4.next
        have f4 := hx4.floor
        have hl4 : Ints g4 (.slice (some ⟨g3.next, 0, none⟩) (1 + (d + 1)) unk) (d + 1 + 1) (consF (k : Int) ((enumR d (r - k)).getD i fun _ => 0)) := by
          rw [Nat.add_comm 1 (d + 1)]
          refine ⟨_, _, rfl, fun x e => by cases e; rfl, .inr ⟨_, 0, _, _, _, rfl, hx4.get, fun j jj hj hjj => ?_⟩⟩
          obtain rfl : jj = 0 := by omega
          rw [show 0 + j * 1 + 0 = j by omega]
          cases j with
          | zero => rfl
          | succ j =>
            rw [List.getElem?_cons_succ, List.getElem?_map, List.getElem?_range (by omega)]
            rfl
        simp only [rn0, rn1, rn2, rn3, rn4, rn5, rn6, rn7, rn8, if_true, if_false, Nat.le_refl, true_and, and_true, decide_true, decide_false, Bool.not_true, Bool.not_false, reduceIte, Nat.reduceEqDiff, Nat.reduceAdd, Nat.reduceMul, Nat.reduceSub, Nat.reduceLeDiff, Nat.reduceLT, p0, p1, p5, p6, p7, p8, sl_row (v := .slice (some ⟨g3.next, 0, none⟩) (1 + (d + 1)) unk) rfl]
        refine step_slice (by omega) rfl fun g5 hx5 => ?_
        have n5 := hx5.next
        have f5 := hx5.floor
        have sub4 : Sub All g' g4 := hx3.sub.trans hx4.sub
        obtain ⟨v', g6, e6, gv6, hk6, hv1', hvB, hv'⟩ := (gv'.sub sub4 (by omega)).push2 (h1 := g5) (l := .slice (some ⟨g3.next, 0, none⟩) (1 + (d + 1)) unk) (by omega) (by omega) (by omega) (by rw [hcat i hi]; exact hl4) rfl (fun a k' c e => by
          cases e
          refine ⟨by show h.next ≤ g3.next; omega, by show g3.next < g4.next; omega, fun b m' c' e' => ?_⟩
          obtain ⟨r', q1, _⟩ := gv'
          have := (q1.block e').2
          show g3.next ≠ b.block
          omega) hx5 (by simp [maxBytes]; omega) (by simp [maxBytes]; omega)
        have n6 := hk6.next
        have f6 := hk6.floor
        simp only [rn0, rn1, rn2, rn3, rn4, rn5, rn6, rn7, rn8, if_true, if_false, Nat.le_refl, true_and, and_true, decide_true, decide_false, Bool.not_true, Bool.not_false, reduceIte, Nat.reduceEqDiff, Nat.reduceAdd, Nat.reduceMul, Nat.reduceSub, Nat.reduceLeDiff, Nat.reduceLT, p0, p1, p5, p6, p7, p8, e6, hwi]
        refine ⟨v', fun x cs w gr t hg => ?_, fun b hb1 hb2 => ?_, by omega, by omega, by omega, gv6, ?_, rfl⟩
        · have hlt := AHeap.lt_of_get hg
          rw [hk6.old x (by omega) fun b q z e => by have := hvB b q z e; omega]
          exact hx5.sub _ _ _ _ t (sub4 _ _ _ _ t (hs' _ _ _ _ t hg))
        · rw [hk6.old b (by omega) fun a q z e => by have := hvb a q z e; omega, hx5.old b (by omega), hx4.old b (by omega), hx3.old b (by omega)]
          exact hold b hb1 hb2
        · intro b k' c e
          rw [hv'] at e
          cases e
          right
          show g2.next ≤ g5.next
          omega
      · rintro f g' ms ⟨⟨v, hs', hold, fg', ug', bg', gv', hvb, p5⟩, rfl, p0, p1, p6, p7, p8⟩
        have hc' : Cells g' v1 1 m fun k _ => rr k := cells_at hc1 fun a k c e => by have := hb1 a k c e; exact hold _ this.1 this.2
        have hfin : (List.range (k + 1)).flatMap part = acc ++ part k := by rw [List.range_succ, List.flatMap_append, ← hac]; simp
        simp only [rn0, rn1, rn2, rn3, rn4, rn5, rn6, rn7, rn8, if_true, if_false, Nat.le_refl, true_and, and_true, decide_true, decide_false, Bool.not_true, Bool.not_false, reduceIte, Nat.reduceEqDiff, Nat.reduceAdd, Nat.reduceMul, Nat.reduceSub, Nat.reduceLeDiff, Nat.reduceLT, p0, p1, p5, p6, p7, p8, Cells.len hc', Int.lt_irrefl, hwk]
        rw [hfin, List.length_append, hpk]
        exact ⟨_, hs', by omega, by omega, by omega, gv', rfl⟩
    · rintro f g ms ⟨⟨v, hs, fg, ug, bg, gv, p5⟩, rfl, p0, p1, p6⟩
      have hk' : ¬ ((r + 1 : Nat) : Int) ≤ (r : Int) := by omega
      have hB1 := hmulB (r + 1) (by omega)
      simp only [rn0, rn1, rn2, rn3, rn4, rn5, rn6, rn7, rn8, if_true, if_false, Nat.le_refl, true_and, and_true, decide_true, decide_false, Bool.not_true, Bool.not_false, reduceIte, Nat.reduceEqDiff, Nat.reduceAdd, Nat.reduceMul, Nat.reduceSub, Nat.reduceLeDiff, Nat.reduceLT, p0, p1, p5, p6, hk']
      rw [hen]
      exact ⟨⟨hs, by omega, by omega, by omega⟩, gv.fresh⟩
end Go.Vm.Vat
